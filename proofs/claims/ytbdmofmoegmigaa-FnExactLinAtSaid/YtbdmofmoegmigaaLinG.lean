/- Contract of the program's wideLin.narrow: a constraint of new memory. -/
import Derived.Test.YtbdmofmoegmigaaLinF
namespace Go.Proofs.Ytbdmofmoegmigaa
set_option linter.unusedVariables false
set_option linter.unusedSimpArgs false
open Go.RowKit
/-- a row of n numbers in a block that is new since W -/
def OwnI (W w' : World) (A : Option Addr) (n : Nat) (Z : Nat → Int) : Prop :=
  n = 0 ∨ ∃ g, A = some ⟨g, 0, none⟩ ∧ W.heap.size ≤ g ∧ g < w'.heap.size ∧ ∀ k, k < n → w'.cell? ⟨g, k, none⟩ = some (.int .i64 (Z k)) ∧ w'.frozen? ⟨g, k, none⟩ = false
/-- a constraint: how many coefficients, which, the bound, strict -/
abbrev LinR := Nat × (Nat → Int) × Int × Bool
def zeroL : LinR := (0, fun _ => 0, 0, false)
/-- a value that reads as a constraint of new memory -/
def NewL (W : World) (r : LinR) (v : Value) (w' : World) : Prop :=
  ∃ A c, v = .agg #[.slice A r.1 c, .int .i64 r.2.2.1, .bool r.2.2.2] ∧ r.1 ≤ c ∧ c ≤ 9223372036854775807 ∧ OwnI W w' A r.1 r.2.1
theorem NewL.zero (W w' : World) : NewL W zeroL (.agg #[.slice none 0 0, .int .i64 0, .bool false]) w' := ⟨none, 0, rfl, Nat.le_refl _, by omega, .inl rfl⟩
def row4 (a b c d : Int) : Nat → Int := fun k => if k = 0 then a else if k = 1 then b else if k = 2 then c else d
theorem lt4 {k : Nat} (h : k < 4) : k = 0 ∨ k = 1 ∨ k = 2 ∨ k = 3 := by omega
def narR (c0 c1 c2 c3 b : Int) (s : Bool) : LinR := if rngB c0 c1 c2 c3 b = true then (4, row4 c0 c1 c2 c3, b, s) else zeroL
def NarP (w : World) (c0 c1 c2 c3 b : Int) (s : Bool) (e : Ending) (w' : World) : Prop :=
  ∃ v, e = .returned (.tuple #[v, .bool (rngB c0 c1 c2 c3 b)]) ∧ NewL w (narR c0 c1 c2 c3 b s) v w' ∧ Below w.heap.size w w'
theorem mk4 (w : World) : (Instr.makeSlice 23 (.int .i64 4) (.int .i64 4)).run Try.prog w = .ok (.slice (some ⟨w.heap.size, 0, none⟩) 4 4) (w.alloc (.cells #[.int .i64 0, .int .i64 0, .int .i64 0, .int .i64 0] 3)) := by kernel_rfl
theorem nar_no {c0 c1 c2 c3 b : Int} {s : Bool} {w w' : World} (h : rngB c0 c1 c2 c3 b = false) (hb : Below w.heap.size w w') : NarP w c0 c1 c2 c3 b s (.returned (.tuple #[.agg #[.slice none 0 0, .int .i64 0, .bool false], .bool false])) w' :=
  ⟨_, by rw [h], by unfold narR; rw [h, if_neg (by simp)]; exact NewL.zero _ _, hb⟩
theorem nar_yes {c0 c1 c2 c3 b : Int} {s : Bool} {w w' : World} {g : Nat} (h : rngB c0 c1 c2 c3 b = true) (hg : w.heap.size ≤ g) (hg' : g < w'.heap.size) (k0 : w'.cell? ⟨g, 0, none⟩ = some (.int .i64 c0)) (k1 : w'.cell? ⟨g, 1, none⟩ = some (.int .i64 c1)) (k2 : w'.cell? ⟨g, 2, none⟩ = some (.int .i64 c2)) (k3 : w'.cell? ⟨g, 3, none⟩ = some (.int .i64 c3))
    (hf : ∀ k, w'.frozen? ⟨g, k, none⟩ = false) (hb : Below w.heap.size w w') : NarP w c0 c1 c2 c3 b s (.returned (.tuple #[.agg #[.slice (some ⟨g, 0, none⟩) 4 4, .int .i64 b, .bool s], .bool true])) w' := by
  refine ⟨_, by rw [h], ?_, hb⟩
  unfold narR; rw [h, if_pos rfl]
  refine ⟨some ⟨g, 0, none⟩, 4, rfl, Nat.le_refl _, by omega, .inr ⟨g, rfl, hg, hg', fun k hk => ⟨?_, hf k⟩⟩⟩
  rcases lt4 hk with rfl | rfl | rfl | rfl <;> assumption
set_option maxRecDepth 100000 in
set_option maxHeartbeats 2000000 in
theorem narrow_no (c0 c1 c2 c3 b : Int) (s : Bool) (w : World) (h : rngB c0 c1 c2 c3 b = false) :
    Calls Try.prog 86 #[.agg #[.int .i64 c0, .int .i64 c1, .int .i64 c2, .int .i64 c3, .int .i64 b, .bool s]] w (NarP w c0 c1 c2 c3 b s) := by
  have H := hid h
  have hI := fun W => inrange_any c0 c1 c2 c3 b s W
  rw [h] at hI
  clear h
  go_enter Try.func86, Try.ntmps86
  go_wp2_with (go_at_call 125; refine (hI _).mono ?_; rintro e w1 ⟨rfl, hq⟩; obtain ⟨hc, hf⟩ := bcell hq)
  clear hI
  have e0 : w1.cell? ⟨w.heap.size + 1, 0, none⟩ = some (.slice none 0 0) := by rw [hc _ _ (by simp <;> omega)]; simp [go_sem]
  have e1 : w1.cell? ⟨w.heap.size + 1, 1, none⟩ = some (.int .i64 0) := by rw [hc _ _ (by simp <;> omega)]; simp [go_sem]
  have e2 : w1.cell? ⟨w.heap.size + 1, 2, none⟩ = some (.bool false) := by rw [hc _ _ (by simp <;> omega)]; simp [go_sem]
  obtain ⟨t0, t1, t2⟩ := set3 e0 e1 e2 (.slice none 0 0) (.int .i64 0) (.bool false)
  clear hc hf
  refine bodyPost_ret (v := .tuple #[.agg #[.slice none 0 0, .int .i64 0, .bool false], .bool false]) (by simp [results, Try.results86, go_sem, t0, t1, t2]) rfl (nar_no H.out ?_)
  (repeat first | with_reducible exact Below.refl _ _ | with_reducible assumption | with_reducible refine Below.drew ?_ | with_reducible refine bdn ?_ _ | with_reducible refine bal ?_ _ | (with_reducible refine bst ?_ ?_ _; rotate_left; (simp <;> omega)) | (with_reducible refine btr ?_ (by with_reducible assumption)))
set_option maxRecDepth 100000 in
set_option maxHeartbeats 2000000 in
theorem narrow_yes (c0 c1 c2 c3 b : Int) (s : Bool) (w : World) (h : rngB c0 c1 c2 c3 b = true) :
    Calls Try.prog 86 #[.agg #[.int .i64 c0, .int .i64 c1, .int .i64 c2, .int .i64 c3, .int .i64 b, .bool s]] w (NarP w c0 c1 c2 c3 b s) := by
  have H := hid h
  have hI := fun W => inrange_any c0 c1 c2 c3 b s W
  rw [h] at hI
  clear h
  have i0 := idx0
  have i1 := idx1
  have i2 := idx2
  have i3 := idx3
  have hmk := mk4
  go_enter Try.func86, Try.ntmps86
  go_wp2_with (go_at_call 125; refine (hI _).mono ?_; rintro e w1 ⟨rfl, hq⟩; obtain ⟨hc, hf⟩ := bcell hq; have hz := hq.size; have hz0 : w.heap.size < w1.heap.size := (by simp at hz; omega); have hz1 : w.heap.size + 1 < w1.heap.size := (by simp at hz; omega); clear hz; have ca := (fun (x : Obj) (b o : Nat) (h : b < w1.heap.size) => World.cell?_alloc_lt w1 x ⟨b, o, none⟩ h))
  refine wp_loop_rounds 5 ?_
  rw [rounds_succ]
  go_wp2
  rw [rounds_succ]
  go_wp2
  rw [rounds_succ]
  go_wp2
  rw [rounds_succ]
  go_wp2
  rw [rounds_succ]
  go_wp2
  clear ca hI i0 i1 i2 i3 hmk
  have e0 : w1.cell? ⟨w.heap.size + 1, 0, none⟩ = some (.slice none 0 0) := by rw [hc _ _ (by simp <;> omega)]; simp [go_sem]
  have e1 : w1.cell? ⟨w.heap.size + 1, 1, none⟩ = some (.int .i64 0) := by rw [hc _ _ (by simp <;> omega)]; simp [go_sem]
  have e2 : w1.cell? ⟨w.heap.size + 1, 2, none⟩ = some (.bool false) := by rw [hc _ _ (by simp <;> omega)]; simp [go_sem]
  obtain ⟨t0, t1, t2⟩ := set3 e0 e1 e2 (.slice (some ⟨w1.heap.size, 0, none⟩) 4 4) (.int .i64 b) (.bool s)
  clear hc hf
  replace t0 := carryA (.cells #[.int .i64 c0, .int .i64 c1, .int .i64 c2, .int .i64 c3] 3) t0
  replace t1 := carryA (.cells #[.int .i64 c0, .int .i64 c1, .int .i64 c2, .int .i64 c3] 3) t1
  replace t2 := carryA (.cells #[.int .i64 c0, .int .i64 c1, .int .i64 c2, .int .i64 c3] 3) t2
  refine bodyPost_ret (v := .tuple #[.agg #[.slice (some ⟨w1.heap.size, 0, none⟩) 4 4, .int .i64 b, .bool s], .bool true]) (by simp [results, Try.results86, go_sem, t0, t1, t2]) rfl (nar_yes (g := w1.heap.size) H.out (by omega) (by simp [go_sem]) (by simp [go_sem]) (by simp [go_sem]) (by simp [go_sem]) (by simp [go_sem]) (fun k => by simp [go_sem]) ?_)
  (repeat first | with_reducible exact Below.refl _ _ | with_reducible assumption | with_reducible refine Below.drew ?_ | with_reducible refine bdn ?_ _ | with_reducible refine bal ?_ _ | (with_reducible refine bst ?_ ?_ _; rotate_left; (simp <;> omega)) | (with_reducible refine btr ?_ (by with_reducible assumption)))
theorem lnarrow_any (c0 c1 c2 c3 b : Int) (s : Bool) (w : World) :
    Calls Try.prog 86 #[.agg #[.int .i64 c0, .int .i64 c1, .int .i64 c2, .int .i64 c3, .int .i64 b, .bool s]] w (NarP w c0 c1 c2 c3 b s) := by
  cases h : rngB c0 c1 c2 c3 b
  · exact narrow_no c0 c1 c2 c3 b s w h
  · exact narrow_yes c0 c1 c2 c3 b s w h
end Go.Proofs.Ytbdmofmoegmigaa
