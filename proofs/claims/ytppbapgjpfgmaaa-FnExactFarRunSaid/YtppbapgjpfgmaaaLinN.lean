/- Contracts of the laws' helpers over a constraint: the size, the copy, the comparison, marks and what is held. -/
import Derived.Test.YtppbapgjpfgmaaaBI
import Derived.Test.YtppbapgjpfgmaaaBT
namespace Go.Proofs.Ytppbapgjpfgmaaa
set_option linter.unusedVariables false
set_option linter.unusedSimpArgs false
open Go.RowKit
set_option maxHeartbeats 1000000 in
theorem szlin_any (A : Option Addr) (n c : Nat) (b l : Int) (s : Bool) (w : World) (hn : n ≤ 9223372036854775807) (hl : 0 ≤ l ∧ l ≤ 1048576) :
    Calls Try.prog 20 #[.agg #[.slice A n c, .int .i64 b, .bool s], .int .i64 l] w fun e w' => e = .returned (.int .i64 (if l < n then -1 else l - n)) ∧ Below w.heap.size w w' := by
  have hS := fun W => szints_any A n c l W hn hl
  obtain ⟨l1, l2⟩ := hl
  by_cases h : l < n
  · rw [if_pos h] at hS ⊢
    clear h
    go_enter Try.func20, Try.ntmps20
    go_wp2_with (go_at_call 38; refine (hS _).mono ?_; rintro e w1 ⟨rfl, rfl⟩)
    go_ret
    exact ⟨rfl, bal (Below.refl _ _) _⟩
  · rw [if_neg h] at hS ⊢
    have h2 : 0 ≤ l - n := by omega
    generalize l - (n : Int) = q at *
    clear h
    go_enter Try.func20, Try.ntmps20
    go_wp2_with (go_at_call 38; refine (hS _).mono ?_; rintro e w1 ⟨rfl, rfl⟩)
    go_ret
    exact ⟨rfl, bal (Below.refl _ _) _⟩
theorem own_row {W w1 : World} {g n : Nat} {t : TypeId} {Z : Nat → Int} (hg : W.heap.size ≤ g) (hr : w1.rowIs g t n (fun k => .int .i64 (Z k))) : OwnI W w1 (some ⟨g, 0, none⟩) n Z :=
  .inr ⟨g, rfl, hg, hr.lt, fun k hk => ⟨hr.cell hk, hr.frozen k⟩⟩
set_option maxHeartbeats 1000000 in
theorem tolin_any (A : Option Addr) (n c : Nat) (Z : Nat → Int) (b : Int) (s : Bool) (w : World) (hn : n ≤ 1048576) (hA : Ints w A n Z) :
    Calls Try.prog 24 #[.agg #[.slice A n c, .int .i64 b, .bool s]] w (NotP w (n, Z, b, s)) := by
  have hT := fun W (hb : Below w.heap.size w W) => toints_any A n c Z W hn (hA.below hb)
  clear hA
  go_enter Try.func24, Try.ntmps24
  go_wp2_with fail
  refine (hT _ (bal (bal (bal (Below.refl _ _) _) _) _)).mono ?_
  rintro e w1 ⟨g, rfl, hg, hr, hq⟩
  obtain ⟨hc, hf⟩ := bcell hq
  clear hT
  go_wp2
  have e0 : w1.cell? ⟨w.heap.size + 1, 0, none⟩ = some (.slice none 0 0) := by rw [hc _ _ (by simp <;> omega)]; simp [go_sem]
  have e1 : w1.cell? ⟨w.heap.size + 1, 1, none⟩ = some (.int .i64 0) := by rw [hc _ _ (by simp <;> omega)]; simp [go_sem]
  have e2 : w1.cell? ⟨w.heap.size + 1, 2, none⟩ = some (.bool false) := by rw [hc _ _ (by simp <;> omega)]; simp [go_sem]
  have hne : w.heap.size + 1 + 1 ≠ w.heap.size + 1 := by omega
  replace e0 := far3 (.slice (some ⟨g, 0, none⟩) n n) (.int .i64 b) (.bool s) hne e0
  replace e1 := far3 (.slice (some ⟨g, 0, none⟩) n n) (.int .i64 b) (.bool s) hne e1
  replace e2 := far3 (.slice (some ⟨g, 0, none⟩) n n) (.int .i64 b) (.bool s) hne e2
  obtain ⟨t0, t1, t2⟩ := set3 e0 e1 e2 (.slice (some ⟨g, 0, none⟩) n n) (.int .i64 b) (.bool s)
  clear hc hf
  have hO := own_row hg hr
  have l2 : w.heap.size + 1 + 1 < (((w.alloc (.cells #[.slice A n c, .int .i64 b, .bool s] 42)).alloc (.cells #[.slice none 0 0, .int .i64 0, .bool false] 48)).alloc (.cells #[.slice none 0 0, .int .i64 0, .bool false] 48)).heap.size := by simp
  have l1 : w.heap.size + 1 < (((w.alloc (.cells #[.slice A n c, .int .i64 b, .bool s] 42)).alloc (.cells #[.slice none 0 0, .int .i64 0, .bool false] 48)).alloc (.cells #[.slice none 0 0, .int .i64 0, .bool false] 48)).heap.size := by simp
  have hO2 := (((((hO.set (o := 0) (.slice (some ⟨g, 0, none⟩) n n) l2).set (o := 1) (.int .i64 b) l2).set (o := 2) (.bool s) l2).set (o := 0) (.slice (some ⟨g, 0, none⟩) n n) l1).set (o := 1) (.int .i64 b) l1).set (o := 2) (.bool s) l1
  refine bodyPost_ret (v := .agg #[.slice (some ⟨g, 0, none⟩) n n, .int .i64 b, .bool s]) (by simp [results, Try.results24, go_sem, t0, t1, t2]) rfl (not_p ⟨_, n, rfl, Nat.le_refl _, by show n ≤ _; omega, hO2.old (by simp <;> omega)⟩ ?_)
  clear t0 t1 t2 e0 e1 e2 hO hO2 hr hg l1 l2
  (repeat first | with_reducible exact Below.refl _ _ | with_reducible assumption | with_reducible refine Below.drew ?_ | with_reducible refine bdn ?_ _ | with_reducible refine bal ?_ _ | (with_reducible refine bst ?_ ?_ _; rotate_left; (simp <;> omega)) | (with_reducible refine btr ?_ (by with_reducible assumption)))
set_option maxHeartbeats 1000000 in
theorem eqlin_any (A B : Option Addr) (n m c d : Nat) (Z Y : Nat → Int) (b b2 : Int) (s s2 : Bool) (w : World) (hn : n ≤ 9223372036854775807) (hm : m ≤ 9223372036854775807) (hA : Ints w A n Z) (hB : Ints w B m Y) :
    Calls Try.prog 28 #[.agg #[.slice A n c, .int .i64 b, .bool s], .agg #[.slice B m d, .int .i64 b2, .bool s2]] w fun e w' => e = .returned (.bool (eqL n Z b s m Y b2 s2)) ∧ Below w.heap.size w w' := by
  have hS := fun W (hb : Below w.heap.size w W) => eqints_any A B n m c d Z Y W hn hm (hA.below hb) (hB.below hb)
  unfold eqL
  clear hA hB hn hm
  generalize eqI n Z m Y = r at hS ⊢
  cases r
  · go_enter Try.func28, Try.ntmps28
    go_wp2_with (go_at_call 15; refine (hS _ (bal (bal (Below.refl _ _) _) _)).mono ?_; rintro e w1 ⟨rfl, hq⟩; obtain ⟨hc, hf⟩ := bcell hq)
    go_ret
    clear hS hc hf
    refine ⟨rfl, ?_⟩
    (repeat first | with_reducible exact Below.refl _ _ | with_reducible assumption | with_reducible refine Below.drew ?_ | with_reducible refine bdn ?_ _ | with_reducible refine bal ?_ _ | (with_reducible refine bst ?_ ?_ _; rotate_left; (simp <;> omega)) | (with_reducible refine btr ?_ (by with_reducible assumption)))
  · by_cases hb : b = b2
    · subst hb
      have d1 : (b != b) = false := by simp
      cases s <;> cases s2
      all_goals
        go_enter Try.func28, Try.ntmps28
        go_wp2_with (go_at_call 15; refine (hS _ (bal (bal (Below.refl _ _) _) _)).mono ?_; rintro e w1 ⟨rfl, hq⟩; obtain ⟨hc, hf⟩ := bcell hq)
        go_ret
        clear hS hc hf
        refine ⟨ret_bool (by simp), ?_⟩
        (repeat first | with_reducible exact Below.refl _ _ | with_reducible assumption | with_reducible refine Below.drew ?_ | with_reducible refine bdn ?_ _ | with_reducible refine bal ?_ _ | (with_reducible refine bst ?_ ?_ _; rotate_left; (simp <;> omega)) | (with_reducible refine btr ?_ (by with_reducible assumption)))
    · have d1 : (b != b2) = true := by simpa using hb
      have H := hid hb; clear hb
      go_enter Try.func28, Try.ntmps28
      go_wp2_with (go_at_call 15; refine (hS _ (bal (bal (Below.refl _ _) _) _)).mono ?_; rintro e w1 ⟨rfl, hq⟩; obtain ⟨hc, hf⟩ := bcell hq)
      go_ret
      clear hS hc hf
      refine ⟨ret_bool (by simp [H.out]), ?_⟩
      (repeat first | with_reducible exact Below.refl _ _ | with_reducible assumption | with_reducible refine Below.drew ?_ | with_reducible refine bdn ?_ _ | with_reducible refine bal ?_ _ | (with_reducible refine bst ?_ ?_ _; rotate_left; (simp <;> omega)) | (with_reducible refine btr ?_ (by with_reducible assumption)))
theorem new3x (w : World) (x y z : Value) (t : TypeId) (o : Obj) : ((w.alloc (.cells #[x, y, z] t)).alloc o).cell? ⟨w.heap.size, 0, none⟩ = some x ∧ ((w.alloc (.cells #[x, y, z] t)).alloc o).cell? ⟨w.heap.size, 1, none⟩ = some y ∧ ((w.alloc (.cells #[x, y, z] t)).alloc o).cell? ⟨w.heap.size, 2, none⟩ = some z := by
  refine ⟨carryA _ ?_, carryA _ ?_, carryA _ ?_⟩ <;> simp [go_sem]
theorem bdnn {B : Nat} {a w : World} (h : Below B a w) (n : Nat) : Below B a (w.drewN n) := below_drewN h n
end Go.Proofs.Ytppbapgjpfgmaaa
