/- Symbols that are read; contracts of the laws' helpers over one symbol: the size, the copy, the comparison. -/
import Derived.Test.YtmeglflbjedndaaFarA
import Derived.Test.YtmeglflbjedndaaNameA
import Derived.Test.YtmeglflbjedndaaEqI
import Derived.Test.YtmeglflbjedndaaLinN
namespace Go.Proofs.Ytmeglflbjedndaa
set_option linter.unusedVariables false
set_option linter.unusedSimpArgs false
open Go.RowKit
/-- what a list of symbols says -/
structure Sy where
  Nm : Nat → ByteArray
  N : Nat → Nat
  Z : Nat → Nat → Int
  S : Nat → Int
/-- the slice of n symbols at A reads as L -/
def Syms (w : World) (A : Option Addr) (n : Nat) (L : Sy) : Prop :=
  n = 0 ∨ ∃ g off, A = some ⟨g, off, none⟩ ∧ g < w.heap.size ∧ ∀ k, k < n → ∃ a c, w.cell? ⟨g, off + k * 3, none⟩ = some (.string (L.Nm k)) ∧ w.cell? ⟨g, off + k * 3 + 1, none⟩ = some (.slice a (L.N k) c) ∧ w.cell? ⟨g, off + k * 3 + 2, none⟩ = some (.int .i64 (L.S k)) ∧
    (L.Nm k).size ≤ 9223372036854775807 ∧ L.N k ≤ 9223372036854775807 ∧ Ints w a (L.N k) (L.Z k)
theorem Syms.below {w w1 : World} {A : Option Addr} {n : Nat} {L : Sy} (h : Syms w A n L) (hb : Below w.heap.size w w1) : Syms w1 A n L := by
  rcases h with h | ⟨g, off, ha, hg, hc⟩
  · exact .inl h
  · refine .inr ⟨g, off, ha, Nat.lt_of_lt_of_le hg hb.size, fun k hk => ?_⟩
    obtain ⟨a, c, h0, h1, h2, h3, h4, h5⟩ := hc k hk
    exact ⟨a, c, carry hb h0, carry hb h1, carry hb h2, h3, h4, h5.below hb⟩
def symV (LA : Nat → Option Addr) (LC : Nat → Nat) (L : Sy) (j : Nat) : Value :=
  if j % 3 = 0 then .string (L.Nm (j / 3)) else if j % 3 = 1 then .slice (LA (j / 3)) (L.N (j / 3)) (LC (j / 3)) else .int .i64 (L.S (j / 3))
theorem symV_0 (LA : Nat → Option Addr) (LC : Nat → Nat) (L : Sy) (k : Nat) : symV LA LC L (k * 3) = .string (L.Nm k) := by
  unfold symV; rw [if_pos (by omega), show k * 3 / 3 = k by omega]
theorem symV_1 (LA : Nat → Option Addr) (LC : Nat → Nat) (L : Sy) (k : Nat) : symV LA LC L (k * 3 + 1) = .slice (LA k) (L.N k) (LC k) := by
  unfold symV; rw [if_neg (by omega), if_pos (by omega), show (k * 3 + 1) / 3 = k by omega]
theorem symV_2 (LA : Nat → Option Addr) (LC : Nat → Nat) (L : Sy) (k : Nat) : symV LA LC L (k * 3 + 2) = .int .i64 (L.S k) := by
  unfold symV; rw [if_neg (by omega), if_neg (by omega), show (k * 3 + 2) / 3 = k by omega]
theorem symV_old {LA : Nat → Option Addr} {LC : Nat → Nat} {L : Sy} {A : Option Addr} {c k j : Nat} (h : j / 3 ≠ k) : symV (fun i => if i = k then A else LA i) (fun i => if i = k then c else LC i) L j = symV LA LC L j := by
  unfold symV; simp [h]
def zeroY (j : Nat) : Value := if j % 3 = 0 then .string ⟨#[]⟩ else if j % 3 = 1 then .slice none 0 0 else .int .i64 0
/-- a list of n symbols, all of memory new since W -/
def OwnY (W w : World) (A : Option Addr) (n : Nat) (L : Sy) : Prop :=
  ∃ g LA LC, A = some ⟨g, 0, none⟩ ∧ W.heap.size ≤ g ∧ w.rowIs g 105 (n * 3) (symV LA LC L) ∧ ∀ k, k < n → L.N k ≤ LC k ∧ LC k ≤ 9223372036854775807 ∧ OwnI W w (LA k) (L.N k) (L.Z k)
theorem OwnY.below {W w w' : World} {A : Option Addr} {n : Nat} {L : Sy} (h : OwnY W w A n L) (hb : Below w.heap.size w w') : OwnY W w' A n L := by
  obtain ⟨g, LA, LC, ha, hg, hr, hc⟩ := h
  exact ⟨g, LA, LC, ha, hg, row_below hr hb, fun k hk => ⟨(hc k hk).1, (hc k hk).2.1, (hc k hk).2.2.below hb⟩⟩
/-- no symbol is too long -/
def SmY (n : Nat) (L : Sy) : Prop := ∀ k, k < n → L.N k ≤ 1048576 ∧ (L.Nm k).size ≤ 1048576
theorem OwnY.syms {W w : World} {A : Option Addr} {n : Nat} {L : Sy} (h : OwnY W w A n L) (hN : SmY n L) : Syms w A n L := by
  obtain ⟨g, LA, LC, ha, hg, hr, hc⟩ := h
  refine .inr ⟨g, 0, ha, hr.lt, fun k hk => ⟨LA k, LC k, ?_, ?_, ?_, by have := hN k hk; omega, by have := hN k hk; omega, (hc k hk).2.2.ints⟩⟩
  · rw [Nat.zero_add]; exact (hr.cell (by omega)).trans (by rw [symV_0])
  · rw [Nat.zero_add]; exact (hr.cell (by omega)).trans (by rw [symV_1])
  · rw [Nat.zero_add]; exact (hr.cell (by omega)).trans (by rw [symV_2])
theorem infoSy : (Try.prog.info? 105).map (fun i => (i.zero, i.size, i.bytes)) = some (some (.agg #[.string ⟨#[]⟩, .slice none 0 0, .int .i64 0]), 3, 48) := by kernel_rfl
theorem rowIs_madeY (w : World) (n : Nat) (t : TypeId) : (w.alloc (.cells (madeCells #[.string ⟨#[]⟩, .slice none 0 0, .int .i64 0] n) t)).rowIs w.heap.size t n zeroY :=
  ⟨_, Deep.blk_alloc_new _ _, size_madeCells _ _, fun i hi => by
    have h2 : i % 3 = 0 ∨ i % 3 = 1 ∨ i % 3 = 2 := by omega
    rcases h2 with h2 | h2 | h2 <;> simp [madeCells, hi, h2, zeroY]⟩
theorem run_make_syms (n : Nat) (hn : n ≤ 1048576) (w : World) :
    (Instr.makeSlice 37 (.int .i64 (n : Int)) (.int .i64 (n : Int))).run Try.prog w = .ok (.slice (some ⟨w.heap.size, 0, none⟩) n n) (w.alloc (.cells (madeCells #[.string ⟨#[]⟩, .slice none 0 0, .int .i64 0] (n * 3)) 105)) := by
  obtain ⟨i, hi, hzz⟩ := Option.map_eq_some_iff.1 infoSy
  simp only [Prod.mk.injEq] at hzz
  obtain ⟨hz, hs, hb⟩ := hzz
  have hr := run_make (P := Try.prog) w 37 105 i _ Try.underlying37 hi hz .i64 .i64 n n (by omega) (Int.le_refl _) (by rw [hb]; omega) (by omega)
  simp only [Int.toNat_natCast, hs] at hr
  exact hr
/-- what the size of a symbol answers -/
def SzY (w : World) (nm : ByteArray) (n : Nat) (l : Int) (e : Ending) (w' : World) : Prop :=
  ∃ r : Int, e = .returned (.int .i64 r) ∧ (r < 0 ∨ (0 ≤ r ∧ r ≤ l ∧ (n : Int) ≤ l ∧ (nm.size : Int) ≤ l)) ∧ Below w.heap.size w w'
set_option maxHeartbeats 1000000 in
theorem szsym_any (nm : ByteArray) (A : Option Addr) (n c : Nat) (s l : Int) (w : World) (hm : nm.size ≤ 9223372036854775807) (hn : n ≤ 9223372036854775807) (hl : 0 ≤ l ∧ l ≤ 1048576) :
    Calls Try.prog 149 #[.agg #[.string nm, .slice A n c, .int .i64 s], .int .i64 l] w (SzY w nm n l) := by
  obtain ⟨l1, l2⟩ := hl
  by_cases h : l < nm.size
  · go_enter Try.func149, Try.ntmps149
    go_wp2
    go_ret
    exact ⟨-1, rfl, .inl (by omega), bal (Below.refl _ _) _⟩
  · have h2 : 0 ≤ l - (nm.size : Int) := by omega
    have hS := fun W => szints_any A n c (l - nm.size) W hn ⟨h2, by omega⟩
    by_cases h3 : l - (nm.size : Int) < n
    · rw [if_pos h3] at hS
      have H := hid h; have H3 := hid h3; clear h h3
      go_enter Try.func149, Try.ntmps149
      go_wp2_with (go_at_call 97; refine (hS _).mono ?_; rintro e w1 ⟨rfl, rfl⟩)
      go_ret
      exact ⟨-1, rfl, .inl (by omega), bal (Below.refl _ _) _⟩
    · rw [if_neg h3] at hS
      have h4 : 0 ≤ l - (nm.size : Int) - n := by omega
      have H := hid h; have H3 := hid h3; clear h h3
      go_enter Try.func149, Try.ntmps149
      go_wp2_with (go_at_call 97; refine (hS _).mono ?_; rintro e w1 ⟨rfl, rfl⟩)
      go_ret
      exact ⟨_, rfl, .inr ⟨h4, by omega, by omega, by have := H.out; omega⟩, bal (Below.refl _ _) _⟩
theorem farY2 {w : World} {b o p : Nat} {u : Value} (x y : Value) (hp : p ≠ b) (h : w.cell? ⟨b, o, none⟩ = some u) : ((w.setCell ⟨p, 1, none⟩ x).setCell ⟨p, 2, none⟩ y).cell? ⟨b, o, none⟩ = some u := by
  rw [World.cell?_setCell_other _ _ _ _ (by simp <;> omega), World.cell?_setCell_other _ _ _ _ (by simp <;> omega)]; exact h
/-- a value that reads as a symbol of new memory -/
def NewY (W : World) (nm : ByteArray) (n : Nat) (Z : Nat → Int) (s : Int) (v : Value) (w' : World) : Prop :=
  ∃ A c, v = .agg #[.string nm, .slice A n c, .int .i64 s] ∧ n ≤ c ∧ c ≤ 9223372036854775807 ∧ OwnI W w' A n Z
set_option maxHeartbeats 1000000 in
theorem tosym_any (nm : ByteArray) (A : Option Addr) (n c : Nat) (Z : Nat → Int) (s : Int) (w : World) (hn : n ≤ 1048576) (hA : Ints w A n Z) :
    Calls Try.prog 153 #[.agg #[.string nm, .slice A n c, .int .i64 s]] w fun e w' => ∃ v, e = .returned v ∧ NewY w nm n Z s v w' ∧ Below w.heap.size w w' := by
  have hT := fun W (hb : Below w.heap.size w W) => toints_any A n c Z W hn (hA.below hb)
  clear hA
  go_enter Try.func153, Try.ntmps153
  go_wp2_with fail
  refine (hT _ (bal (bal (bal (Below.refl _ _) _) _) _)).mono ?_
  rintro e w1 ⟨g, rfl, hg, hr, hq⟩
  obtain ⟨hc, hf⟩ := bcell hq
  clear hT
  go_wp2
  have e0 : w1.cell? ⟨w.heap.size + 1, 0, none⟩ = some (.string ⟨#[]⟩) := by rw [hc _ _ (by simp <;> omega)]; simp [go_sem]
  have e1 : w1.cell? ⟨w.heap.size + 1, 1, none⟩ = some (.slice none 0 0) := by rw [hc _ _ (by simp <;> omega)]; simp [go_sem]
  have e2 : w1.cell? ⟨w.heap.size + 1, 2, none⟩ = some (.int .i64 0) := by rw [hc _ _ (by simp <;> omega)]; simp [go_sem]
  have hne : w.heap.size + 1 + 1 ≠ w.heap.size + 1 := by omega
  replace e0 := farY2 (.slice (some ⟨g, 0, none⟩) n n) (.int .i64 s) hne e0
  replace e1 := farY2 (.slice (some ⟨g, 0, none⟩) n n) (.int .i64 s) hne e1
  replace e2 := farY2 (.slice (some ⟨g, 0, none⟩) n n) (.int .i64 s) hne e2
  obtain ⟨t0, t1, t2⟩ := set3 e0 e1 e2 (.string nm) (.slice (some ⟨g, 0, none⟩) n n) (.int .i64 s)
  clear hc hf
  have hO := own_row hg hr
  have l2 : w.heap.size + 1 + 1 < (((w.alloc (.cells #[.string nm, .slice A n c, .int .i64 s] 241)).alloc (.cells #[.string ⟨#[]⟩, .slice none 0 0, .int .i64 0] 105)).alloc (.cells #[.string nm, .slice none 0 0, .int .i64 0] 105)).heap.size := by simp
  have l1 : w.heap.size + 1 < (((w.alloc (.cells #[.string nm, .slice A n c, .int .i64 s] 241)).alloc (.cells #[.string ⟨#[]⟩, .slice none 0 0, .int .i64 0] 105)).alloc (.cells #[.string nm, .slice none 0 0, .int .i64 0] 105)).heap.size := by simp
  have hO2 := ((((hO.set (o := 1) (.slice (some ⟨g, 0, none⟩) n n) l2).set (o := 2) (.int .i64 s) l2).set (o := 0) (.string nm) l1).set (o := 1) (.slice (some ⟨g, 0, none⟩) n n) l1).set (o := 2) (.int .i64 s) l1
  refine bodyPost_ret (v := .agg #[.string nm, .slice (some ⟨g, 0, none⟩) n n, .int .i64 s]) (by simp [results, Try.results153, go_sem, t0, t1, t2]) rfl ⟨_, rfl, ⟨_, n, rfl, Nat.le_refl _, by omega, hO2.old (by simp <;> omega)⟩, ?_⟩
  clear t0 t1 t2 e0 e1 e2 hO hO2 hr hg l1 l2
  (repeat first | with_reducible exact Below.refl _ _ | with_reducible assumption | with_reducible refine Below.drew ?_ | with_reducible refine bdn ?_ _ | with_reducible refine bal ?_ _ | (with_reducible refine bst ?_ ?_ _; rotate_left; (simp <;> omega)) | (with_reducible refine btr ?_ (by with_reducible assumption)))
set_option maxHeartbeats 1000000 in
theorem eqsym_same {nm : ByteArray} {A B : Option Addr} {n c d : Nat} {Z : Nat → Int} {s : Int} {w : World} (hn : n ≤ 9223372036854775807) (hA : Ints w A n Z) (hB : Ints w B n Z) :
    Calls Try.prog 158 #[.agg #[.string nm, .slice A n c, .int .i64 s], .agg #[.string nm, .slice B n d, .int .i64 s]] w fun e w' => e = .returned (.bool true) ∧ Below w.heap.size w w' := by
  have hS := fun W (hb : Below w.heap.size w W) => eqints_same A B n c d Z W hn (hA.below hb) (hB.below hb)
  clear hA hB hn
  have d1 : (s != s) = false := by simp
  go_enter Try.func158, Try.ntmps158
  go_wp2_with fail
  refine (hS _ (bal (bal (Below.refl _ _) _) _)).mono ?_
  rintro e w1 ⟨rfl, hq⟩
  obtain ⟨hc, hf⟩ := bcell hq
  go_wp2
  go_ret
  clear hS hc hf
  refine ⟨rfl, ?_⟩
  (repeat first | with_reducible exact Below.refl _ _ | with_reducible assumption | with_reducible refine Below.drew ?_ | with_reducible refine bdn ?_ _ | with_reducible refine bal ?_ _ | (with_reducible refine bst ?_ ?_ _; rotate_left; (simp <;> omega)) | (with_reducible refine btr ?_ (by with_reducible assumption)))
end Go.Proofs.Ytmeglflbjedndaa
