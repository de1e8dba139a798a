/- Contract of the draw of one fraction. -/
import Derived.Test.YtbdmofmoegmigaaDrawB
import Derived.Test.YtbdmofmoegmigaaKit
namespace Go.Proofs.Ytbdmofmoegmigaa
set_option linter.unusedVariables false
set_option linter.unusedSimpArgs false
open Go.RowKit
theorem grow_of_below {w w' : World} (h : Below w.heap.size w w') (r : Option Nat) : w.grownBy w' r := ⟨h.os, h.tape, h.output, h.size, fun i hi _ => h.block i hi⟩
theorem grow_setNew {w w1 : World} {g : Nat} (h : w.grownBy w1 (some g)) {q : Nat} (hq : w.heap.size ≤ q) (o : Nat) (v : Value) : w.grownBy (w1.setCell ⟨q, o, none⟩ v) (some g) :=
  ⟨h.os, h.tape, h.output, by simpa [World.setCell] using h.size, fun i hi hne => (Below.heap_setCell w1 ⟨q, o, none⟩ v i (by simp only; omega)).trans (h.block i hi hne)⟩
theorem grow_z {w w1 : World} {b g : Nat} {x y : Value} (hq : w.grownBy w1 (some g)) (hb : b ≠ g) (h : w.cell? ⟨b, 0, none⟩ = some x ∧ w.cell? ⟨b, 1, none⟩ = some y ∧ w.frozen? ⟨b, 0, none⟩ = false ∧ w.frozen? ⟨b, 1, none⟩ = false) :
    w1.cell? ⟨b, 0, none⟩ = some x ∧ w1.cell? ⟨b, 1, none⟩ = some y ∧ w1.frozen? ⟨b, 0, none⟩ = false ∧ w1.frozen? ⟨b, 1, none⟩ = false := by
  obtain ⟨h0, h1, h2, h3⟩ := h
  have hl := World.block_lt_of_cell? w _ h0
  have e := hq.block b hl (by simp; exact hb)
  exact ⟨grow_cell hq hb h0, grow_cell hq hb h1, (World.frozen?_of_block (w := w) (a := ⟨b, 0, none⟩) e).trans h2, (World.frozen?_of_block (w := w) (a := ⟨b, 1, none⟩) e).trans h3⟩
theorem allocz {w : World} {b : Nat} {x y : Value} (o : Obj) (h : w.cell? ⟨b, 0, none⟩ = some x ∧ w.cell? ⟨b, 1, none⟩ = some y ∧ w.frozen? ⟨b, 0, none⟩ = false ∧ w.frozen? ⟨b, 1, none⟩ = false) :
    (w.alloc o).cell? ⟨b, 0, none⟩ = some x ∧ (w.alloc o).cell? ⟨b, 1, none⟩ = some y ∧ (w.alloc o).frozen? ⟨b, 0, none⟩ = false ∧ (w.alloc o).frozen? ⟨b, 1, none⟩ = false :=
  carryz ((Below.refl _ _).alloc (Nat.le_refl _) o) h
theorem RD.below {B : Nat} {w w' : World} {g p : Nat} (h : RD B w g p) (hb : Below w.heap.size w w') : RD B w' g p := by
  obtain ⟨a, len, cap, hB, c0, c1, f1, hl, hby⟩ := h
  exact ⟨a, len, cap, hB, carry hb c0, carry hb c1, (hb.frozen (p := ⟨g, 1, none⟩) (World.block_lt_of_cell? w _ c1)).trans f1, hl, hby.mono fun b o v _ hc => carry hb hc⟩
theorem RD.set {B : Nat} {w : World} {g p q : Nat} (h : RD B w g p) (hq : q ≠ g) (hB : B ≤ q) (o : Nat) (v : Value) : RD B (w.setCell ⟨q, o, none⟩ v) g p := by
  obtain ⟨a, len, cap, hB', c0, c1, f1, hl, hby⟩ := h
  refine ⟨a, len, cap, hB', ?_, ?_, ?_, hl, hby.mono fun b o' v' hb hc => ?_⟩
  · rw [World.cell?_setCell_other _ _ _ _ (by simp <;> omega)]; exact c0
  · rw [World.cell?_setCell_other _ _ _ _ (by simp <;> omega)]; exact c1
  · simpa [go_sem] using f1
  · rw [World.cell?_setCell_other _ _ _ _ (by simp <;> omega)]; exact hc

theorem setz {w : World} {b q : Nat} {x y : Value} (hq : q ≠ b) (o : Nat) (v : Value) (h : w.cell? ⟨b, 0, none⟩ = some x ∧ w.cell? ⟨b, 1, none⟩ = some y ∧ w.frozen? ⟨b, 0, none⟩ = false ∧ w.frozen? ⟨b, 1, none⟩ = false) :
    (w.setCell ⟨q, o, none⟩ v).cell? ⟨b, 0, none⟩ = some x ∧ (w.setCell ⟨q, o, none⟩ v).cell? ⟨b, 1, none⟩ = some y ∧ (w.setCell ⟨q, o, none⟩ v).frozen? ⟨b, 0, none⟩ = false ∧ (w.setCell ⟨q, o, none⟩ v).frozen? ⟨b, 1, none⟩ = false := by
  obtain ⟨h0, h1, h2, h3⟩ := h
  refine ⟨?_, ?_, by simpa [go_sem] using h2, by simpa [go_sem] using h3⟩
  · rw [World.cell?_setCell_other _ _ _ _ (by simp <;> omega)]; exact h0
  · rw [World.cell?_setCell_other _ _ _ _ (by simp <;> omega)]; exact h1
def RatPost (B : Nat) (w : World) (g p : Nat) (e : Ending) (w' : World) : Prop :=
  ∃ (x y : Int) (q : Nat), e = .returned (.agg #[.int .i64 x, .int .i64 y]) ∧ w.grownBy w' (some g) ∧ RD B w' g q ∧ q ≤ p + 10
theorem rat_post {B : Nat} {w w' : World} {g p : Nat} {e : Ending} (x y : Int) (q : Nat) (h2 : e = .returned (.agg #[.int .i64 x, .int .i64 y])) (h3 : w.grownBy w' (some g)) (h4 : RD B w' g q) (h5 : q ≤ p + 10) : RatPost B w g p e w' := ⟨x, y, q, h2, h3, h4, h5⟩
def zsC : List Int := [1, 1, 2, 3, 4, 7, 999999937, 1000000000]
def zsD : List Int := [0, -1, 1000000001]
def zsE : List Int := [-9223372036854775808, 1000000001]

set_option maxHeartbeats 4000000 in
theorem rat_any (B : Nat) (w : World) (g p : Nat) (hR : RD B w g p) (hB : B ≤ w.heap.size) (hp : p ≤ 1000000) :
    Calls Try.prog 124 #[.pointer (some ⟨g, 0, none⟩)] w (RatPost B w g p) := by
  have hlt := hR.lt
  have hI := int_any B (w.alloc (.cells #[.int .i64 0, .int .i64 0] 62)) g p (hR.alloc _) (by omega)
  go_enter Try.func124, Try.ntmps124
  go_wp2_with fail
  refine hI.mono ?_
  rintro e w1 ⟨n, rfl, hg1, hR1⟩
  clear hI
  have pr1 := grow_z hg1 (by omega) (newz w _ _ _)
  have hlt1 := hR1.lt
  go_wp2_with fail
  refine (num_any B _ g (p + 2) w1.heap.size 8 8 zsC (hR1.alloc _) (by omega) rfl (by decide) (by decide) (by omega) ?_).mono ?_
  · intro k hk
    simp only [zsC, List.length_cons, List.length_nil] at hk
    have hk' : k = 0 ∨ k = 1 ∨ k = 2 ∨ k = 3 ∨ k = 4 ∨ k = 5 ∨ k = 6 ∨ k = 7 := by omega
    rcases hk' with rfl | rfl | rfl | rfl | rfl | rfl | rfl | rfl <;> simp [go_sem, zsC]
  rintro e w2 ⟨d, _, rfl, hg2, hR2⟩
  have pr2 := grow_z hg2 (by omega) (allocz _ pr1)
  go_wp2_with fail
  refine (sof_any n d _).mono ?_
  rintro e w3 ⟨rfl, hb3⟩
  have pr3 := carryz hb3 pr2
  have hR3 := hR2.below hb3
  have hlt3 := hR3.lt
  have hgA : w.grownBy w3 (some g) := grow_trans (grow_trans (grow_alloc (grow_refl _ _) _) hg1) (grow_trans (grow_alloc (grow_refl _ _) _) (grow_trans hg2 (grow_of_below hb3 _)))
  clear hg1 hg2 hb3 hR1 hR2 pr1 pr2 hlt1
  have ne1 : ¬ w3.heap.size = w.heap.size := by have := World.block_lt_of_cell? w3 _ pr3.1; simp only at this; omega
  have ne2 : ¬ w.heap.size = w3.heap.size := fun h => ne1 h.symm
  have hs3 := hgA.size
  generalize hX : ofR n d = X
  obtain ⟨X1, X2, X3⟩ := X
  cases X3
  · go_wp2_with fail
    refine (pick_any B _ g (p + 3) 60 (hR3.alloc _) (by omega) (by omega)).mono ?_
    rintro e w4 ⟨s, s0, s1, rfl, hg4, hR4⟩
    have pr4 := grow_z hg4 (by omega) (allocz _ pr3)
    have pa4 := grow_z hg4 (by omega) (newz w3 _ _ _)
    have hlt4 := hR4.lt
    have hgB : w.grownBy w4 (some g) := grow_trans hgA (grow_trans (grow_alloc (grow_refl _ _) _) hg4)
    clear pr3 hgA hg4
    by_cases e0 : s = 0
    · subst e0
      go_wp2_with fail
      refine (num_any B _ g (p + 4) w4.heap.size 3 3 zsD (hR4.alloc _) (by omega) rfl (by decide) (by decide) (by omega) ?_).mono ?_
      · intro k hk
        simp only [zsD, List.length_cons, List.length_nil] at hk
        have hk' : k = 0 ∨ k = 1 ∨ k = 2 := by omega
        rcases hk' with rfl | rfl | rfl <;> simp [go_sem, zsD]
      rintro e w5 ⟨y, _, rfl, hg5, hR5⟩
      have pr5 := grow_z hg5 (by omega) (allocz _ pr4)
      have pa5 := grow_z hg5 (by omega) (allocz _ pa4)
      have hgC : w.grownBy w5 (some g) := grow_trans hgB (grow_trans (grow_alloc (grow_refl _ _) _) hg5)
      clear pr4 pa4 hgB hg5
      go_wp2_with fail
      have pr6 := setz ne1 1 (.int .i64 y) pr5
      obtain ⟨t0, t1⟩ := two_cells pr6.1 pr6.2.1
      refine bodyPost_ret (v := .agg #[.int .i64 (1), .int .i64 (y)]) (by simp [results, Try.results124, go_sem, t0, t1]) rfl ?_
      exact rat_post _ _ (p + 5) rfl (grow_setNew (grow_setNew (grow_setNew hgC hs3 1 _) (Nat.le_refl _) 0 _) (Nat.le_refl _) 1 _) (((hR5.set (by omega) (by omega) 1 _).set (by omega) hB 0 _).set (by omega) hB 1 _) (by omega)
    · have k0 : (s == 0) = false := by simpa using e0
      by_cases e1 : s = 1
      · subst e1
        go_wp2_with fail
        refine (num_any B _ g (p + 4) w4.heap.size 2 2 zsE (hR4.alloc _) (by omega) rfl (by decide) (by decide) (by omega) ?_).mono ?_
        · intro k hk
          simp only [zsE, List.length_cons, List.length_nil] at hk
          have hk' : k = 0 ∨ k = 1 := by omega
          rcases hk' with rfl | rfl <;> simp [go_sem, zsE]
        rintro e w5 ⟨y, _, rfl, hg5, hR5⟩
        have pr5 := grow_z hg5 (by omega) (allocz _ pr4)
        have pa5 := grow_z hg5 (by omega) (allocz _ pa4)
        have hgC : w.grownBy w5 (some g) := grow_trans hgB (grow_trans (grow_alloc (grow_refl _ _) _) hg5)
        clear pr4 pa4 hgB hg5
        go_wp2_with fail
        have pr6 := setz ne1 0 (.int .i64 y) pr5
        obtain ⟨t0, t1⟩ := two_cells pr6.1 pr6.2.1
        refine bodyPost_ret (v := .agg #[.int .i64 (y), .int .i64 (1)]) (by simp [results, Try.results124, go_sem, t0, t1]) rfl ?_
        exact rat_post _ _ (p + 5) rfl (grow_setNew (grow_setNew (grow_setNew hgC hs3 0 _) (Nat.le_refl _) 0 _) (Nat.le_refl _) 1 _) (((hR5.set (by omega) (by omega) 0 _).set (by omega) hB 0 _).set (by omega) hB 1 _) (by omega)
      · have k1 : (s == 1) = false := by simpa using e1
        by_cases e2 : s = 2
        · subst e2
          go_wp2_with fail
          have pr6 := setz ne1 1 (.int .i64 4) (setz ne1 0 (.int .i64 2) pr4)
          obtain ⟨t0, t1⟩ := two_cells pr6.1 pr6.2.1
          refine bodyPost_ret (v := .agg #[.int .i64 (2), .int .i64 (4)]) (by simp [results, Try.results124, go_sem, t0, t1]) rfl ?_
          exact rat_post _ _ (p + 4) rfl (grow_setNew (grow_setNew (grow_setNew (grow_setNew hgB hs3 0 _) hs3 1 _) (Nat.le_refl _) 0 _) (Nat.le_refl _) 1 _) ((((hR4.set (by omega) (by omega) 0 _).set (by omega) (by omega) 1 _).set (by omega) hB 0 _).set (by omega) hB 1 _) (by omega)
        · have k2 : (s == 2) = false := by simpa using e2
          go_wp2_with fail
          obtain ⟨t0, t1⟩ := two_cells pr4.1 pr4.2.1
          refine bodyPost_ret (v := .agg #[.int .i64 (1), .int .i64 (1)]) (by simp [results, Try.results124, go_sem, t0, t1]) rfl ?_
          exact rat_post _ _ (p + 4) rfl (grow_setNew (grow_setNew hgB (Nat.le_refl _) 0 _) (Nat.le_refl _) 1 _) ((hR4.set (by omega) hB 0 _).set (by omega) hB 1 _) (by omega)
  · go_wp2_with fail
    refine (pick_any B _ g (p + 3) 60 (hR3.alloc _) (by omega) (by omega)).mono ?_
    rintro e w4 ⟨s, s0, s1, rfl, hg4, hR4⟩
    have pr4 := grow_z hg4 (by omega) (allocz _ pr3)
    have pa4 := grow_z hg4 (by omega) (newz w3 _ _ _)
    have hlt4 := hR4.lt
    have hgB : w.grownBy w4 (some g) := grow_trans hgA (grow_trans (grow_alloc (grow_refl _ _) _) hg4)
    clear pr3 hgA hg4
    by_cases e0 : s = 0
    · subst e0
      go_wp2_with fail
      refine (num_any B _ g (p + 4) w4.heap.size 3 3 zsD (hR4.alloc _) (by omega) rfl (by decide) (by decide) (by omega) ?_).mono ?_
      · intro k hk
        simp only [zsD, List.length_cons, List.length_nil] at hk
        have hk' : k = 0 ∨ k = 1 ∨ k = 2 := by omega
        rcases hk' with rfl | rfl | rfl <;> simp [go_sem, zsD]
      rintro e w5 ⟨y, _, rfl, hg5, hR5⟩
      have pr5 := grow_z hg5 (by omega) (allocz _ pr4)
      have pa5 := grow_z hg5 (by omega) (allocz _ pa4)
      have hgC : w.grownBy w5 (some g) := grow_trans hgB (grow_trans (grow_alloc (grow_refl _ _) _) hg5)
      clear pr4 pa4 hgB hg5
      go_wp2_with fail
      have pr6 := setz ne1 1 (.int .i64 y) pr5
      obtain ⟨t0, t1⟩ := two_cells pr6.1 pr6.2.1
      refine bodyPost_ret (v := .agg #[.int .i64 (X1), .int .i64 (y)]) (by simp [results, Try.results124, go_sem, t0, t1]) rfl ?_
      exact rat_post _ _ (p + 5) rfl (grow_setNew (grow_setNew (grow_setNew hgC hs3 1 _) (Nat.le_refl _) 0 _) (Nat.le_refl _) 1 _) (((hR5.set (by omega) (by omega) 1 _).set (by omega) hB 0 _).set (by omega) hB 1 _) (by omega)
    · have k0 : (s == 0) = false := by simpa using e0
      by_cases e1 : s = 1
      · subst e1
        go_wp2_with fail
        refine (num_any B _ g (p + 4) w4.heap.size 2 2 zsE (hR4.alloc _) (by omega) rfl (by decide) (by decide) (by omega) ?_).mono ?_
        · intro k hk
          simp only [zsE, List.length_cons, List.length_nil] at hk
          have hk' : k = 0 ∨ k = 1 := by omega
          rcases hk' with rfl | rfl <;> simp [go_sem, zsE]
        rintro e w5 ⟨y, _, rfl, hg5, hR5⟩
        have pr5 := grow_z hg5 (by omega) (allocz _ pr4)
        have pa5 := grow_z hg5 (by omega) (allocz _ pa4)
        have hgC : w.grownBy w5 (some g) := grow_trans hgB (grow_trans (grow_alloc (grow_refl _ _) _) hg5)
        clear pr4 pa4 hgB hg5
        go_wp2_with fail
        have pr6 := setz ne1 0 (.int .i64 y) pr5
        obtain ⟨t0, t1⟩ := two_cells pr6.1 pr6.2.1
        refine bodyPost_ret (v := .agg #[.int .i64 (y), .int .i64 (X2)]) (by simp [results, Try.results124, go_sem, t0, t1]) rfl ?_
        exact rat_post _ _ (p + 5) rfl (grow_setNew (grow_setNew (grow_setNew hgC hs3 0 _) (Nat.le_refl _) 0 _) (Nat.le_refl _) 1 _) (((hR5.set (by omega) (by omega) 0 _).set (by omega) hB 0 _).set (by omega) hB 1 _) (by omega)
      · have k1 : (s == 1) = false := by simpa using e1
        by_cases e2 : s = 2
        · subst e2
          go_wp2_with fail
          have pr6 := setz ne1 1 (.int .i64 4) (setz ne1 0 (.int .i64 2) pr4)
          obtain ⟨t0, t1⟩ := two_cells pr6.1 pr6.2.1
          refine bodyPost_ret (v := .agg #[.int .i64 (2), .int .i64 (4)]) (by simp [results, Try.results124, go_sem, t0, t1]) rfl ?_
          exact rat_post _ _ (p + 4) rfl (grow_setNew (grow_setNew (grow_setNew (grow_setNew hgB hs3 0 _) hs3 1 _) (Nat.le_refl _) 0 _) (Nat.le_refl _) 1 _) ((((hR4.set (by omega) (by omega) 0 _).set (by omega) (by omega) 1 _).set (by omega) hB 0 _).set (by omega) hB 1 _) (by omega)
        · have k2 : (s == 2) = false := by simpa using e2
          go_wp2_with fail
          obtain ⟨t0, t1⟩ := two_cells pr4.1 pr4.2.1
          refine bodyPost_ret (v := .agg #[.int .i64 (X1), .int .i64 (X2)]) (by simp [results, Try.results124, go_sem, t0, t1]) rfl ?_
          exact rat_post _ _ (p + 4) rfl (grow_setNew (grow_setNew hgB (Nat.le_refl _) 0 _) (Nat.le_refl _) 1 _) ((hR4.set (by omega) hB 0 _).set (by omega) hB 1 _) (by omega)
end Go.Proofs.Ytbdmofmoegmigaa
