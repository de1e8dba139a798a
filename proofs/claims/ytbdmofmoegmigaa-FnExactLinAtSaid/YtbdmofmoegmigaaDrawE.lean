/- Contracts of the draws of two fractions. -/
import Derived.Test.YtbdmofmoegmigaaDrawD
namespace Go.Proofs.Ytbdmofmoegmigaa
set_option linter.unusedVariables false
set_option linter.unusedSimpArgs false
open Go.RowKit
theorem ST.drew {B : Nat} {w : World} {g A : Nat} {x y : Value} {w' : World} (h : ST B w g A x y w') : ST B w g A x y w'.drew := by
  obtain ⟨h1, h2, h3, h4, h5, h6, h7, h8, h9, h10, h11, q, h12, h13⟩ := h
  exact ⟨h1, h2, h3, h4, h5, h6, h7, h8, h9, h10, h11.drew, q, h12, h13⟩
theorem ST.grow {B : Nat} {w : World} {g A : Nat} {x y : Value} {w' w1 : World} {q' : Nat} (h : ST B w g A x y w') (hA : A ≠ g) (hg : w.heap.size + 1 < g) (hq : w'.grownBy w1 (some g)) (hR : RD B w1 g q') (hq' : q' ≤ 40) : ST B w g A x y w1 := by
  obtain ⟨h1, h2, h3, h4, h5, h6, h7, h8, h9, h10, h11, q, h12, h13⟩ := h
  have z1 := grow_z hq (by omega) ⟨h3, h4, h5, h6⟩
  have z2 := grow_z hq (by omega) ⟨h7, h8, h9, h10⟩
  exact ⟨grow_cell hq hA h1, grow_cell hq hA h2, rd_some (by rw [z1.1]; rfl), rd_some (by rw [z1.2.1]; rfl), z1.2.2.1, z1.2.2.2, rd_some (by rw [z2.1]; rfl), rd_some (by rw [z2.2.1]; rfl), z2.2.2.1, z2.2.2.2, h11.trans (grow_below hq (by omega) h11.size), q', hR, hq'⟩
theorem ST.set2 {B : Nat} {w : World} {g A p : Nat} {x y : Value} {w' : World} (h : ST B w g A x y w') (hA : A ≠ p) (hg : p ≠ g) (hB : B ≤ w.heap.size) (hp : p = w.heap.size ∨ p = w.heap.size + 1) (u v : Value) : ST B w g A x y ((w'.setCell ⟨p, 0, none⟩ u).setCell ⟨p, 1, none⟩ v) := by
  obtain ⟨h1, h2, h3, h4, h5, h6, h7, h8, h9, h10, h11, q, h12, h13⟩ := h
  have hA' : p ≠ A := fun e => hA e.symm
  refine ⟨?_, ?_, ?_, ?_, ?_, ?_, ?_, ?_, ?_, ?_, bst (bst h11 (by simp <;> omega) _) (by simp <;> omega) _, q, (h12.set hg (by omega) 0 u).set hg (by omega) 1 v, h13⟩
  · rw [World.cell?_setCell_other _ _ _ _ (by simp <;> omega), World.cell?_setCell_other _ _ _ _ (by simp <;> omega)]; exact h1
  · rw [World.cell?_setCell_other _ _ _ _ (by simp <;> omega), World.cell?_setCell_other _ _ _ _ (by simp <;> omega)]; exact h2
  all_goals rcases hp with rfl | rfl
  · exact rd_some (by rw [(two_cells h3 h4).1]; rfl)
  · exact rd_some (by rw [(setz (b := w.heap.size) (by omega) 1 v (setz (b := w.heap.size) (by omega) 0 u ⟨h3, h4, h5, h6⟩)).1]; rfl)
  · exact rd_some (by rw [(two_cells h3 h4).2]; rfl)
  · exact rd_some (by rw [(setz (b := w.heap.size) (by omega) 1 v (setz (b := w.heap.size) (by omega) 0 u ⟨h3, h4, h5, h6⟩)).2.1]; rfl)
  · simpa [go_sem] using h5
  · simpa [go_sem] using h5
  · simpa [go_sem] using h6
  · simpa [go_sem] using h6
  · exact rd_some (by rw [(setz (b := w.heap.size + 1) (by omega) 1 v (setz (b := w.heap.size + 1) (by omega) 0 u ⟨h7, h8, h9, h10⟩)).1]; rfl)
  · exact rd_some (by rw [(two_cells h7 h8).1]; rfl)
  · exact rd_some (by rw [(setz (b := w.heap.size + 1) (by omega) 1 v (setz (b := w.heap.size + 1) (by omega) 0 u ⟨h7, h8, h9, h10⟩)).2.1]; rfl)
  · exact rd_some (by rw [(two_cells h7 h8).2]; rfl)
  · simpa [go_sem] using h9
  · simpa [go_sem] using h9
  · simpa [go_sem] using h10
  · simpa [go_sem] using h10

theorem pair_end {w : World} {b q : Nat} {x0 y0 u0 v0 x y u v : Value} (hq : q ≠ b) (h : w.cell? ⟨b, 0, none⟩ = some x0 ∧ w.cell? ⟨b, 1, none⟩ = some y0 ∧ w.frozen? ⟨b, 0, none⟩ = false ∧ w.frozen? ⟨b, 1, none⟩ = false)
    (k : w.cell? ⟨q, 0, none⟩ = some u0 ∧ w.cell? ⟨q, 1, none⟩ = some v0 ∧ w.frozen? ⟨q, 0, none⟩ = false ∧ w.frozen? ⟨q, 1, none⟩ = false) :
    ((((w.setCell ⟨b, 0, none⟩ x).setCell ⟨b, 1, none⟩ y).setCell ⟨q, 0, none⟩ u).setCell ⟨q, 1, none⟩ v).cell? ⟨b, 0, none⟩ = some x ∧ ((((w.setCell ⟨b, 0, none⟩ x).setCell ⟨b, 1, none⟩ y).setCell ⟨q, 0, none⟩ u).setCell ⟨q, 1, none⟩ v).cell? ⟨b, 1, none⟩ = some y ∧
    ((((w.setCell ⟨b, 0, none⟩ x).setCell ⟨b, 1, none⟩ y).setCell ⟨q, 0, none⟩ u).setCell ⟨q, 1, none⟩ v).cell? ⟨q, 0, none⟩ = some u ∧ ((((w.setCell ⟨b, 0, none⟩ x).setCell ⟨b, 1, none⟩ y).setCell ⟨q, 0, none⟩ u).setCell ⟨q, 1, none⟩ v).cell? ⟨q, 1, none⟩ = some v := by
  obtain ⟨t0, t1⟩ := two_cells h.1 h.2.1
  have z := setz hq 1 v (setz hq 0 u ⟨t0 x y, t1 x y, by simpa [go_sem] using h.2.2.1, by simpa [go_sem] using h.2.2.2⟩)
  have zq := setz (q := b) (b := q) (fun e => hq e.symm) 1 y (setz (fun e => hq e.symm) 0 x k)
  obtain ⟨s0, s1⟩ := two_cells zq.1 zq.2.1
  exact ⟨z.1, z.2.1, s0 u v, s1 u v⟩
end Go.Proofs.Ytbdmofmoegmigaa
