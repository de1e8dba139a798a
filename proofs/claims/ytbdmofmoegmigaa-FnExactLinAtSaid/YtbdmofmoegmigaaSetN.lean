/- Cells of a block that is stored to cell by cell. -/
import Derived.Test.YtbdmofmoegmigaaBase
namespace Go.Proofs.Ytbdmofmoegmigaa
set_option linter.unusedVariables false
set_option linter.unusedSimpArgs false
open Go.RowKit
theorem set3 {w1 : World} {b : Nat} {u0 u1 u2 : Value} (h0 : w1.cell? ⟨b, 0, none⟩ = some u0) (h1 : w1.cell? ⟨b, 1, none⟩ = some u1) (h2 : w1.cell? ⟨b, 2, none⟩ = some u2) (x0 x1 x2 : Value) :
    (((w1.setCell ⟨b, 0, none⟩ x0).setCell ⟨b, 1, none⟩ x1).setCell ⟨b, 2, none⟩ x2).cell? ⟨b, 0, none⟩ = some x0 ∧ (((w1.setCell ⟨b, 0, none⟩ x0).setCell ⟨b, 1, none⟩ x1).setCell ⟨b, 2, none⟩ x2).cell? ⟨b, 1, none⟩ = some x1 ∧ (((w1.setCell ⟨b, 0, none⟩ x0).setCell ⟨b, 1, none⟩ x1).setCell ⟨b, 2, none⟩ x2).cell? ⟨b, 2, none⟩ = some x2 := by
  have k : ∀ (w : World) (p q : Nat) (x : Value), p ≠ q → (w.setCell ⟨b, p, none⟩ x).cell? ⟨b, q, none⟩ = w.cell? ⟨b, q, none⟩ := fun w p q x h => World.cell?_setCell_other _ _ _ _ (by simp [h])
  refine ⟨?_, ?_, ?_⟩
  · rw [k _ 2 0 _ (by decide), k _ 1 0 _ (by decide)]; exact World.cell?_setCell_same _ _ _ (h0)
  · rw [k _ 2 1 _ (by decide)]; exact World.cell?_setCell_same _ _ _ (by rw [k _ 0 1 _ (by decide)]; exact h1)
  · exact World.cell?_setCell_same _ _ _ (by rw [k _ 1 2 _ (by decide), k _ 0 2 _ (by decide)]; exact h2)
theorem set4 {w1 : World} {b : Nat} {u0 u1 u2 u3 : Value} (h0 : w1.cell? ⟨b, 0, none⟩ = some u0) (h1 : w1.cell? ⟨b, 1, none⟩ = some u1) (h2 : w1.cell? ⟨b, 2, none⟩ = some u2) (h3 : w1.cell? ⟨b, 3, none⟩ = some u3) (x0 x1 x2 x3 : Value) :
    ((((w1.setCell ⟨b, 0, none⟩ x0).setCell ⟨b, 1, none⟩ x1).setCell ⟨b, 2, none⟩ x2).setCell ⟨b, 3, none⟩ x3).cell? ⟨b, 0, none⟩ = some x0 ∧ ((((w1.setCell ⟨b, 0, none⟩ x0).setCell ⟨b, 1, none⟩ x1).setCell ⟨b, 2, none⟩ x2).setCell ⟨b, 3, none⟩ x3).cell? ⟨b, 1, none⟩ = some x1 ∧ ((((w1.setCell ⟨b, 0, none⟩ x0).setCell ⟨b, 1, none⟩ x1).setCell ⟨b, 2, none⟩ x2).setCell ⟨b, 3, none⟩ x3).cell? ⟨b, 2, none⟩ = some x2 ∧ ((((w1.setCell ⟨b, 0, none⟩ x0).setCell ⟨b, 1, none⟩ x1).setCell ⟨b, 2, none⟩ x2).setCell ⟨b, 3, none⟩ x3).cell? ⟨b, 3, none⟩ = some x3 := by
  have k : ∀ (w : World) (p q : Nat) (x : Value), p ≠ q → (w.setCell ⟨b, p, none⟩ x).cell? ⟨b, q, none⟩ = w.cell? ⟨b, q, none⟩ := fun w p q x h => World.cell?_setCell_other _ _ _ _ (by simp [h])
  refine ⟨?_, ?_, ?_, ?_⟩
  · rw [k _ 3 0 _ (by decide), k _ 2 0 _ (by decide), k _ 1 0 _ (by decide)]; exact World.cell?_setCell_same _ _ _ (h0)
  · rw [k _ 3 1 _ (by decide), k _ 2 1 _ (by decide)]; exact World.cell?_setCell_same _ _ _ (by rw [k _ 0 1 _ (by decide)]; exact h1)
  · rw [k _ 3 2 _ (by decide)]; exact World.cell?_setCell_same _ _ _ (by rw [k _ 1 2 _ (by decide), k _ 0 2 _ (by decide)]; exact h2)
  · exact World.cell?_setCell_same _ _ _ (by rw [k _ 2 3 _ (by decide), k _ 1 3 _ (by decide), k _ 0 3 _ (by decide)]; exact h3)
theorem set6 {w1 : World} {b : Nat} {u0 u1 u2 u3 u4 u5 : Value} (h0 : w1.cell? ⟨b, 0, none⟩ = some u0) (h1 : w1.cell? ⟨b, 1, none⟩ = some u1) (h2 : w1.cell? ⟨b, 2, none⟩ = some u2) (h3 : w1.cell? ⟨b, 3, none⟩ = some u3) (h4 : w1.cell? ⟨b, 4, none⟩ = some u4) (h5 : w1.cell? ⟨b, 5, none⟩ = some u5) (x0 x1 x2 x3 x4 x5 : Value) :
    ((((((w1.setCell ⟨b, 0, none⟩ x0).setCell ⟨b, 1, none⟩ x1).setCell ⟨b, 2, none⟩ x2).setCell ⟨b, 3, none⟩ x3).setCell ⟨b, 4, none⟩ x4).setCell ⟨b, 5, none⟩ x5).cell? ⟨b, 0, none⟩ = some x0 ∧ ((((((w1.setCell ⟨b, 0, none⟩ x0).setCell ⟨b, 1, none⟩ x1).setCell ⟨b, 2, none⟩ x2).setCell ⟨b, 3, none⟩ x3).setCell ⟨b, 4, none⟩ x4).setCell ⟨b, 5, none⟩ x5).cell? ⟨b, 1, none⟩ = some x1 ∧ ((((((w1.setCell ⟨b, 0, none⟩ x0).setCell ⟨b, 1, none⟩ x1).setCell ⟨b, 2, none⟩ x2).setCell ⟨b, 3, none⟩ x3).setCell ⟨b, 4, none⟩ x4).setCell ⟨b, 5, none⟩ x5).cell? ⟨b, 2, none⟩ = some x2 ∧ ((((((w1.setCell ⟨b, 0, none⟩ x0).setCell ⟨b, 1, none⟩ x1).setCell ⟨b, 2, none⟩ x2).setCell ⟨b, 3, none⟩ x3).setCell ⟨b, 4, none⟩ x4).setCell ⟨b, 5, none⟩ x5).cell? ⟨b, 3, none⟩ = some x3 ∧ ((((((w1.setCell ⟨b, 0, none⟩ x0).setCell ⟨b, 1, none⟩ x1).setCell ⟨b, 2, none⟩ x2).setCell ⟨b, 3, none⟩ x3).setCell ⟨b, 4, none⟩ x4).setCell ⟨b, 5, none⟩ x5).cell? ⟨b, 4, none⟩ = some x4 ∧ ((((((w1.setCell ⟨b, 0, none⟩ x0).setCell ⟨b, 1, none⟩ x1).setCell ⟨b, 2, none⟩ x2).setCell ⟨b, 3, none⟩ x3).setCell ⟨b, 4, none⟩ x4).setCell ⟨b, 5, none⟩ x5).cell? ⟨b, 5, none⟩ = some x5 := by
  have k : ∀ (w : World) (p q : Nat) (x : Value), p ≠ q → (w.setCell ⟨b, p, none⟩ x).cell? ⟨b, q, none⟩ = w.cell? ⟨b, q, none⟩ := fun w p q x h => World.cell?_setCell_other _ _ _ _ (by simp [h])
  refine ⟨?_, ?_, ?_, ?_, ?_, ?_⟩
  · rw [k _ 5 0 _ (by decide), k _ 4 0 _ (by decide), k _ 3 0 _ (by decide), k _ 2 0 _ (by decide), k _ 1 0 _ (by decide)]; exact World.cell?_setCell_same _ _ _ (h0)
  · rw [k _ 5 1 _ (by decide), k _ 4 1 _ (by decide), k _ 3 1 _ (by decide), k _ 2 1 _ (by decide)]; exact World.cell?_setCell_same _ _ _ (by rw [k _ 0 1 _ (by decide)]; exact h1)
  · rw [k _ 5 2 _ (by decide), k _ 4 2 _ (by decide), k _ 3 2 _ (by decide)]; exact World.cell?_setCell_same _ _ _ (by rw [k _ 1 2 _ (by decide), k _ 0 2 _ (by decide)]; exact h2)
  · rw [k _ 5 3 _ (by decide), k _ 4 3 _ (by decide)]; exact World.cell?_setCell_same _ _ _ (by rw [k _ 2 3 _ (by decide), k _ 1 3 _ (by decide), k _ 0 3 _ (by decide)]; exact h3)
  · rw [k _ 5 4 _ (by decide)]; exact World.cell?_setCell_same _ _ _ (by rw [k _ 3 4 _ (by decide), k _ 2 4 _ (by decide), k _ 1 4 _ (by decide), k _ 0 4 _ (by decide)]; exact h4)
  · exact World.cell?_setCell_same _ _ _ (by rw [k _ 4 5 _ (by decide), k _ 3 5 _ (by decide), k _ 2 5 _ (by decide), k _ 1 5 _ (by decide), k _ 0 5 _ (by decide)]; exact h5)
theorem far3 {w : World} {b o p : Nat} {u : Value} (x y z : Value) (hp : p ≠ b) (h : w.cell? ⟨b, o, none⟩ = some u) : (((w.setCell ⟨p, 0, none⟩ x).setCell ⟨p, 1, none⟩ y).setCell ⟨p, 2, none⟩ z).cell? ⟨b, o, none⟩ = some u := by
  rw [World.cell?_setCell_other _ _ _ _ (by simp <;> omega), World.cell?_setCell_other _ _ _ _ (by simp <;> omega), World.cell?_setCell_other _ _ _ _ (by simp <;> omega)]; exact h
/-- the listed cells stand in w -/
def KcL : List (Nat × Nat × Value) → World → Prop
  | [], _ => True
  | e :: l, w => w.cell? ⟨e.1, e.2.1, none⟩ = some e.2.2 ∧ KcL l w
theorem KcL.below {w w' : World} (hb : Below w.heap.size w w') : ∀ {L : List (Nat × Nat × Value)}, KcL L w → KcL L w'
  | [], _ => trivial
  | _ :: _, ⟨h, t⟩ => ⟨carry hb h, KcL.below hb t⟩
theorem KcL.app {w : World} : ∀ {L M : List (Nat × Nat × Value)}, KcL L w → KcL M w → KcL (L ++ M) w
  | [], _, _, m => m
  | _ :: _, _, ⟨h, t⟩, m => ⟨h, KcL.app t m⟩
/-- the cells of a new block of three -/
theorem KcL.new3 (w : World) (x y z : Value) (t : TypeId) {n : Nat} (hn : w.heap.size = n) : KcL [(n, 0, x), (n, 1, y), (n, 2, z)] (w.alloc (.cells #[x, y, z] t)) := by
  subst hn
  refine ⟨?_, ?_, ?_, trivial⟩ <;> simp [go_sem]
theorem KcL.alloc {w : World} {L : List (Nat × Nat × Value)} (h : KcL L w) (o : Obj) : KcL L (w.alloc o) := h.below ((Below.refl _ _).alloc (Nat.le_refl _) o)
end Go.Proofs.Ytbdmofmoegmigaa
