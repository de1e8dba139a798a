/- Contracts of the program's isAssignment, coefRow.at, LinAt. -/
import Derived.Test.YtbhagobkkobgfaaBM
import Derived.Test.YtbhagobkkobgfaaLinU
import Derived.Test.YtbhagobkkobgfaaBL
import Derived.Test.YtbhagobkkobgfaaLawK
namespace Go.Proofs.Ytbhagobkkobgfaa
set_option linter.unusedVariables false
set_option linter.unusedSimpArgs false
open Go.RowKit
/-- at the loop's head: the row, the result still empty, the sum -/
def AtS (w : World) (Z N D : Nat → Int) (k : Nat) (wr : World) : Prop :=
  Below w.heap.size w wr ∧ wr.cell? ⟨w.heap.size + 1, 0, none⟩ = some (.int .i64 0) ∧ wr.cell? ⟨w.heap.size + 1, 1, none⟩ = some (.int .i64 0) ∧ wr.frozen? ⟨w.heap.size + 1, 0, none⟩ = false ∧ wr.frozen? ⟨w.heap.size + 1, 1, none⟩ = false ∧
  wr.frozen? ⟨w.heap.size + 1 + 1, 0, none⟩ = false ∧ wr.frozen? ⟨w.heap.size + 1 + 1, 1, none⟩ = false ∧
  ∃ x y, atS Z N D k = (x, y, true) ∧ wr.cell? ⟨w.heap.size + 1 + 1, 0, none⟩ = some (.int .i64 x) ∧ wr.cell? ⟨w.heap.size + 1 + 1, 1, none⟩ = some (.int .i64 y)
/-- what the sum is, said of a call -/
def AtP (w : World) (r : Int × Int × Bool) (e : Ending) (w' : World) : Prop := e = .returned (.tuple #[.agg #[.int .i64 r.1, .int .i64 r.2.1], .bool r.2.2]) ∧ Below w.heap.size w w'
theorem AtP.mk {w w' : World} {r : Int × Int × Bool} {x y : Int} {v : Bool} (h : r = (x, y, v)) (hb : Below w.heap.size w w') : AtP w r (.returned (.tuple #[.agg #[.int .i64 x, .int .i64 y], .bool v])) w' := by subst h; exact ⟨rfl, hb⟩
theorem set2 {w1 : World} {b : Nat} {u0 u1 : Value} (h0 : w1.cell? ⟨b, 0, none⟩ = some u0) (h1 : w1.cell? ⟨b, 1, none⟩ = some u1) (x0 x1 : Value) :
    ((w1.setCell ⟨b, 0, none⟩ x0).setCell ⟨b, 1, none⟩ x1).cell? ⟨b, 0, none⟩ = some x0 ∧ ((w1.setCell ⟨b, 0, none⟩ x0).setCell ⟨b, 1, none⟩ x1).cell? ⟨b, 1, none⟩ = some x1 := by
  refine ⟨?_, ?_⟩
  · rw [World.cell?_setCell_other _ _ _ _ (by simp)]; exact World.cell?_setCell_same _ _ _ h0
  · exact World.cell?_setCell_same _ _ _ (by rw [World.cell?_setCell_other _ _ _ _ (by simp)]; exact h1)
theorem far2 {w : World} {b o p : Nat} {u : Value} (x y : Value) (hp : p ≠ b) (h : w.cell? ⟨b, o, none⟩ = some u) : ((w.setCell ⟨p, 0, none⟩ x).setCell ⟨p, 1, none⟩ y).cell? ⟨b, o, none⟩ = some u := by
  rw [World.cell?_setCell_other _ _ _ _ (by simp <;> omega), World.cell?_setCell_other _ _ _ _ (by simp <;> omega)]; exact h
theorem frz2 {w : World} {a : Addr} {p : Nat} {v : Bool} (x y : Value) (h : w.frozen? a = v) : ((w.setCell ⟨p, 0, none⟩ x).setCell ⟨p, 1, none⟩ y).frozen? a = v := by simpa [go_sem] using h
theorem carryAf2 {w : World} {b o : Nat} {u : Value} {v : Bool} (x : Obj) (hc : w.cell? ⟨b, o, none⟩ = some u) (h : w.frozen? ⟨b, o, none⟩ = v) : (w.alloc x).frozen? ⟨b, o, none⟩ = v := carryf (bal (Below.refl _ _) x) h (cell_lt hc)
end Go.Proofs.Ytbhagobkkobgfaa
