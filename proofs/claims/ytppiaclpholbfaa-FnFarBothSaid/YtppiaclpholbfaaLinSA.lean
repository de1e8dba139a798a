/- Contract of the model's l2Add: the combination of two valid constraints. -/
import Derived.Test.YtppiaclpholbfaaLinL
namespace Go.Proofs.Ytppiaclpholbfaa
set_option linter.unusedVariables false
set_option linter.unusedSimpArgs false
open Go.RowKit
/-- the combination of two rows -/
def addZ (Z : Nat → Int) (m : Int) (Y : Nat → Int) (n : Int) : Nat → Int := fun k => Z k * m + Y k * n
def strB (s : Bool) (m : Int) (u : Bool) (n : Int) : Bool := (s && decide (0 < m)) || (u && decide (0 < n))
def addR2 (Z : Nat → Int) (b : Int) (s : Bool) (m : Int) (Y : Nat → Int) (d : Int) (u : Bool) (n : Int) : LinR × Bool :=
  if okL 4 (addZ Z m Y n) (b * m + d * n) = true then ((4, addZ Z m Y n, b * m + d * n, strB s m u n), true) else (zeroL, false)
def SumP (w : World) (r : LinR × Bool) (e : Ending) (w' : World) : Prop := ∃ v, e = .returned (.tuple #[v, .bool r.2]) ∧ NewL w r.1 v w' ∧ Below w.heap.size w w'
theorem sum_p {w w' : World} {r : LinR × Bool} {v : Value} (h : NewL w r.1 v w') (hb : Below w.heap.size w w') : SumP w r (.returned (.tuple #[v, .bool r.2])) w' := ⟨v, rfl, h, hb⟩
theorem addZ_bd {Z Y : Nat → Int} {m n : Int} {k : Nat} (h1 : inC (Z k) = true) (h2 : inC (Y k) = true) (hm : 0 ≤ m ∧ m ≤ 1000000) (hn : 0 ≤ n ∧ n ≤ 1000000) : (-1000000000000 ≤ Z k * m ∧ Z k * m ≤ 1000000000000) ∧ (-1000000000000 ≤ Y k * n ∧ Y k * n ≤ 1000000000000) :=
  ⟨mul_bd6 (inC_iff.1 h1) (by omega), mul_bd6 (inC_iff.1 h2) (by omega)⟩
/-- two boxed constraints and a result, behind w -/
def Two (w w3 : World) (x y : Value) : Prop := Below w.heap.size w w3 ∧ w3.cell? ⟨w.heap.size, 0, none⟩ = some x ∧ w3.cell? ⟨w.heap.size + 1, 0, none⟩ = some y ∧ w3.cell? ⟨w.heap.size + 1 + 1, 0, none⟩ = some (.slice none 0 0) ∧ w3.cell? ⟨w.heap.size + 1 + 1, 1, none⟩ = some (.int .i64 0) ∧ w3.cell? ⟨w.heap.size + 1 + 1, 2, none⟩ = some (.bool false) ∧ w3.frozen? ⟨w.heap.size + 1 + 1, 0, none⟩ = false ∧ w3.frozen? ⟨w.heap.size + 1 + 1, 1, none⟩ = false ∧ w3.frozen? ⟨w.heap.size + 1 + 1, 2, none⟩ = false
theorem Two.mk (w : World) (x x1 x2 y y1 y2 : Value) (t : TypeId) : Two w (((w.alloc (.cells #[x, x1, x2] t)).alloc (.cells #[y, y1, y2] t)).alloc (.cells #[.slice none 0 0, .int .i64 0, .bool false] t)) x y := by
  refine ⟨bal (bal (bal (Below.refl _ _) _) _) _, ?_, ?_, ?_, ?_, ?_, ?_, ?_, ?_⟩ <;> simp [go_sem]
end Go.Proofs.Ytppiaclpholbfaa
