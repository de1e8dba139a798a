/- Contracts of the laws' helpers over a constraint: the size, the copy, the comparison, marks and what is held. -/
import Derived.Test.YtjnngijilkdhbaaBI
import Derived.Test.YtjnngijilkdhbaaBT
namespace Go.Proofs.Ytjnngijilkdhbaa
set_option linter.unusedVariables false
set_option linter.unusedSimpArgs false
open Go.RowKit
theorem own_row {W w1 : World} {g n : Nat} {t : TypeId} {Z : Nat → Int} (hg : W.heap.size ≤ g) (hr : w1.rowIs g t n (fun k => .int .i64 (Z k))) : OwnI W w1 (some ⟨g, 0, none⟩) n Z :=
  .inr ⟨g, rfl, hg, hr.lt, fun k hk => ⟨hr.cell hk, hr.frozen k⟩⟩
theorem new3x (w : World) (x y z : Value) (t : TypeId) (o : Obj) : ((w.alloc (.cells #[x, y, z] t)).alloc o).cell? ⟨w.heap.size, 0, none⟩ = some x ∧ ((w.alloc (.cells #[x, y, z] t)).alloc o).cell? ⟨w.heap.size, 1, none⟩ = some y ∧ ((w.alloc (.cells #[x, y, z] t)).alloc o).cell? ⟨w.heap.size, 2, none⟩ = some z := by
  refine ⟨carryA _ ?_, carryA _ ?_, carryA _ ?_⟩ <;> simp [go_sem]
theorem bdnn {B : Nat} {a w : World} (h : Below B a w) (n : Nat) : Below B a (w.drewN n) := below_drewN h n
end Go.Proofs.Ytjnngijilkdhbaa
