/- Contracts of the laws' helpers over lists of constraints: the size, the comparison. -/
import Derived.Test.YtjnngijilkdhbaaFarA
import Derived.Test.YtjnngijilkdhbaaLinO
namespace Go.Proofs.Ytjnngijilkdhbaa
set_option linter.unusedVariables false
set_option linter.unusedSimpArgs false
open Go.RowKit
/-- what the size of a list answers: too great, or all rows are at most so long -/
def SzP (w : World) (n : Nat) (L : Lst) (l : Int) (e : Ending) (w' : World) : Prop :=
  ∃ r : Int, e = .returned (.int .i64 r) ∧ (r < 0 ∨ (0 ≤ r ∧ r ≤ l ∧ (n : Int) ≤ l ∧ ∀ k, k < n → (L.N k : Int) ≤ l)) ∧ Below w.heap.size w w'
end Go.Proofs.Ytjnngijilkdhbaa
