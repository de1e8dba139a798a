/- Several texts in one: LinI, LinJ. -/
import Derived.Test.YtjnngijilkdhbaaBL
namespace Go.Proofs.Ytjnngijilkdhbaa
set_option linter.unusedVariables false
set_option linter.unusedSimpArgs false
open Go.RowKit
def e4 (z0 z1 z2 z3 : Int) : Bool := decide (z0 = 0 ∧ z1 = 0 ∧ z2 = 0 ∧ z3 = 0)
end Go.Proofs.Ytjnngijilkdhbaa

namespace Go.Proofs.Ytjnngijilkdhbaa
set_option linter.unusedVariables false
set_option linter.unusedSimpArgs false
open Go.RowKit
end Go.Proofs.Ytjnngijilkdhbaa
