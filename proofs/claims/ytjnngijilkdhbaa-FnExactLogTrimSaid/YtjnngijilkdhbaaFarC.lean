/- Contracts of the laws' helpers over lists of constraints: the comparison, the copy. -/
import Derived.Test.YtjnngijilkdhbaaFarB
namespace Go.Proofs.Ytjnngijilkdhbaa
set_option linter.unusedVariables false
set_option linter.unusedSimpArgs false
open Go.RowKit
end Go.Proofs.Ytjnngijilkdhbaa
