/- Contracts of the laws' helpers over lists of constraints: the comparison, the copy. -/
import Derived.Test.YtgdjkaeojocfhaaFarB
namespace Go.Proofs.Ytgdjkaeojocfhaa
set_option linter.unusedVariables false
set_option linter.unusedSimpArgs false
open Go.RowKit
end Go.Proofs.Ytgdjkaeojocfhaa
