/- Contract of the model's LinSame. -/
import Derived.Test.YtgdjkaeojocfhaaLinN
namespace Go.Proofs.Ytgdjkaeojocfhaa
set_option linter.unusedVariables false
set_option linter.unusedSimpArgs false
open Go.RowKit
end Go.Proofs.Ytgdjkaeojocfhaa
