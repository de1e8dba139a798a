/- Walk of the exact law of FarOk. -/
import Derived.Test.YtgdjkaeojocfhaaFarM
import Derived.Test.YtgdjkaeojocfhaaFarD
import Derived.Test.YtgdjkaeojocfhaaEqI
namespace Go.Proofs.Ytgdjkaeojocfhaa
set_option linter.unusedVariables false
set_option linter.unusedSimpArgs false
open Go.RowKit
end Go.Proofs.Ytgdjkaeojocfhaa
