/- Two slices of the same numbers, compared by the laws. -/
import Derived.Test.YtgdjkaeojocfhaaBL
namespace Go.Proofs.Ytgdjkaeojocfhaa
set_option linter.unusedVariables false
open Go.RowKit
end Go.Proofs.Ytgdjkaeojocfhaa
