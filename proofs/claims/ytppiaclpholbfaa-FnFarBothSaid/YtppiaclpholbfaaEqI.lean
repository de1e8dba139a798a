/- Two slices of the same numbers, compared by the laws. -/
import Derived.Test.YtppiaclpholbfaaBL
namespace Go.Proofs.Ytppiaclpholbfaa
set_option linter.unusedVariables false
open Go.RowKit
end Go.Proofs.Ytppiaclpholbfaa
