/- Two slices of the same numbers, compared by the laws. -/
import Derived.Test.YtbhagobkkobgfaaBL
namespace Go.Proofs.Ytbhagobkkobgfaa
set_option linter.unusedVariables false
open Go.RowKit
end Go.Proofs.Ytbhagobkkobgfaa
