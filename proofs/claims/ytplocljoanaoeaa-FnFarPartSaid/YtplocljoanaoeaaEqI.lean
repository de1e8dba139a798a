/- Two slices of the same numbers, compared by the laws. -/
import Derived.Test.YtplocljoanaoeaaBL
namespace Go.Proofs.Ytplocljoanaoeaa
set_option linter.unusedVariables false
open Go.RowKit
end Go.Proofs.Ytplocljoanaoeaa
