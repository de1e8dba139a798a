/- Contracts of the laws' helpers over lists of constraints: the comparison, the copy. -/
import Derived.Test.YtplocljoanaoeaaFarB
namespace Go.Proofs.Ytplocljoanaoeaa
set_option linter.unusedVariables false
set_option linter.unusedSimpArgs false
open Go.RowKit
end Go.Proofs.Ytplocljoanaoeaa
