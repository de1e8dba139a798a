/- Contract of the model's LinSame. -/
import Derived.Test.YtplocljoanaoeaaLinN
namespace Go.Proofs.Ytplocljoanaoeaa
set_option linter.unusedVariables false
set_option linter.unusedSimpArgs false
open Go.RowKit
end Go.Proofs.Ytplocljoanaoeaa
