/- Contract of the model's LinSame. -/
import Derived.Test.YtcnlolocppbcjaaDoorLinN
namespace Go.Proofs.YtcnlolocppbcjaaDoor
set_option linter.unusedVariables false
set_option linter.unusedSimpArgs false
open Go.RowKit
end Go.Proofs.YtcnlolocppbcjaaDoor
