/- Contract of the model's LinSame. -/
import Derived.Test.YtcnlolocppbcjaaLinN
namespace Go.Proofs.Ytcnlolocppbcjaa
set_option linter.unusedVariables false
set_option linter.unusedSimpArgs false
open Go.RowKit
end Go.Proofs.Ytcnlolocppbcjaa
