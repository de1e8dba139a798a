/- Contract of the model's LinSame. -/
import Derived.Test.YtppbapgjpfgmaaaLinN
namespace Go.Proofs.Ytppbapgjpfgmaaa
set_option linter.unusedVariables false
set_option linter.unusedSimpArgs false
open Go.RowKit
end Go.Proofs.Ytppbapgjpfgmaaa
