/- Walk of the exact law of FarOk. -/
import Derived.Test.YtppbapgjpfgmaaaFarM
import Derived.Test.YtppbapgjpfgmaaaFarD
import Derived.Test.YtppbapgjpfgmaaaEqI
namespace Go.Proofs.Ytppbapgjpfgmaaa
set_option linter.unusedVariables false
set_option linter.unusedSimpArgs false
open Go.RowKit
end Go.Proofs.Ytppbapgjpfgmaaa
