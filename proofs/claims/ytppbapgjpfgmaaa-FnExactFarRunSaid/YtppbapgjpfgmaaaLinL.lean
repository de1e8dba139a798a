/- Contract of the model's LinNot: the walk. -/
import Derived.Test.YtppbapgjpfgmaaaLinK
import Derived.OwnWalk
import Derived.IntWalk
import Derived.Test.YtppbapgjpfgmaaaBT
namespace Go.Proofs.Ytppbapgjpfgmaaa
set_option linter.unusedVariables false
set_option linter.unusedSimpArgs false
open Go.RowKit
end Go.Proofs.Ytppbapgjpfgmaaa
