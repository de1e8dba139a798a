/- Contract of the model's LinNot: the walk. -/
import Derived.Test.YtcnlolocppbcjaaDoorLinK
import Derived.OwnWalk
import Derived.IntWalk
import Derived.Test.YtcnlolocppbcjaaDoorBT
namespace Go.Proofs.YtcnlolocppbcjaaDoor
set_option linter.unusedVariables false
set_option linter.unusedSimpArgs false
open Go.RowKit
end Go.Proofs.YtcnlolocppbcjaaDoor
