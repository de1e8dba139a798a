/- Contract of the model's LinNot: the walk. -/
import Derived.Test.YtkcmoflaoamepaaLinK
import Derived.OwnWalk
import Derived.IntWalk
import Derived.Test.YtkcmoflaoamepaaBT
namespace Go.Proofs.Ytkcmoflaoamepaa
set_option linter.unusedVariables false
set_option linter.unusedSimpArgs false
open Go.RowKit
end Go.Proofs.Ytkcmoflaoamepaa
