/- Contract of the model's LinNot: the walk. -/
import Derived.Test.YthcabejfmoedfaaDoorLinK
import Derived.OwnWalk
import Derived.IntWalk
import Derived.Test.YthcabejfmoedfaaDoorBT
namespace Go.Proofs.YthcabejfmoedfaaDoor
set_option linter.unusedVariables false
set_option linter.unusedSimpArgs false
open Go.RowKit
end Go.Proofs.YthcabejfmoedfaaDoor
