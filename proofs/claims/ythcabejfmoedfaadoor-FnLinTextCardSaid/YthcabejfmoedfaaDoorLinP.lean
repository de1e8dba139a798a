/- Contract of the model's LinSame. -/
import Derived.Test.YthcabejfmoedfaaDoorLinN
namespace Go.Proofs.YthcabejfmoedfaaDoor
set_option linter.unusedVariables false
set_option linter.unusedSimpArgs false
open Go.RowKit
end Go.Proofs.YthcabejfmoedfaaDoor
