/- Contract of the model's LinSame. -/
import Derived.Test.YtkcmoflaoamepaaLinN
namespace Go.Proofs.Ytkcmoflaoamepaa
set_option linter.unusedVariables false
set_option linter.unusedSimpArgs false
open Go.RowKit
end Go.Proofs.Ytkcmoflaoamepaa
