/- Contract of the model's LinSame. -/
import Derived.Test.YtkafgfngckecgaaLinN
namespace Go.Proofs.Ytkafgfngckecgaa
set_option linter.unusedVariables false
set_option linter.unusedSimpArgs false
open Go.RowKit
end Go.Proofs.Ytkafgfngckecgaa
