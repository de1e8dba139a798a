/- Contract of the model's LinSame. -/
import Derived.Test.YtmnfnpmeacfebaaLinN
namespace Go.Proofs.Ytmnfnpmeacfebaa
set_option linter.unusedVariables false
set_option linter.unusedSimpArgs false
open Go.RowKit
end Go.Proofs.Ytmnfnpmeacfebaa
