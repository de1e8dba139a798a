/- Contract of the model's LinSame. -/
import Derived.Test.YtjnngijilkdhbaaLinN
namespace Go.Proofs.Ytjnngijilkdhbaa
set_option linter.unusedVariables false
set_option linter.unusedSimpArgs false
open Go.RowKit
end Go.Proofs.Ytjnngijilkdhbaa
