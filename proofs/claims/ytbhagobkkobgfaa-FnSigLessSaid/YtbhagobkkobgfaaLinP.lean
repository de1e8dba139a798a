/- Contract of the model's LinSame. -/
import Derived.Test.YtbhagobkkobgfaaLinN
namespace Go.Proofs.Ytbhagobkkobgfaa
set_option linter.unusedVariables false
set_option linter.unusedSimpArgs false
open Go.RowKit
end Go.Proofs.Ytbhagobkkobgfaa
