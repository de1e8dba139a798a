/- Contract of the model's LinSame. -/
import Derived.Test.YtmeglflbjedndaaLinN
namespace Go.Proofs.Ytmeglflbjedndaa
set_option linter.unusedVariables false
set_option linter.unusedSimpArgs false
open Go.RowKit
end Go.Proofs.Ytmeglflbjedndaa
