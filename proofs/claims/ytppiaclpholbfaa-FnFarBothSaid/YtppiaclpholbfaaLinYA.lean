/- Contract of the model's LinAt. -/
import Derived.Test.YtppiaclpholbfaaLinY
namespace Go.Proofs.Ytppiaclpholbfaa
set_option linter.unusedVariables false
set_option linter.unusedSimpArgs false
open Go.RowKit
end Go.Proofs.Ytppiaclpholbfaa
