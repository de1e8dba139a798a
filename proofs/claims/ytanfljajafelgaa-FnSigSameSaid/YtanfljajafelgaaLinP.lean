/- Contract of the model's LinSame. -/
import Derived.Test.YtanfljajafelgaaLinN
namespace Go.Proofs.Ytanfljajafelgaa
set_option linter.unusedVariables false
set_option linter.unusedSimpArgs false
open Go.RowKit
end Go.Proofs.Ytanfljajafelgaa
