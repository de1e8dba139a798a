/- Contract of the model's LinSame. -/
import Derived.Test.YtoechhdahokoiaaLinN
namespace Go.Proofs.Ytoechhdahokoiaa
set_option linter.unusedVariables false
set_option linter.unusedSimpArgs false
open Go.RowKit
end Go.Proofs.Ytoechhdahokoiaa
