/- Walk of the exact law of ClauseOk. -/
import Derived.Test.YtoechhdahokoiaaCaA
namespace Go.Proofs.Ytoechhdahokoiaa
set_option linter.unusedVariables false
set_option linter.unusedSimpArgs false
open Go.RowKit
end Go.Proofs.Ytoechhdahokoiaa
