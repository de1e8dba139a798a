/- The text of a constraint: contract of the model's LinText. -/
import Derived.Test.YtcnlolocppbcjaaDoorLinTA
import Derived.Test.YtcnlolocppbcjaaDoorSay
import Derived.Test.YtcnlolocppbcjaaDoorBI
namespace Go.Proofs.YtcnlolocppbcjaaDoor
set_option linter.unusedVariables false
set_option linter.unusedSimpArgs false
open Go.Shelf Go.RowKit Go.Joins
end Go.Proofs.YtcnlolocppbcjaaDoor
