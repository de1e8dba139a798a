/- A constraint that is none has no text. -/
import Derived.Test.YtcnlolocppbcjaaDoorBL
namespace Go.Proofs.YtcnlolocppbcjaaDoor
set_option linter.unusedVariables false
set_option linter.unusedSimpArgs false
open Go.RowKit
end Go.Proofs.YtcnlolocppbcjaaDoor
