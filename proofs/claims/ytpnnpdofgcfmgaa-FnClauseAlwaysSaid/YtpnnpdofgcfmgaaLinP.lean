/- Contract of the model's LinSame. -/
import Derived.Test.YtpnnpdofgcfmgaaLinN
namespace Go.Proofs.Ytpnnpdofgcfmgaa
set_option linter.unusedVariables false
set_option linter.unusedSimpArgs false
open Go.RowKit
end Go.Proofs.Ytpnnpdofgcfmgaa
