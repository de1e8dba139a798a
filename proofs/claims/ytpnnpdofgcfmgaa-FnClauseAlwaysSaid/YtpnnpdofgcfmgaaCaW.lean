/- Walk of the exact law of ClauseOk. -/
import Derived.Test.YtpnnpdofgcfmgaaCaA
namespace Go.Proofs.Ytpnnpdofgcfmgaa
set_option linter.unusedVariables false
set_option linter.unusedSimpArgs false
open Go.RowKit
end Go.Proofs.Ytpnnpdofgcfmgaa
