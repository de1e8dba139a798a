/- What every law over fractions needs: a cell carried over a call; the cells of two boxed numbers. -/
import Derived.Test.YtedkalbjeeigaaaRatH
namespace Go.Proofs.Ytedkalbjeeigaaa
set_option linter.unusedVariables false
set_option linter.unusedSimpArgs false
open Go.RowKit

end Go.Proofs.Ytedkalbjeeigaaa
