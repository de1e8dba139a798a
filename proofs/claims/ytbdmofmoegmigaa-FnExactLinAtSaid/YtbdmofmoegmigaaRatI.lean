/- What every law over fractions needs: a cell carried over a call; the cells of two boxed numbers. -/
import Derived.Test.YtbdmofmoegmigaaRatH
namespace Go.Proofs.Ytbdmofmoegmigaa
set_option linter.unusedVariables false
set_option linter.unusedSimpArgs false
open Go.RowKit

end Go.Proofs.Ytbdmofmoegmigaa
