/- Walk of the exact law of LinAt. -/
import Derived.Test.YtkcmoflaoamepaaLinYA
import Derived.Test.YtkcmoflaoamepaaLinO
namespace Go.Proofs.Ytkcmoflaoamepaa
set_option linter.unusedVariables false
set_option linter.unusedSimpArgs false
open Go.RowKit
theorem rats_row {w w1 : World} {g n : Nat} {N D : Nat → Int} (h : w.rowIs g 73 (n * 2) (ratV N D)) (hb : Below w.heap.size w w1) : Rats w1 (some ⟨g, 0, none⟩) n N D := (Rats.of_row h).below hb
end Go.Proofs.Ytkcmoflaoamepaa
