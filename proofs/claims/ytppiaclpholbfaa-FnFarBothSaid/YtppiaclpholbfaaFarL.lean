/- Contract of the model's FarSum. -/
import Derived.Test.YtppiaclpholbfaaFarF
import Derived.Test.YtppiaclpholbfaaFarJ
import Derived.Test.YtppiaclpholbfaaLinSB
import Derived.Test.YtppiaclpholbfaaFarK
namespace Go.Proofs.Ytppiaclpholbfaa
set_option linter.unusedVariables false
set_option linter.unusedSimpArgs false
open Go.RowKit
theorem SumI.below {w : World} {p : Nat} {R : LinR} {w1 w2 : World} (h : SumI w p R w1) (hq : Below w1.heap.size w1 w2) : SumI w p R w2 := by
  obtain ⟨A, c, lo, hi, hb, hp, h1, h2, h3, h4, hO, r0, r1, r2, s0, s1, s2, fr, fs⟩ := h
  exact ⟨A, c, lo, hi, btr hb hq, hp, h1, h2, h3, h4, hO.below hq, carry hq r0, carry hq r1, carry hq r2, carry hq s0, carry hq s1, carry hq s2, fun o => carryf hq (fr o) (cell_lt r0), fun o => carryf hq (fs o) (cell_lt s0)⟩
end Go.Proofs.Ytppiaclpholbfaa
