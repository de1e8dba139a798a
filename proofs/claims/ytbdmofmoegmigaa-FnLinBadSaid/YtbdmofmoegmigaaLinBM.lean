/- Plain mathematics: a constraint of no numbers at a point, and its negation. -/
import Derived.Test.YtbdmofmoegmigaaLinNM
namespace Go.Proofs.Ytbdmofmoegmigaa
set_option linter.unusedVariables false
set_option linter.unusedSimpArgs false
theorem ref_not {b : Int} {s : Bool} : refB (-b) (!s) = !refB b s := by
  unfold refB
  cases s <;> by_cases h : b < 0 <;> by_cases h2 : b = 0 <;> simp [h, h2] <;> omega
end Go.Proofs.Ytbdmofmoegmigaa
