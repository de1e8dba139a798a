/- Contract of the laws' marks in a list of constraints. -/
import Derived.Test.YtplocljoanaoeaaFarO
namespace Go.Proofs.Ytplocljoanaoeaa
set_option linter.unusedVariables false
set_option linter.unusedSimpArgs false
open Go.RowKit
theorem linV_congr {LA : Nat → Option Addr} {LC : Nat → Nat} {L M : Lst} {j : Nat} (h1 : L.N = M.N) (h2 : L.B (j / 3) = M.B (j / 3)) (h3 : L.S (j / 3) = M.S (j / 3)) : linV LA LC L j = linV LA LC M j := by
  unfold linV; rw [h1, h2, h3]
theorem mixL_zero (k0 : Int) (L : Lst) : mixL k0 L 0 = L := by
  unfold mixL; simp
theorem mod3_beq (a : Int) : (a % 3 == 0) = decide (a % 3 = 0) := by
  by_cases h : a % 3 = 0 <;> simp [h]
end Go.Proofs.Ytplocljoanaoeaa
