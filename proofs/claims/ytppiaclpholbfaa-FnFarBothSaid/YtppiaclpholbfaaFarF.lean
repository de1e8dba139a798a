/- Contract of the model's FarAll. -/
import Derived.Test.YtppiaclpholbfaaFarE
import Derived.Test.YtppiaclpholbfaaLinYA
namespace Go.Proofs.Ytppiaclpholbfaa
set_option linter.unusedVariables false
set_option linter.unusedSimpArgs false
open Go.RowKit
/-- all of a system are so of these numbers -/
def allB (n : Nat) (L : Lst) (m : Nat) (N D : Nat → Int) : Bool := decide ((∀ k, k < n → atB (L.N k) (L.Z k) (L.B k) (L.S k) m N D = (true, true)) ∧ okS n L = true ∧ valsB m N D = true)
theorem allB_iff {n m : Nat} {L : Lst} {N D : Nat → Int} : allB n L m N D = true ↔ (∀ k, k < n → atB (L.N k) (L.Z k) (L.B k) (L.S k) m N D = (true, true)) ∧ okS n L = true ∧ valsB m N D = true := by unfold allB; exact decide_eq_true_iff
theorem allB_at {n m k : Nat} {L : Lst} {N D : Nat → Int} (hk : k < n) (h : atB (L.N k) (L.Z k) (L.B k) (L.S k) m N D ≠ (true, true)) : allB n L m N D = false := by
  cases e : allB n L m N D
  · rfl
  · exact absurd ((allB_iff.1 e).1 k hk) h
end Go.Proofs.Ytppiaclpholbfaa
