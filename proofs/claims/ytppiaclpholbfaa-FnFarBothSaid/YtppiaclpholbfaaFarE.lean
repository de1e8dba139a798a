/- Contract of the model's l3Ok: a list of not too many valid constraints. -/
import Derived.Test.YtppiaclpholbfaaFarA
import Derived.Test.YtppiaclpholbfaaBI
namespace Go.Proofs.Ytppiaclpholbfaa
set_option linter.unusedVariables false
set_option linter.unusedSimpArgs false
open Go.RowKit
/-- a system: not too many constraints, all valid -/
def okS (n : Nat) (L : Lst) : Bool := decide (n ≤ 20 ∧ ∀ k, k < n → okL (L.N k) (L.Z k) (L.B k) = true)
theorem okS_iff {n : Nat} {L : Lst} : okS n L = true ↔ n ≤ 20 ∧ ∀ k, k < n → okL (L.N k) (L.Z k) (L.B k) = true := by unfold okS; exact decide_eq_true_iff
theorem okS_at {n k : Nat} {L : Lst} (hk : k < n) (h : okL (L.N k) (L.Z k) (L.B k) = false) : okS n L = false := by
  cases e : okS n L
  · rfl
  · have := (okS_iff.1 e).2 k hk; rw [h] at this; cases this
theorem okS_len {n : Nat} {L : Lst} (h : 20 < n) : okS n L = false := by
  cases e : okS n L
  · rfl
  · have := (okS_iff.1 e).1; omega
end Go.Proofs.Ytppiaclpholbfaa
