/- Contracts of ClauseIs, of the program and of the model; walk of its exact law. -/
import Derived.Test.YtjnngijilkdhbaaCbA
namespace Go.Proofs.Ytjnngijilkdhbaa
set_option linter.unusedVariables false
set_option linter.unusedSimpArgs false
open Go.RowKit
/-- a clause that is true -/
def clB (n : Nat) (Z : Nat → Int) (N : Nat) (V : Nat → Bool) : Bool := decide (∃ k, k < n ∧ isC (Z k) N V = true)
theorem clB_iff {n N : Nat} {Z : Nat → Int} {V : Nat → Bool} : clB n Z N V = true ↔ ∃ k, k < n ∧ isC (Z k) N V = true := by unfold clB; exact decide_eq_true_iff
theorem clB_no {n N : Nat} {Z : Nat → Int} {V : Nat → Bool} (h : ∀ k, k < n → isC (Z k) N V = false) : clB n Z N V = false := by
  cases e : clB n Z N V
  · rfl
  · obtain ⟨k, hk, h1⟩ := clB_iff.1 e
    rw [h k hk] at h1
    cases h1
theorem isC_zero {N : Nat} {V : Nat → Bool} {x : Int} (h : x = 0) : isC x N V = false := isC_no (ofC_no (fun e => e.1 h))
end Go.Proofs.Ytjnngijilkdhbaa
