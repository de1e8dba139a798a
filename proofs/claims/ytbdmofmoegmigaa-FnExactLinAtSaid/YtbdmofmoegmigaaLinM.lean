/- Plain mathematics of bounds of sums, with no program in it: what is valid, two that are one, the negation, the combination. -/
import Derived.KernelRfl
namespace Go.Proofs.Ytbdmofmoegmigaa
set_option linter.unusedVariables false
set_option linter.unusedSimpArgs false
def inC (n : Int) : Bool := decide (-1000000 ≤ n ∧ n ≤ 1000000)
theorem inC_iff {n : Int} : inC n = true ↔ -1000000 ≤ n ∧ n ≤ 1000000 := by unfold inC; exact decide_eq_true_iff
/-- n coefficients Z, the bound b: a valid constraint -/
def okL (n : Nat) (Z : Nat → Int) (b : Int) : Bool := decide (n = 4 ∧ (∀ k, k < n → inC (Z k) = true) ∧ inC b = true)
theorem okL_iff {n : Nat} {Z : Nat → Int} {b : Int} : okL n Z b = true ↔ (n = 4 ∧ (∀ k, k < n → inC (Z k) = true) ∧ inC b = true) := by unfold okL; exact decide_eq_true_iff
theorem okL_len {n : Nat} {Z : Nat → Int} {b : Int} (h : n ≠ 4) : okL n Z b = false := by
  cases e : okL n Z b
  · rfl
  · exact absurd (okL_iff.1 e).1 h
theorem okL_at {n k : Nat} {Z : Nat → Int} {b : Int} (hk : k < n) (h : inC (Z k) = false) : okL n Z b = false := by
  cases e : okL n Z b
  · rfl
  · have := (okL_iff.1 e).2.1 k hk; rw [h] at this; cases this
theorem okL_bd {n : Nat} {Z : Nat → Int} {b : Int} (h : inC b = false) : okL n Z b = false := by
  cases e : okL n Z b
  · rfl
  · have := (okL_iff.1 e).2.2; rw [h] at this; cases this
/-- two rows of numbers are one -/
def eqI (n : Nat) (Z : Nat → Int) (m : Nat) (Y : Nat → Int) : Bool := decide (n = m ∧ ∀ k, k < n → Z k = Y k)
theorem eqI_iff {n m : Nat} {Z Y : Nat → Int} : eqI n Z m Y = true ↔ (n = m ∧ ∀ k, k < n → Z k = Y k) := by unfold eqI; exact decide_eq_true_iff
theorem eqI_len {n m : Nat} {Z Y : Nat → Int} (h : n ≠ m) : eqI n Z m Y = false := by
  cases e : eqI n Z m Y
  · rfl
  · exact absurd (eqI_iff.1 e).1 h
theorem eqI_at {n m k : Nat} {Z Y : Nat → Int} (hk : k < n) (h : Z k ≠ Y k) : eqI n Z m Y = false := by
  cases e : eqI n Z m Y
  · rfl
  · exact absurd ((eqI_iff.1 e).2 k hk) h
theorem eqI_self (n : Nat) (Z : Nat → Int) : eqI n Z n Z = true := eqI_iff.2 ⟨rfl, fun _ _ => rfl⟩
def eqL (n : Nat) (Z : Nat → Int) (b : Int) (s : Bool) (m : Nat) (Y : Nat → Int) (c : Int) (t : Bool) : Bool := eqI n Z m Y && decide (b = c) && decide (s = t)
theorem eqL_self (n : Nat) (Z : Nat → Int) (b : Int) (s : Bool) : eqL n Z b s n Z b s = true := by unfold eqL; rw [eqI_self]; simp
end Go.Proofs.Ytbdmofmoegmigaa
