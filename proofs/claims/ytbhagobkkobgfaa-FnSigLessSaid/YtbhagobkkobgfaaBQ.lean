/- Several texts in one: SigF, SigG. -/
import Derived.Test.YtbhagobkkobgfaaBS
namespace Go.Proofs.Ytbhagobkkobgfaa
set_option linter.unusedVariables false
set_option linter.unusedSimpArgs false
open Go.RowKit
/-- two symbols are one -/
def symE (nm nm2 : ByteArray) (n : Nat) (Z : Nat → Int) (m : Nat) (Y : Nat → Int) (s s2 : Int) : Bool := decide (nm.toList = nm2.toList ∧ eqI n Z m Y = true ∧ s = s2)
theorem symE_iff {nm nm2 : ByteArray} {n m : Nat} {Z Y : Nat → Int} {s s2 : Int} : symE nm nm2 n Z m Y s s2 = true ↔ nm.toList = nm2.toList ∧ eqI n Z m Y = true ∧ s = s2 := by unfold symE; exact decide_eq_true_iff
theorem symE_no {nm nm2 : ByteArray} {n m : Nat} {Z Y : Nat → Int} {s s2 : Int} (h : ¬ (nm.toList = nm2.toList ∧ eqI n Z m Y = true ∧ s = s2)) : symE nm nm2 n Z m Y s s2 = false := by
  cases e : symE nm nm2 n Z m Y s s2
  · rfl
  · exact absurd (symE_iff.1 e) h
/-- two vocabularies are one -/
def sigE (n : Nat) (L : Sy) (m : Nat) (M : Sy) : Bool := decide (n = m ∧ ∀ k, k < n → symE (L.Nm k) (M.Nm k) (L.N k) (L.Z k) (M.N k) (M.Z k) (L.S k) (M.S k) = true)
theorem sigE_iff {n m : Nat} {L M : Sy} : sigE n L m M = true ↔ n = m ∧ ∀ k, k < n → symE (L.Nm k) (M.Nm k) (L.N k) (L.Z k) (M.N k) (M.Z k) (L.S k) (M.S k) = true := by unfold sigE; exact decide_eq_true_iff
theorem sigE_no {n m : Nat} {L M : Sy} (h : ¬ (n = m ∧ ∀ k, k < n → symE (L.Nm k) (M.Nm k) (L.N k) (L.Z k) (M.N k) (M.Z k) (L.S k) (M.S k) = true)) : sigE n L m M = false := by
  cases e : sigE n L m M
  · rfl
  · exact absurd (sigE_iff.1 e) h
end Go.Proofs.Ytbhagobkkobgfaa

namespace Go.Proofs.Ytbhagobkkobgfaa
set_option linter.unusedVariables false
set_option linter.unusedSimpArgs false
open Go.RowKit
end Go.Proofs.Ytbhagobkkobgfaa
