/- Several texts in one: FindA, FindB, FindC, FindD, FindE. -/
import Derived.Test.YtbhagobkkobgfaaBS
import Derived.Test.YtbhagobkkobgfaaBU
import Derived.Laws.Shifts
import Derived.Test.YtbhagobkkobgfaaPlanB
namespace Go.Proofs.Ytbhagobkkobgfaa
set_option linter.unusedVariables false
set_option linter.unusedSimpArgs false
open Go.RowKit
theorem bl_irr : ∀ a : List UInt8, Op.bytesLess a a = false
  | [] => rfl
  | a :: x => by simp [Op.bytesLess, bl_irr x]
theorem bl_nil (a : List UInt8) : Op.bytesLess a [] = false := by cases a <;> rfl
theorem bl_trans : ∀ {a b c : List UInt8}, Op.bytesLess a b = true → Op.bytesLess b c = true → Op.bytesLess a c = true
  | _, [], _, h, _ => by rw [bl_nil] at h; cases h
  | _, _ :: _, [], _, h => by rw [bl_nil] at h; cases h
  | [], _ :: _, _ :: _, _, _ => rfl
  | x :: a, y :: b, z :: c, h1, h2 => by
    have ih := @bl_trans a b c
    simp only [Op.bytesLess, Bool.or_eq_true, Bool.and_eq_true, beq_iff_eq, decide_eq_true_eq] at h1 h2 ⊢
    rcases h1 with h1 | ⟨rfl, h1⟩
    · rcases h2 with h2 | ⟨rfl, h2⟩
      · exact .inl (UInt8.lt_trans h1 h2)
      · exact .inl h1
    · rcases h2 with h2 | ⟨rfl, h2⟩
      · exact .inl h2
      · exact .inr ⟨rfl, ih h1 h2⟩
theorem bl_tri : ∀ {a b : List UInt8}, Op.bytesLess a b = false → Op.bytesLess b a = false → a = b
  | [], [], _, _ => rfl
  | [], _ :: _, h, _ => by cases h
  | _ :: _, [], _, h => by cases h
  | x :: a, y :: b, h1, h2 => by
    have ih := @bl_tri a b
    simp only [Op.bytesLess, Bool.or_eq_false_iff, Bool.and_eq_false_iff, decide_eq_false_iff_not] at h1 h2
    have e : x = y := UInt8.le_antisymm (UInt8.not_lt.1 h2.1) (UInt8.not_lt.1 h1.1)
    subst e
    rw [ih (by simpa using h1.2) (by simpa using h2.2)]
/-- how two texts compare -/
def cmpI (a b : ByteArray) : Int := if Op.bytesLess a.toList b.toList = true then -1 else if a.toList = b.toList then 0 else 1
theorem cmpI_neg {a b : ByteArray} : cmpI a b < 0 ↔ Op.bytesLess a.toList b.toList = true := by
  unfold cmpI
  by_cases h : Op.bytesLess a.toList b.toList = true
  · rw [if_pos h]; exact ⟨fun _ => h, fun _ => by omega⟩
  · rw [if_neg h]; by_cases e : a.toList = b.toList
    · rw [if_pos e]; exact ⟨fun h => by omega, fun h' => absurd h' h⟩
    · rw [if_neg e]; exact ⟨fun h => by omega, fun h' => absurd h' h⟩
theorem cmpI_zero {a b : ByteArray} : cmpI a b = 0 ↔ a.toList = b.toList := by
  unfold cmpI
  by_cases h : Op.bytesLess a.toList b.toList = true
  · rw [if_pos h]; exact ⟨fun h => by omega, fun e => by rw [e, bl_irr] at h; cases h⟩
  · rw [if_neg h]; by_cases e : a.toList = b.toList
    · rw [if_pos e]; exact ⟨fun _ => e, fun _ => rfl⟩
    · rw [if_neg e]; exact ⟨fun h => by omega, fun h' => absurd h' e⟩
/-- where a name stands first, or n -/
def fnd (Nm : Nat → ByteArray) (x : ByteArray) : Nat → Nat
  | 0 => 0
  | n + 1 => if fnd Nm x n < n then fnd Nm x n else if (Nm n).toList = x.toList then n else n + 1
theorem fnd_spec (Nm : Nat → ByteArray) (x : ByteArray) : ∀ n, fnd Nm x n ≤ n ∧ (∀ j, j < fnd Nm x n → (Nm j).toList ≠ x.toList) ∧ (fnd Nm x n < n → (Nm (fnd Nm x n)).toList = x.toList)
  | 0 => ⟨Nat.le_refl _, fun j hj => absurd hj (by simp [fnd]), fun h => by simp [fnd] at h⟩
  | n + 1 => by
    obtain ⟨h1, h2, h3⟩ := fnd_spec Nm x n
    rw [fnd]
    by_cases h : fnd Nm x n < n
    · rw [if_pos h]; exact ⟨by omega, h2, fun _ => h3 h⟩
    · rw [if_neg h]
      have e : fnd Nm x n = n := by omega
      rw [e] at h2
      by_cases he : (Nm n).toList = x.toList
      · rw [if_pos he]; exact ⟨by omega, h2, fun _ => he⟩
      · rw [if_neg he]; refine ⟨Nat.le_refl _, fun j hj => ?_, fun h => by omega⟩
        by_cases hj2 : j = n
        · rw [hj2]; exact he
        · exact h2 j (by omega)
theorem fnd_of {Nm : Nat → ByteArray} {x : ByteArray} {n k : Nat} (hk : k < n) (he : (Nm k).toList = x.toList) (hl : ∀ j, j < k → (Nm j).toList ≠ x.toList) : fnd Nm x n = k := by
  obtain ⟨h1, h2, h3⟩ := fnd_spec Nm x n
  rcases Nat.lt_trichotomy (fnd Nm x n) k with h | h | h
  · exact absurd (h3 (by omega)) (hl _ h)
  · exact h
  · exact absurd he (h2 k h)
theorem fnd_none {Nm : Nat → ByteArray} {x : ByteArray} {n : Nat} (hl : ∀ j, j < n → (Nm j).toList ≠ x.toList) : fnd Nm x n = n := by
  obtain ⟨h1, h2, h3⟩ := fnd_spec Nm x n
  by_cases h : fnd Nm x n < n
  · exact absurd (h3 h) (hl _ h)
  · omega
theorem asc_lt {n : Nat} {Nm : Nat → ByteArray} (h : ascB n Nm = true) : ∀ {j k : Nat}, k < j → j < n → Op.bytesLess (Nm k).toList (Nm j).toList = true
  | 0, k, hk, _ => by omega
  | j + 1, k, hk, hj => by
    have h1 := ascB_iff.1 h j (by omega) hj
    by_cases e : k = j
    · rw [e]; exact h1
    · exact bl_trans (asc_lt h (show k < j by omega) (by omega)) h1
theorem asc_neg {n : Nat} {Nm : Nat → ByteArray} (h : ascB n Nm = true) {x : ByteArray} {j k : Nat} (hk : k ≤ j) (hj : j < n) (hc : Op.bytesLess (Nm j).toList x.toList = true) : Op.bytesLess (Nm k).toList x.toList = true := by
  by_cases e : k = j
  · rw [e]; exact hc
  · exact bl_trans (asc_lt h (show k < j by omega) hj) hc
theorem bl_ne {a b : List UInt8} (h : Op.bytesLess a b = true) : a ≠ b := fun e => by rw [e, bl_irr] at h; cases h
/-- what the halving leaves -/
theorem half_fnd {n i : Nat} {Nm : Nat → ByteArray} {x : ByteArray} (h : ascB n Nm = true) (hi : i ≤ n) (hl : ∀ k, k < i → Op.bytesLess (Nm k).toList x.toList = true) (hr : ∀ k, i ≤ k → k < n → Op.bytesLess (Nm k).toList x.toList = false) :
    (i < n → (Nm i).toList = x.toList → fnd Nm x n = i) ∧ (i < n → (Nm i).toList ≠ x.toList → fnd Nm x n = n) ∧ (i = n → fnd Nm x n = n) := by
  refine ⟨fun hn he => fnd_of hn he fun j hj => bl_ne (hl j hj), fun hn he => fnd_none fun j hj => ?_, fun e => fnd_none fun j hj => bl_ne (hl j (by omega))⟩
  by_cases h1 : j < i
  · exact bl_ne (hl j h1)
  · by_cases h2 : j = i
    · rw [h2]; exact he
    · intro h3
      have := asc_lt h (show i < j by omega) hj
      rw [h3, hr i (Nat.le_refl _) hn] at this; cases this
end Go.Proofs.Ytbhagobkkobgfaa

namespace Go.Proofs.Ytbhagobkkobgfaa
set_option linter.unusedVariables false
set_option linter.unusedSimpArgs false
open Go.RowKit
/-- a symbol and whether there is one, handed back -/
def FndP (w0 : World) (n : Nat) (L : Sy) (x : ByteArray) (w : World) (e : Ending) (w' : World) : Prop :=
  Below w.heap.size w w' ∧ ((∃ k, fnd L.Nm x n = k ∧ k < n ∧ ∃ a c, e = .returned (.tuple #[.agg #[.string (L.Nm k), .slice a (L.N k) c, .int .i64 (L.S k)], .bool true]) ∧ L.N k ≤ 9223372036854775807 ∧ Ints w0 a (L.N k) (L.Z k)) ∨
    (fnd L.Nm x n = n ∧ e = .returned (.tuple #[.agg #[.string ⟨#[]⟩, .slice none 0 0, .int .i64 0], .bool false])))
theorem bst3 {a w : World} {b : Nat} (h : Below a.heap.size a w) (hb : a.heap.size ≤ b) (x0 x1 x2 : Value) : Below a.heap.size a (((w.setCell ⟨b, 0, none⟩ x0).setCell ⟨b, 1, none⟩ x1).setCell ⟨b, 2, none⟩ x2) :=
  bst (bst (bst h hb x0) hb x1) hb x2
end Go.Proofs.Ytbhagobkkobgfaa

namespace Go.Proofs.Ytbhagobkkobgfaa
set_option linter.unusedVariables false
set_option linter.unusedSimpArgs false
open Go.RowKit
/-- the sort of a term, or -1 -/
def sortT (n : Nat) (L : Sy) : Tm → Int
  | .mk nm m kid => if fnd L.Nm nm n < n ∧ L.N (fnd L.Nm nm n) = m ∧ ∀ i, i < m → sortT n L (kid i) = L.Z (fnd L.Nm nm n) i then L.S (fnd L.Nm nm n) else -1
  | .bad => -1
theorem sortT_yes {n m k : Nat} {L : Sy} {nm : ByteArray} {kid : Nat → Tm} (h1 : fnd L.Nm nm n = k) (h2 : k < n) (h3 : L.N k = m) (h4 : ∀ i, i < m → sortT n L (kid i) = L.Z k i) : sortT n L (.mk nm m kid) = L.S k := by
  rw [sortT, h1, if_pos ⟨h2, h3, h4⟩]
theorem sortT_no {n m k : Nat} {L : Sy} {nm : ByteArray} {kid : Nat → Tm} (h1 : fnd L.Nm nm n = k) (h : ¬ (k < n ∧ L.N k = m ∧ ∀ i, i < m → sortT n L (kid i) = L.Z k i)) : sortT n L (.mk nm m kid) = -1 := by
  rw [sortT, h1, if_neg h]
/-- FndP in one shape -/
theorem FndP.uni {n : Nat} {L : Sy} {x : ByteArray} {w0 w w' : World} {e : Ending} (h : FndP w0 n L x w e w') :
    ∃ nm a N c S ok, e = .returned (.tuple #[.agg #[.string nm, .slice a N c, .int .i64 S], .bool ok]) ∧ Below w.heap.size w w' ∧ N ≤ 9223372036854775807 ∧
      (ok = true → fnd L.Nm x n < n ∧ N = L.N (fnd L.Nm x n) ∧ S = L.S (fnd L.Nm x n) ∧ Ints w0 a N (L.Z (fnd L.Nm x n))) ∧ (ok = false → fnd L.Nm x n = n) := by
  obtain ⟨hb, ⟨k, h1, h2, a, c, e, hN, hI⟩ | ⟨h1, e⟩⟩ := h
  · exact ⟨_, a, _, c, _, true, e, hb, hN, fun _ => by rw [h1]; exact ⟨h2, rfl, rfl, hI⟩, fun h => by cases h⟩
  · exact ⟨_, none, 0, 0, _, false, e, hb, by omega, (fun h => by cases h), fun _ => h1⟩
end Go.Proofs.Ytbhagobkkobgfaa

namespace Go.Proofs.Ytbhagobkkobgfaa
set_option linter.unusedVariables false
set_option linter.unusedSimpArgs false
open Go.RowKit
/-- what sortOf answers -/
def SrtE (s : Int) : Ending := .returned (.tuple #[.int .i64 (if 0 ≤ s then s else 0), .bool (decide (0 ≤ s))])
theorem SrtE.yes {s : Int} (h : 0 ≤ s) : SrtE s = .returned (.tuple #[.int .i64 s, .bool true]) := by unfold SrtE; rw [if_pos h, decide_eq_true h]
theorem SrtE.no {s : Int} (h : ¬ 0 ≤ s) : SrtE s = .returned (.tuple #[.int .i64 0, .bool false]) := by unfold SrtE; rw [if_neg h, decide_eq_false h]
/-- the sorts of a valid vocabulary are not negative -/
def VS (n : Nat) (L : Sy) : Prop := ∀ k, k < n → 0 ≤ L.S k ∧ ∀ j, j < L.N k → 0 ≤ L.Z k j
theorem sortB_nn {z : Int} (h : sortB z = true) : 0 ≤ z := by
  unfold sortB at h
  have := of_decide_eq_true h
  omega
theorem vs_of {n : Nat} {L : Sy} (h : sigB n L = true) : VS n L := fun k hk => by
  obtain ⟨_, _, h3, h4⟩ := symB_iff.1 ((sigB_iff.1 h).2.1 k hk)
  exact ⟨sortB_nn h4, fun j hj => sortB_nn (h3 j hj)⟩
end Go.Proofs.Ytbhagobkkobgfaa

namespace Go.Proofs.Ytbhagobkkobgfaa
set_option linter.unusedVariables false
set_option linter.unusedSimpArgs false
open Go.RowKit
/-- what TermSort answers -/
def tsE (n : Nat) (L : Sy) (t : Tm) : Ending := if sigB n L = true ∧ wellB t = true then SrtE (sortT n L t) else .returned (.tuple #[.int .i64 0, .bool false])
theorem tsE_no {n : Nat} {L : Sy} {t : Tm} (h : ¬ (sigB n L = true ∧ wellB t = true)) : tsE n L t = .returned (.tuple #[.int .i64 0, .bool false]) := if_neg h
theorem tsE_yes {n : Nat} {L : Sy} {t : Tm} (h1 : sigB n L = true) (h2 : wellB t = true) : tsE n L t = SrtE (sortT n L t) := if_pos ⟨h1, h2⟩
end Go.Proofs.Ytbhagobkkobgfaa
