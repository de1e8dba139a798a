/- Rows of truth values that are read; the laws' helpers over them; contracts of ClauseIs, of the program and of the model. -/
import Derived.Test.YtjnngijilkdhbaaCaA
import Derived.BigQuiet
namespace Go.Proofs.Ytjnngijilkdhbaa
set_option linter.unusedVariables false
set_option linter.unusedSimpArgs false
open Go.RowKit
/-- the slice of n truth values at A reads as V -/
def Bools (w : World) (A : Option Addr) (n : Nat) (V : Nat → Bool) : Prop :=
  n = 0 ∨ ∃ g off, A = some ⟨g, off, none⟩ ∧ g < w.heap.size ∧ ∀ k, k < n → w.cell? ⟨g, off + k, none⟩ = some (.bool (V k))
theorem Bools.below {w w1 : World} {A : Option Addr} {n : Nat} {V : Nat → Bool} (h : Bools w A n V) (hb : Below w.heap.size w w1) : Bools w1 A n V := by
  rcases h with h | ⟨g, off, ha, hg, hc⟩
  · exact .inl h
  · exact .inr ⟨g, off, ha, Nat.lt_of_lt_of_le hg hb.size, fun k hk => (hb.cell (p := ⟨g, off + k, none⟩) hg).trans (hc k hk)⟩
theorem Bools.of_row {w : World} {g n : Nat} {t : TypeId} {V : Nat → Bool} (h : w.rowIs g t n (fun k => .bool (V k))) : Bools w (some ⟨g, 0, none⟩) n V :=
  .inr ⟨g, 0, rfl, h.lt, fun k hk => by rw [Nat.zero_add]; exact h.cell hk⟩
/-- a new row of n truth values V -/
def NewB (t : TypeId) (w : World) (n : Nat) (V : Nat → Bool) (e : Ending) (w' : World) : Prop :=
  ∃ g, e = .returned (.slice (some ⟨g, 0, none⟩) n n) ∧ w.heap.size ≤ g ∧ w'.rowIs g t n (fun k => .bool (V k)) ∧ Below w.heap.size w w'
theorem infoBl : (Try.prog.info? 4).map (fun i => (i.zero, i.size, i.bytes)) = some (some (.bool false), 1, 1) := by kernel_rfl
/-- a literal that is true by the truth values V -/
def isC (x : Int) (N : Nat) (V : Nat → Bool) : Bool := ofC x N && (V (vrC x - 1).toNat == decide (0 < x))
theorem isC_no {x : Int} {N : Nat} {V : Nat → Bool} (h : ofC x N = false) : isC x N V = false := by unfold isC; rw [h]; rfl
theorem isC_pos {N k : Nat} {V : Nat → Bool} (h : k < N) : isC ((k : Int) + 1) N V = V k := by
  have h1 : ofC ((k : Int) + 1) N = true := ofC_iff.2 ⟨by omega, by omega, by omega⟩
  have h2 : vrC ((k : Int) + 1) = k + 1 := if_neg (by omega)
  unfold isC
  rw [h1, h2, show ((k : Int) + 1 - 1).toNat = k by omega, decide_eq_true (by omega)]
  simp
theorem isC_neg {N k : Nat} {V : Nat → Bool} (h : k < N) : isC (-((k : Int) + 1)) N V = !V k := by
  have h1 : ofC (-((k : Int) + 1)) N = true := ofC_iff.2 ⟨by omega, by omega, by omega⟩
  have h2 : vrC (-((k : Int) + 1)) = k + 1 := by unfold vrC; rw [if_pos (by omega)]; omega
  unfold isC
  rw [h1, h2, show ((k : Int) + 1 - 1).toNat = k by omega, decide_eq_false (by omega)]
  simp
theorem ofC_cases {x : Int} {N : Nat} (h : ofC x N = true) : ∃ k, k < N ∧ (x = (k : Int) + 1 ∨ x = -((k : Int) + 1)) := by
  obtain ⟨h0, h1, h2⟩ := ofC_iff.1 h
  by_cases hx : 0 < x
  · exact ⟨(x - 1).toNat, by omega, .inl (by omega)⟩
  · exact ⟨(-x - 1).toNat, by omega, .inr (by omega)⟩
end Go.Proofs.Ytjnngijilkdhbaa
