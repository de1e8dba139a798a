/- Rows of fractions that are read; contracts of the laws' helpers over them: the size, the copy, the comparison. -/
import Derived.Test.YtjnngijilkdhbaaBL
import Derived.Test.YtjnngijilkdhbaaBR
import Derived.Test.YtjnngijilkdhbaaBT
namespace Go.Proofs.Ytjnngijilkdhbaa
set_option linter.unusedVariables false
set_option linter.unusedSimpArgs false
open Go.RowKit
/-- the slice of n fractions at A reads as N over D -/
def Rats (w : World) (A : Option Addr) (n : Nat) (N D : Nat → Int) : Prop :=
  n = 0 ∨ ∃ g off, A = some ⟨g, off, none⟩ ∧ g < w.heap.size ∧ ∀ k, k < n → w.cell? ⟨g, off + k * 2, none⟩ = some (.int .i64 (N k)) ∧ w.cell? ⟨g, off + k * 2 + 1, none⟩ = some (.int .i64 (D k))
theorem Rats.below {w w1 : World} {A : Option Addr} {n : Nat} {N D : Nat → Int} (h : Rats w A n N D) (hb : Below w.heap.size w w1) : Rats w1 A n N D := by
  rcases h with h | ⟨g, off, ha, hg, hc⟩
  · exact .inl h
  · exact .inr ⟨g, off, ha, Nat.lt_of_lt_of_le hg hb.size, fun k hk => ⟨(hb.cell (p := ⟨g, off + k * 2, none⟩) hg).trans (hc k hk).1, (hb.cell (p := ⟨g, off + k * 2 + 1, none⟩) hg).trans (hc k hk).2⟩⟩
/-- the cells of such a row, from its head -/
def ratV (N D : Nat → Int) (j : Nat) : Value := if j % 2 = 0 then .int .i64 (N (j / 2)) else .int .i64 (D (j / 2))
theorem ratV_even (N D : Nat → Int) (k : Nat) : ratV N D (k * 2) = .int .i64 (N k) := by
  unfold ratV; rw [if_pos (by omega), show k * 2 / 2 = k by omega]
theorem ratV_odd (N D : Nat → Int) (k : Nat) : ratV N D (k * 2 + 1) = .int .i64 (D k) := by
  unfold ratV; rw [if_neg (by omega), show (k * 2 + 1) / 2 = k by omega]
theorem Rats.of_row {w : World} {g n : Nat} {t : TypeId} {N D : Nat → Int} (h : w.rowIs g t (n * 2) (ratV N D)) : Rats w (some ⟨g, 0, none⟩) n N D :=
  .inr ⟨g, 0, rfl, h.lt, fun k hk => by
    rw [Nat.zero_add]
    exact ⟨(h.cell (by omega)).trans (by rw [ratV_even]), (h.cell (by omega)).trans (by rw [ratV_odd])⟩⟩
/-- a new row of n fractions -/
def NewRs (t : TypeId) (w : World) (n : Nat) (N D : Nat → Int) (e : Ending) (w' : World) : Prop :=
  ∃ g, e = .returned (.slice (some ⟨g, 0, none⟩) n n) ∧ w.heap.size ≤ g ∧ w'.rowIs g t (n * 2) (ratV N D) ∧ Below w.heap.size w w'
theorem rowIs_made2 (w : World) (z : Value) (n : Nat) (t : TypeId) : (w.alloc (.cells (madeCells #[z, z] n) t)).rowIs w.heap.size t n (fun _ => z) :=
  ⟨_, Deep.blk_alloc_new _ _, size_madeCells _ _, fun i hi => by
    have h2 : i % 2 = 0 ∨ i % 2 = 1 := by omega
    rcases h2 with h2 | h2 <;> simp [madeCells, hi, h2]⟩
end Go.Proofs.Ytjnngijilkdhbaa
