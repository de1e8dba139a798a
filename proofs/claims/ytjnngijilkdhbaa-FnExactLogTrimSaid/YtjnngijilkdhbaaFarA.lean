/- Lists of constraints that are read; contracts of the laws' helpers over them: the size, the copy, the comparison. -/
import Derived.Test.YtjnngijilkdhbaaLinN
import Derived.Test.YtjnngijilkdhbaaLinU
namespace Go.Proofs.Ytjnngijilkdhbaa
set_option linter.unusedVariables false
set_option linter.unusedSimpArgs false
open Go.RowKit
/-- what a list of constraints says -/
structure Lst where
  N : Nat → Nat
  Z : Nat → Nat → Int
  B : Nat → Int
  S : Nat → Bool
/-- the slice of n constraints at A reads as L -/
def Lins (w : World) (A : Option Addr) (n : Nat) (L : Lst) : Prop :=
  n = 0 ∨ ∃ g off, A = some ⟨g, off, none⟩ ∧ g < w.heap.size ∧ ∀ k, k < n → ∃ a c, w.cell? ⟨g, off + k * 3, none⟩ = some (.slice a (L.N k) c) ∧ w.cell? ⟨g, off + k * 3 + 1, none⟩ = some (.int .i64 (L.B k)) ∧ w.cell? ⟨g, off + k * 3 + 2, none⟩ = some (.bool (L.S k)) ∧
    L.N k ≤ 9223372036854775807 ∧ Ints w a (L.N k) (L.Z k)
theorem Lins.below {w w1 : World} {A : Option Addr} {n : Nat} {L : Lst} (h : Lins w A n L) (hb : Below w.heap.size w w1) : Lins w1 A n L := by
  rcases h with h | ⟨g, off, ha, hg, hc⟩
  · exact .inl h
  · refine .inr ⟨g, off, ha, Nat.lt_of_lt_of_le hg hb.size, fun k hk => ?_⟩
    obtain ⟨a, c, h0, h1, h2, h3, h4⟩ := hc k hk
    exact ⟨a, c, carry hb h0, carry hb h1, carry hb h2, h3, h4.below hb⟩
/-- the cells of such a list, from its head -/
def linV (LA : Nat → Option Addr) (LC : Nat → Nat) (L : Lst) (j : Nat) : Value :=
  if j % 3 = 0 then .slice (LA (j / 3)) (L.N (j / 3)) (LC (j / 3)) else if j % 3 = 1 then .int .i64 (L.B (j / 3)) else .bool (L.S (j / 3))
theorem linV_0 (LA : Nat → Option Addr) (LC : Nat → Nat) (L : Lst) (k : Nat) : linV LA LC L (k * 3) = .slice (LA k) (L.N k) (LC k) := by
  unfold linV; rw [if_pos (by omega), show k * 3 / 3 = k by omega]
theorem linV_1 (LA : Nat → Option Addr) (LC : Nat → Nat) (L : Lst) (k : Nat) : linV LA LC L (k * 3 + 1) = .int .i64 (L.B k) := by
  unfold linV; rw [if_neg (by omega), if_pos (by omega), show (k * 3 + 1) / 3 = k by omega]
theorem linV_2 (LA : Nat → Option Addr) (LC : Nat → Nat) (L : Lst) (k : Nat) : linV LA LC L (k * 3 + 2) = .bool (L.S k) := by
  unfold linV; rw [if_neg (by omega), if_neg (by omega), show (k * 3 + 2) / 3 = k by omega]
def zeroV (j : Nat) : Value := if j % 3 = 0 then .slice none 0 0 else if j % 3 = 1 then .int .i64 0 else .bool false
theorem rowIs_made3 (w : World) (n : Nat) (t : TypeId) : (w.alloc (.cells (madeCells #[.slice none 0 0, .int .i64 0, .bool false] n) t)).rowIs w.heap.size t n zeroV :=
  ⟨_, Deep.blk_alloc_new _ _, size_madeCells _ _, fun i hi => by
    have h2 : i % 3 = 0 ∨ i % 3 = 1 ∨ i % 3 = 2 := by omega
    rcases h2 with h2 | h2 | h2 <;> simp [madeCells, hi, h2, zeroV]⟩
end Go.Proofs.Ytjnngijilkdhbaa
