/- Marks of rows of numbers; walk of the exact law of ClauseOf. -/
import Derived.Test.YtjnngijilkdhbaaCfE
import Derived.Test.YtjnngijilkdhbaaCaW
namespace Go.Proofs.Ytjnngijilkdhbaa
set_option linter.unusedVariables false
set_option linter.unusedSimpArgs false
open Go.RowKit
/-- a row of numbers below block B -/
def IntsB (B : Nat) (w : World) (A : Option Addr) (n : Nat) (Z : Nat → Int) : Prop :=
  n = 0 ∨ ∃ g off, A = some ⟨g, off, none⟩ ∧ g < B ∧ g < w.heap.size ∧ ∀ k, k < n → w.cell? ⟨g, off + k, none⟩ = some (.int .i64 (Z k))
theorem IntsB.of {w : World} {A : Option Addr} {n : Nat} {Z : Nat → Int} (h : Ints w A n Z) : IntsB w.heap.size w A n Z := by
  rcases h with h | ⟨g, off, ha, hg, hc⟩
  · exact .inl h
  · exact .inr ⟨g, off, ha, hg, hg, hc⟩
theorem IntsB.ints {B : Nat} {w : World} {A : Option Addr} {n : Nat} {Z : Nat → Int} (h : IntsB B w A n Z) : Ints w A n Z := by
  rcases h with h | ⟨g, off, ha, _, hg, hc⟩
  · exact .inl h
  · exact .inr ⟨g, off, ha, hg, hc⟩
theorem IntsB.below {B : Nat} {w w' : World} {A : Option Addr} {n : Nat} {Z : Nat → Int} (h : IntsB B w A n Z) (hb : Below w.heap.size w w') : IntsB B w' A n Z := by
  rcases h with h | ⟨g, off, ha, h1, hg, hc⟩
  · exact .inl h
  · exact .inr ⟨g, off, ha, h1, Nat.lt_of_lt_of_le hg hb.size, fun k hk => carry hb (hc k hk)⟩
theorem IntsB.keep {B lo : Nat} {w w' : World} {A : Option Addr} {n : Nat} {Z : Nat → Int} {row : Option Nat} (h : IntsB B w A n Z) (hg : w.grownBy w' row) (hr : ∀ g, row = some g → lo ≤ g) (hB : B ≤ lo) : IntsB B w' A n Z := by
  rcases h with h | ⟨g, off, ha, h1, hgw, hc⟩
  · exact .inl h
  · exact .inr ⟨g, off, ha, h1, Nat.lt_of_lt_of_le hgw hg.size, fun k hk => hg.cell (hc k hk) (fun e => by have := hr g e.symm; omega)⟩
end Go.Proofs.Ytjnngijilkdhbaa
