/- Contract of the laws' copy of a list of constraints. -/
import Derived.Test.YtjnngijilkdhbaaFarC
import Derived.Test.YtjnngijilkdhbaaPlanB
namespace Go.Proofs.Ytjnngijilkdhbaa
set_option linter.unusedVariables false
set_option linter.unusedSimpArgs false
open Go.RowKit
theorem apart_new {W W1 w w1 : World} {A B : Option Addr} {n m : Nat} {Z Y : Nat → Int} (h : OwnI W w A n Z) (k : OwnI W1 w1 B m Y) (hs : w.heap.size ≤ W1.heap.size) : n = 0 ∨ m = 0 ∨ A ≠ B := by
  rcases h with h | ⟨g, rfl, _, hg, _⟩
  · exact .inl h
  · rcases k with k | ⟨g', rfl, hg', _⟩
    · exact .inr (.inl k)
    · refine .inr (.inr fun e => ?_)
      have := congrArg (fun x => (x.getD ⟨0, 0, none⟩).block) e
      simp at this
      omega
theorem linV_old {LA : Nat → Option Addr} {LC : Nat → Nat} {L : Lst} {A : Option Addr} {c k j : Nat} (h : j / 3 ≠ k) : linV (fun i => if i = k then A else LA i) (fun i => if i = k then c else LC i) L j = linV LA LC L j := by
  unfold linV; simp [h]
end Go.Proofs.Ytjnngijilkdhbaa
