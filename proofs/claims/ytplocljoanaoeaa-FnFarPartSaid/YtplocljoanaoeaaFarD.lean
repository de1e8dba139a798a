/- Contract of the laws' copy of a list of constraints. -/
import Derived.Test.YtplocljoanaoeaaFarC
import Derived.Test.YtplocljoanaoeaaPlanB
namespace Go.Proofs.Ytplocljoanaoeaa
set_option linter.unusedVariables false
set_option linter.unusedSimpArgs false
open Go.RowKit
/-- a list of n constraints in blocks of [lo, hi): the rows stand apart -/
def LsB (lo hi : Nat) (w : World) (A : Option Addr) (n : Nat) (L : Lst) : Prop :=
  ∃ g LA LC, A = some ⟨g, 0, none⟩ ∧ lo ≤ g ∧ g < hi ∧ w.rowIs g 28 (n * 3) (linV LA LC L) ∧ (∀ k, k < n → L.N k ≤ LC k ∧ LC k ≤ 9223372036854775807 ∧ OwnB lo hi w (LA k) (L.N k) (L.Z k)) ∧
    (∀ k, k < n → L.N k = 0 ∨ LA k ≠ some ⟨g, 0, none⟩) ∧ (∀ i j, i < j → j < n → L.N i = 0 ∨ L.N j = 0 ∨ LA i ≠ LA j)
theorem LsB.below {lo hi : Nat} {w w' : World} {A : Option Addr} {n : Nat} {L : Lst} (h : LsB lo hi w A n L) (hb : Below w.heap.size w w') : LsB lo hi w' A n L := by
  obtain ⟨g, LA, LC, ha, h1, h2, hr, hc, hd⟩ := h
  exact ⟨g, LA, LC, ha, h1, h2, row_below hr hb, fun k hk => ⟨(hc k hk).1, (hc k hk).2.1, (hc k hk).2.2.below hb⟩, hd⟩
theorem LsB.lins {lo hi : Nat} {w : World} {A : Option Addr} {n : Nat} {L : Lst} (h : LsB lo hi w A n L) (hN : ∀ k, k < n → L.N k ≤ 1048576) : Lins w A n L := by
  obtain ⟨g, LA, LC, ha, _, _, hr, hc, _⟩ := h
  refine .inr ⟨g, 0, ha, hr.lt, fun k hk => ⟨LA k, LC k, ?_, ?_, ?_, by have := hN k hk; omega, (hc k hk).2.2.ints⟩⟩
  · rw [Nat.zero_add]; exact (hr.cell (by omega)).trans (by rw [linV_0])
  · rw [Nat.zero_add]; exact (hr.cell (by omega)).trans (by rw [linV_1])
  · rw [Nat.zero_add]; exact (hr.cell (by omega)).trans (by rw [linV_2])
/-- a list of n constraints of new memory, handed back -/
def NewLs (w : World) (n : Nat) (L : Lst) (e : Ending) (w' : World) : Prop :=
  ∃ A, e = .returned (.slice A n n) ∧ LsB w.heap.size w'.heap.size w' A n L ∧ Below w.heap.size w w'
theorem apart_new {W W1 w w1 : World} {A B : Option Addr} {n m : Nat} {Z Y : Nat → Int} (h : OwnI W w A n Z) (k : OwnI W1 w1 B m Y) (hs : w.heap.size ≤ W1.heap.size) : n = 0 ∨ m = 0 ∨ A ≠ B := by
  rcases h with h | ⟨g, rfl, _, hg, _⟩
  · exact .inl h
  · rcases k with k | ⟨g', rfl, hg', _⟩
    · exact .inr (.inl k)
    · refine .inr (.inr fun e => ?_)
      have := congrArg (fun x => (x.getD ⟨0, 0, none⟩).block) e
      simp at this
      omega
theorem linV_old {LA : Nat → Option Addr} {LC : Nat → Nat} {L : Lst} {A : Option Addr} {c k j : Nat} (h : j / 3 ≠ k) : linV (fun i => if i = k then A else LA i) (fun i => if i = k then c else LC i) L j = linV LA LC L j := by
  unfold linV; simp [h]
end Go.Proofs.Ytplocljoanaoeaa
