/- Marks: rows that a law writes to, and what it holds them against. -/
import Derived.Test.YtoechhdahokoiaaLinP
import Derived.Test.YtoechhdahokoiaaLinO
import Derived.Test.YtoechhdahokoiaaBD
namespace Go.Proofs.Ytoechhdahokoiaa
set_option linter.unusedVariables false
set_option linter.unusedSimpArgs false
open Go.RowKit
/-- a row of n numbers in a block of [lo, hi) -/
def OwnB (lo hi : Nat) (w : World) (A : Option Addr) (n : Nat) (Z : Nat → Int) : Prop :=
  n = 0 ∨ ∃ g, A = some ⟨g, 0, none⟩ ∧ lo ≤ g ∧ g < hi ∧ g < w.heap.size ∧ ∀ k, k < n → w.cell? ⟨g, k, none⟩ = some (.int .i64 (Z k)) ∧ w.frozen? ⟨g, k, none⟩ = false
theorem OwnI.ownB {W w : World} {A : Option Addr} {n : Nat} {Z : Nat → Int} (h : OwnI W w A n Z) : OwnB W.heap.size w.heap.size w A n Z := by
  rcases h with h | ⟨g, ha, hg, hg', hc⟩
  · exact .inl h
  · exact .inr ⟨g, ha, hg, hg', hg', hc⟩
theorem OwnB.ints {lo hi : Nat} {w : World} {A : Option Addr} {n : Nat} {Z : Nat → Int} (h : OwnB lo hi w A n Z) : Ints w A n Z := by
  rcases h with h | ⟨g, ha, _, _, hg, hc⟩
  · exact .inl h
  · exact .inr ⟨g, 0, ha, hg, fun k hk => by rw [Nat.zero_add]; exact (hc k hk).1⟩
theorem OwnB.below {lo hi : Nat} {w w' : World} {A : Option Addr} {n : Nat} {Z : Nat → Int} (hb : Below w.heap.size w w') (h : OwnB lo hi w A n Z) : OwnB lo hi w' A n Z := by
  rcases h with h | ⟨g, ha, h1, h2, hg, hc⟩
  · exact .inl h
  · exact .inr ⟨g, ha, h1, h2, Nat.lt_of_lt_of_le hg hb.size, fun k hk => ⟨(hb.cell (p := ⟨g, k, none⟩) hg).trans (hc k hk).1, (hb.frozen (p := ⟨g, k, none⟩) hg).trans (hc k hk).2⟩⟩
theorem OwnB.keep {lo hi : Nat} {w w' : World} {row : Option Nat} {A : Option Addr} {n : Nat} {Z : Nat → Int} (hg : w.grownBy w' row) (hr : ∀ g, row = some g → g < lo ∨ hi ≤ g) (h : OwnB lo hi w A n Z) : OwnB lo hi w' A n Z := by
  rcases h with h | ⟨g, ha, h1, h2, hgw, hc⟩
  · exact .inl h
  · have hb := hg.block g hgw (fun e => by have := hr g e.symm; omega)
    exact .inr ⟨g, ha, h1, h2, Nat.lt_of_lt_of_le hgw hg.size, fun k hk => ⟨(World.cell?_of_block (w := w) (a := ⟨g, k, none⟩) hb).trans (hc k hk).1, (World.frozen?_of_block (w := w) (a := ⟨g, k, none⟩) hb).trans (hc k hk).2⟩⟩
theorem KcL.keep {w w' : World} {row : Option Nat} (hg : w.grownBy w' row) : ∀ {L : List (Nat × Nat × Value)}, (∀ e ∈ L, ∀ g, row = some g → e.1 ≠ g) → KcL L w → KcL L w'
  | [], _, _ => trivial
  | e :: l, hr, ⟨h, t⟩ => by
    refine ⟨?_, KcL.keep hg (fun e' he => hr e' (by simp [he])) t⟩
    have hl := cell_lt h
    exact (World.cell?_of_block (w := w) (a := ⟨e.1, e.2.1, none⟩) (hg.block e.1 hl (fun x => hr e (by simp) e.1 x.symm rfl))).trans h
/-- a call that has written marks from k on into a row of [lo, hi) -/
def MarkP (lo hi : Nat) (w : World) (A : Option Addr) (n : Nat) (k : Int) (e : Ending) (w' : World) : Prop :=
  e = .returned (.int .i64 (k + n)) ∧ OwnB lo hi w' A n (fun j => k + j) ∧ ∃ row, w.grownBy w' row ∧ ∀ g, row = some g → lo ≤ g ∧ g < hi
theorem MarkP.nil {lo hi : Nat} {w w' : World} {A : Option Addr} {k : Int} (h : w.grownBy w' none) : MarkP lo hi w A 0 k (.returned (.int .i64 k)) w' :=
  ⟨by simp, .inl rfl, none, h, fun g h => by cases h⟩
end Go.Proofs.Ytoechhdahokoiaa
