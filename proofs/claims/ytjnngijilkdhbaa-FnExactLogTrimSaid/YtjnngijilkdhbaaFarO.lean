/- Marks in a list of constraints: what is written lies in a range of blocks. -/
import Derived.Test.YtjnngijilkdhbaaFarD
import Derived.Test.YtjnngijilkdhbaaBD
namespace Go.Proofs.Ytjnngijilkdhbaa
set_option linter.unusedVariables false
set_option linter.unusedSimpArgs false
open Go.RowKit
/-- w' is w with new blocks and writes to blocks of [lo, hi) -/
structure Wrt (lo hi : Nat) (w w' : World) : Prop where
  os : w'.os = w.os
  tape : w'.tape = w.tape
  output : w'.output = w.output
  size : w.heap.size ≤ w'.heap.size
  block : ∀ k, k < w.heap.size → (k < lo ∨ hi ≤ k) → w'.heap[k]? = w.heap[k]?
theorem Wrt.refl (lo hi : Nat) (w : World) : Wrt lo hi w w := ⟨rfl, rfl, rfl, Nat.le_refl _, fun _ _ _ => rfl⟩
theorem Wrt.trans {lo hi : Nat} {a b c : World} (h : Wrt lo hi a b) (k : Wrt lo hi b c) : Wrt lo hi a c :=
  ⟨k.os.trans h.os, k.tape.trans h.tape, k.output.trans h.output, Nat.le_trans h.size k.size, fun i hi hr => (k.block i (Nat.lt_of_lt_of_le hi h.size) hr).trans (h.block i hi hr)⟩
theorem Wrt.of_grown {lo hi : Nat} {w w' : World} {row : Option Nat} (hg : w.grownBy w' row) (hr : ∀ g, row = some g → lo ≤ g ∧ g < hi) : Wrt lo hi w w' :=
  ⟨hg.os, hg.tape, hg.output, hg.size, fun k hk h => hg.block k hk (fun e => by have := hr k e.symm; omega)⟩
theorem Wrt.below {lo hi : Nat} {a w w' : World} (h : Wrt lo hi w w') (hb : Below a.heap.size a w) (hl : a.heap.size ≤ lo) : Below a.heap.size a w' :=
  ⟨h.os.trans hb.os, h.tape.trans hb.tape, h.output.trans hb.output, Nat.le_trans hb.size h.size, fun k hk => (h.block k (Nat.lt_of_lt_of_le hk hb.size) (.inl (by omega))).trans (hb.block k hk)⟩
theorem Wrt.cell {lo hi : Nat} {w w' : World} {b o : Nat} {v : Value} (h : Wrt lo hi w w') (hc : w.cell? ⟨b, o, none⟩ = some v) (hr : b < lo ∨ hi ≤ b) : w'.cell? ⟨b, o, none⟩ = some v :=
  (World.cell?_of_block (w := w) (a := ⟨b, o, none⟩) (h.block b (cell_lt hc) hr)).trans hc
theorem Wrt.kc {lo hi : Nat} {w w' : World} (h : Wrt lo hi w w') : ∀ {L : List (Nat × Nat × Value)}, (∀ e ∈ L, e.1 < lo ∨ hi ≤ e.1) → KcL L w → KcL L w'
  | [], _, _ => trivial
  | _ :: _, hr, ⟨k, t⟩ => ⟨h.cell k (hr _ (by simp)), Wrt.kc h (fun e he => hr e (by simp [he])) t⟩
theorem OwnB.wrt {lo hi lo' hi' : Nat} {w w' : World} {A : Option Addr} {n : Nat} {Z : Nat → Int} (h : OwnB lo hi w A n Z) (hg : Wrt lo' hi' w w') (hd : hi ≤ lo' ∨ hi' ≤ lo) : OwnB lo hi w' A n Z := by
  rcases h with h | ⟨g, ha, h1, h2, hgw, hc⟩
  · exact .inl h
  · have hb := hg.block g hgw (by omega)
    exact .inr ⟨g, ha, h1, h2, Nat.lt_of_lt_of_le hgw hg.size, fun k hk => ⟨(World.cell?_of_block (w := w) (a := ⟨g, k, none⟩) hb).trans (hc k hk).1, (World.frozen?_of_block (w := w) (a := ⟨g, k, none⟩) hb).trans (hc k hk).2⟩⟩
theorem OwnB.apart {lo hi : Nat} {w w' : World} {row : Option Nat} {A : Option Addr} {n : Nat} {Z : Nat → Int} (h : OwnB lo hi w A n Z) (hg : w.grownBy w' row) (hr : ∀ g, row = some g → n = 0 ∨ A ≠ some ⟨g, 0, none⟩) : OwnB lo hi w' A n Z := by
  rcases h with h | ⟨g, ha, h1, h2, hgw, hc⟩
  · exact .inl h
  · by_cases hn : n = 0
    · exact .inl hn
    · have hb := hg.block g hgw (fun e => by rcases hr g e.symm with h | h; exact hn h; exact h ha)
      exact .inr ⟨g, ha, h1, h2, Nat.lt_of_lt_of_le hgw hg.size, fun k hk => ⟨(World.cell?_of_block (w := w) (a := ⟨g, k, none⟩) hb).trans (hc k hk).1, (World.frozen?_of_block (w := w) (a := ⟨g, k, none⟩) hb).trans (hc k hk).2⟩⟩
theorem markrow_any (lo hi : Nat) (A : Option Addr) (n c : Nat) (Z : Nat → Int) (k : Int) (w : World) (hn : n ≤ 1048576) (hk : 0 ≤ k ∧ k ≤ 1000000000000000000) (h : OwnB lo hi w A n Z) :
    Calls Try.prog 27 #[.slice A n c, .int .i64 k] w fun e w' => e = .returned (.int .i64 (k + n)) ∧ OwnB lo hi w' A n (fun j => k + j) ∧ ∃ row, w.grownBy w' row ∧ ∀ g, row = some g → (lo ≤ g ∧ g < hi) ∧ n ≠ 0 ∧ A = some ⟨g, 0, none⟩ := by
  by_cases h0 : n = 0
  · subst h0
    refine (markints_any 0 0 A 0 c Z k w hn hk (.inl rfl)).mono ?_
    rintro e w' ⟨rfl, _, row, hg, hr⟩
    exact ⟨rfl, .inl rfl, row, hg, fun g e => by have := hr g e; omega⟩
  · rcases h with h | ⟨g, rfl, h1, h2, hgw, hc⟩
    · exact absurd h h0
    · refine (markints_any g (g + 1) (some ⟨g, 0, none⟩) n c Z k w hn hk (.inr ⟨g, rfl, Nat.le_refl _, by omega, hgw, hc⟩)).mono ?_
      rintro e w' ⟨rfl, hO, row, hg, hr⟩
      exact ⟨rfl, hO.wider h1 (by omega), row, hg, fun g' e => by have := hr g' e; obtain rfl : g' = g := by omega
                                                                  exact ⟨⟨h1, h2⟩, h0, rfl⟩⟩
def mk0 (k0 : Int) (L : Lst) : Nat → Int
  | 0 => k0
  | i + 1 => mk0 k0 L i + L.N i + 2
/-- the list with the marks from k0 on in its first i constraints -/
def mixL (k0 : Int) (L : Lst) (i : Nat) : Lst where
  N := L.N
  Z := fun j x => if j < i then mk0 k0 L j + x else L.Z j x
  B := fun j => if j < i then mk0 k0 L j + L.N j else L.B j
  S := fun j => if j < i then ((mk0 k0 L j + L.N j + 1) % 3 == 0) else L.S j
theorem mk0_bd (k0 : Int) (L : Lst) (n : Nat) (hN : ∀ k, k < n → L.N k ≤ 1048576) (h0 : 0 ≤ k0) : ∀ i, i ≤ n → 0 ≤ mk0 k0 L i ∧ mk0 k0 L i ≤ k0 + i * 1048578
  | 0, _ => by simp [mk0, h0]
  | i + 1, hi => by
    have ih := mk0_bd k0 L n hN h0 i (by omega)
    have := hN i (by omega)
    simp only [mk0]
    omega
end Go.Proofs.Ytjnngijilkdhbaa
