/- Lists of rows of integers and formulas in conjunctive normal form that are read; the laws' helpers over them. -/
import Derived.Test.YtoechhdahokoiaaCbA
import Derived.Test.YtoechhdahokoiaaCaW
import Derived.Test.YtoechhdahokoiaaBL
namespace Go.Proofs.Ytoechhdahokoiaa
set_option linter.unusedVariables false
set_option linter.unusedSimpArgs false
open Go.RowKit
/-- what a list of rows says -/
structure Lls where
  N : Nat → Nat
  Z : Nat → Nat → Int
/-- the slice of n rows at A reads as L -/
def IntSS (w : World) (A : Option Addr) (n : Nat) (L : Lls) : Prop :=
  n = 0 ∨ ∃ g off, A = some ⟨g, off, none⟩ ∧ g < w.heap.size ∧ ∀ k, k < n → ∃ a c, w.cell? ⟨g, off + k, none⟩ = some (.slice a (L.N k) c) ∧ L.N k ≤ 9223372036854775807 ∧ Ints w a (L.N k) (L.Z k)
theorem IntSS.below {w w1 : World} {A : Option Addr} {n : Nat} {L : Lls} (h : IntSS w A n L) (hb : Below w.heap.size w w1) : IntSS w1 A n L := by
  rcases h with h | ⟨g, off, ha, hg, hc⟩
  · exact .inl h
  · refine .inr ⟨g, off, ha, Nat.lt_of_lt_of_le hg hb.size, fun k hk => ?_⟩
    obtain ⟨a, c, h0, h3, h4⟩ := hc k hk
    exact ⟨a, c, carry hb h0, h3, h4.below hb⟩
theorem infoIS : (Try.prog.info? 32).map (fun i => (i.zero, i.size, i.bytes)) = some (some (.slice none 0 0), 1, 24) := by kernel_rfl
theorem own_rowC {W w1 : World} {g n : Nat} {t : TypeId} {Z : Nat → Int} (hg : W.heap.size ≤ g) (hr : w1.rowIs g t n (fun k => .int .i64 (Z k))) : OwnI W w1 (some ⟨g, 0, none⟩) n Z :=
  .inr ⟨g, rfl, hg, hr.lt, fun k hk => ⟨hr.cell hk, hr.frozen k⟩⟩
theorem OwnI.ints' {W w : World} {A : Option Addr} {n : Nat} {Z : Nat → Int} (h : OwnI W w A n Z) : Ints w A n Z := by
  rcases h with h | ⟨g, ha, _, hg, hc⟩
  · exact .inl h
  · exact .inr ⟨g, 0, ha, hg, fun k hk => by rw [Nat.zero_add]; exact (hc k hk).1⟩
/-- a list of n rows, all of memory new since W -/
def OwnSS (W w : World) (A : Option Addr) (n : Nat) (L : Lls) : Prop :=
  ∃ (g : Nat) (LA : Nat → Option Addr) (LC : Nat → Nat), A = some ⟨g, 0, none⟩ ∧ W.heap.size ≤ g ∧ w.rowIs g 32 n (fun j => .slice (LA j) (L.N j) (LC j)) ∧ ∀ k, k < n → OwnI W w (LA k) (L.N k) (L.Z k)
theorem OwnSS.intss {W w : World} {A : Option Addr} {n : Nat} {L : Lls} (h : OwnSS W w A n L) (hN : ∀ k, k < n → L.N k ≤ 1048576) : IntSS w A n L := by
  obtain ⟨g, LA, LC, ha, hg, hr, hc⟩ := h
  exact .inr ⟨g, 0, ha, hr.lt, fun k hk => ⟨LA k, LC k, by rw [Nat.zero_add]; exact hr.cell hk, by have := hN k hk; omega, (hc k hk).ints'⟩⟩
theorem OwnSS.below {W w w' : World} {A : Option Addr} {n : Nat} {L : Lls} (hb : Below w.heap.size w w') (h : OwnSS W w A n L) : OwnSS W w' A n L := by
  obtain ⟨g, LA, LC, ha, hg, hr, hc⟩ := h
  exact ⟨g, LA, LC, ha, hg, row_below hr hb, fun k hk => (hc k hk).below hb⟩
theorem OwnSS.set {W w : World} {A : Option Addr} {n : Nat} {L : Lls} {p o : Nat} (v : Value) (hp : p < W.heap.size) (h : OwnSS W w A n L) : OwnSS W (w.setCell ⟨p, o, none⟩ v) A n L := by
  obtain ⟨g, LA, LC, ha, hg, hr, hc⟩ := h
  exact ⟨g, LA, LC, ha, hg, hr.setOther (by simp <;> omega) _, fun k hk => (hc k hk).set v hp⟩
theorem OwnSS.old {W W1 w : World} {A : Option Addr} {n : Nat} {L : Lls} (hb : W.heap.size ≤ W1.heap.size) (h : OwnSS W1 w A n L) : OwnSS W w A n L := by
  obtain ⟨g, LA, LC, ha, hg, hr, hc⟩ := h
  exact ⟨g, LA, LC, ha, Nat.le_trans hb hg, hr, fun k hk => (hc k hk).old hb⟩
def NewSS (w : World) (n : Nat) (L : Lls) (e : Ending) (w' : World) : Prop :=
  ∃ A, e = .returned (.slice A n n) ∧ OwnSS w w' A n L ∧ Below w.heap.size w w'
theorem set2c {w1 : World} {b : Nat} {u0 u1 : Value} (h0 : w1.cell? ⟨b, 0, none⟩ = some u0) (h1 : w1.cell? ⟨b, 1, none⟩ = some u1) (x0 x1 : Value) :
    ((w1.setCell ⟨b, 0, none⟩ x0).setCell ⟨b, 1, none⟩ x1).cell? ⟨b, 0, none⟩ = some x0 ∧ ((w1.setCell ⟨b, 0, none⟩ x0).setCell ⟨b, 1, none⟩ x1).cell? ⟨b, 1, none⟩ = some x1 := by
  refine ⟨?_, ?_⟩
  · rw [World.cell?_setCell_other _ _ _ _ (by simp)]; exact World.cell?_setCell_same _ _ _ h0
  · exact World.cell?_setCell_same _ _ _ (by rw [World.cell?_setCell_other _ _ _ _ (by simp)]; exact h1)
/-- a copy of a formula, of new memory -/
def NewCnf (w : World) (m : Int) (n : Nat) (L : Lls) (e : Ending) (w' : World) : Prop :=
  ∃ A, e = .returned (.agg #[.int .i64 m, .slice A n n]) ∧ OwnSS w w' A n L ∧ Below w.heap.size w w'
end Go.Proofs.Ytoechhdahokoiaa
