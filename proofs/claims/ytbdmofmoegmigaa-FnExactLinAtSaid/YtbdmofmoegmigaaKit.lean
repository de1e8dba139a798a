/- Small laws on worlds for walks over structs of two numbers: a list of pairs that lie in new blocks is kept over calls, new blocks and stores. -/
import Derived.Test.YtbdmofmoegmigaaRatI
import Derived.Deep.DeepCutAuto
namespace Go.Proofs.Ytbdmofmoegmigaa
set_option linter.unusedVariables false
set_option linter.unusedSimpArgs false
open Go.RowKit
def KpL : List (Nat × Value × Value) → World → Prop
  | [], _ => True
  | e :: l, w' => w'.cell? ⟨e.1, 0, none⟩ = some e.2.1 ∧ w'.cell? ⟨e.1, 1, none⟩ = some e.2.2 ∧ KpL l w'
/-- since w no old block has turned; the listed pairs stand in w' -/
def Kp (L : List (Nat × Value × Value)) (w w' : World) : Prop := Below w.heap.size w w' ∧ KpL L w'
theorem KpL.mono {w w1 : World} (h : ∀ b o v, w.cell? ⟨b, o, none⟩ = some v → w1.cell? ⟨b, o, none⟩ = some v) : ∀ {L : List (Nat × Value × Value)}, KpL L w → KpL L w1
  | [], _ => trivial
  | _ :: _, ⟨h0, h1, h2⟩ => ⟨h _ _ _ h0, h _ _ _ h1, KpL.mono h h2⟩
theorem Kp.call {L : List (Nat × Value × Value)} {w w' w1 : World} (hq : Below w'.heap.size w' w1) (h : Kp L w w') : Kp L w w1 :=
  ⟨btr h.1 hq, KpL.mono (fun _ _ _ x => carry hq x) h.2⟩
theorem Kp.alloc {L : List (Nat × Value × Value)} {w w' : World} (h : Kp L w w') (o : Obj) : Kp L w (w'.alloc o) :=
  ⟨bal h.1 o, KpL.mono (fun _ _ _ x => carryA o x) h.2⟩
theorem Kp.drew {L : List (Nat × Value × Value)} {w w' : World} (h : Kp L w w') : Kp L w w'.drew :=
  ⟨h.1.drew, KpL.mono (w := w') (fun b o v (x : w'.cell? ⟨b, o, none⟩ = some v) => (show w'.drew.cell? ⟨b, o, none⟩ = some v from x)) h.2⟩
theorem KpL.set2 {p : Nat} {w' : World} (x y : Value) : ∀ {L : List (Nat × Value × Value)}, (∀ e ∈ L, e.1 < p) → KpL L w' → KpL L ((w'.setCell ⟨p, 0, none⟩ x).setCell ⟨p, 1, none⟩ y)
  | [], _, _ => trivial
  | e :: l, hl, ⟨h0, h1, h2⟩ => by
    have hp := hl e (by simp)
    have q : ∀ o, ((w'.setCell ⟨p, 0, none⟩ x).setCell ⟨p, 1, none⟩ y).cell? ⟨e.1, o, none⟩ = w'.cell? ⟨e.1, o, none⟩ := fun o => by
      rw [World.cell?_setCell_other _ _ _ _ (by simp <;> omega), World.cell?_setCell_other _ _ _ _ (by simp <;> omega)]
    exact ⟨(q 0).trans h0, (q 1).trans h1, KpL.set2 x y (fun e he => hl e (by simp [he])) h2⟩
theorem KpL.lt {w' : World} : ∀ {L : List (Nat × Value × Value)}, KpL L w' → ∀ e ∈ L, e.1 < w'.heap.size
  | [], _, e, he => by cases he
  | e0 :: l, ⟨h0, _, h2⟩, e, he => by
    rcases List.mem_cons.1 he with rfl | he
    · exact cell_lt h0
    · exact KpL.lt h2 e he
theorem Kp.set2 {L : List (Nat × Value × Value)} {w w' wk : World} {p : Nat} (hk : Kp L w wk) (hp : p = wk.heap.size) (h : Kp L w w') (x y : Value) : Kp L w ((w'.setCell ⟨p, 0, none⟩ x).setCell ⟨p, 1, none⟩ y) := by
  subst hp
  exact ⟨bst (bst h.1 hk.1.size _) hk.1.size _, KpL.set2 x y (KpL.lt hk.2) h.2⟩
/-- four facts on a new pair -/
def Pz (g : Nat) (x y : Value) (w : World) : Prop := w.cell? ⟨g, 0, none⟩ = some x ∧ w.cell? ⟨g, 1, none⟩ = some y ∧ w.frozen? ⟨g, 0, none⟩ = false ∧ w.frozen? ⟨g, 1, none⟩ = false
theorem newz (w : World) (x y : Value) (t : TypeId) : (w.alloc (.cells #[x, y] t)).cell? ⟨w.heap.size, 0, none⟩ = some x ∧ (w.alloc (.cells #[x, y] t)).cell? ⟨w.heap.size, 1, none⟩ = some y ∧ (w.alloc (.cells #[x, y] t)).frozen? ⟨w.heap.size, 0, none⟩ = false ∧ (w.alloc (.cells #[x, y] t)).frozen? ⟨w.heap.size, 1, none⟩ = false := by
  refine ⟨?_, ?_, ?_, ?_⟩ <;> simp [go_sem]
theorem newzD (w : World) (x y : Value) (t : TypeId) : (w.alloc (.cells #[x, y] t)).drew.cell? ⟨w.heap.size, 0, none⟩ = some x ∧ (w.alloc (.cells #[x, y] t)).drew.cell? ⟨w.heap.size, 1, none⟩ = some y ∧ (w.alloc (.cells #[x, y] t)).drew.frozen? ⟨w.heap.size, 0, none⟩ = false ∧ (w.alloc (.cells #[x, y] t)).drew.frozen? ⟨w.heap.size, 1, none⟩ = false := newz w x y t
theorem carryz {w w1 : World} {b : Nat} {x y : Value} (hq : Below w.heap.size w w1) (h : w.cell? ⟨b, 0, none⟩ = some x ∧ w.cell? ⟨b, 1, none⟩ = some y ∧ w.frozen? ⟨b, 0, none⟩ = false ∧ w.frozen? ⟨b, 1, none⟩ = false) :
    w1.cell? ⟨b, 0, none⟩ = some x ∧ w1.cell? ⟨b, 1, none⟩ = some y ∧ w1.frozen? ⟨b, 0, none⟩ = false ∧ w1.frozen? ⟨b, 1, none⟩ = false := by
  obtain ⟨h0, h1, h2, h3⟩ := h
  obtain ⟨hc, hf⟩ := bcell hq
  exact ⟨carry hq h0, carry hq h1, (hf _ _ (cell_lt h0)).trans h2, (hf _ _ (cell_lt h1)).trans h3⟩
theorem carryk {w w1 : World} {b : Nat} {x y : Value} {G : Prop} (hq : Below w.heap.size w w1) (h : w.cell? ⟨b, 0, none⟩ = some x ∧ w.cell? ⟨b, 1, none⟩ = some y ∧ w.frozen? ⟨b, 0, none⟩ = false ∧ w.frozen? ⟨b, 1, none⟩ = false)
    (k : (w1.cell? ⟨b, 0, none⟩ = some x ∧ w1.cell? ⟨b, 1, none⟩ = some y ∧ w1.frozen? ⟨b, 0, none⟩ = false ∧ w1.frozen? ⟨b, 1, none⟩ = false) → G) : G := k (carryz hq h)
theorem Kp.consNew {L : List (Nat × Value × Value)} {w w' : World} (h : Kp L w w') (x y : Value) (t : TypeId) : Kp ((w'.heap.size, x, y) :: L) w (w'.alloc (.cells #[x, y] t)) :=
  ⟨(h.alloc _).1, (newz w' x y t).1, (newz w' x y t).2.1, (h.alloc _).2⟩
theorem Kp.consSet {L : List (Nat × Value × Value)} {w w' wk : World} {p : Nat} {u v x y : Value} (hk : Kp L w wk) (hp : p = wk.heap.size) (h : Kp L w w')
    (hz : w'.cell? ⟨p, 0, none⟩ = some u ∧ w'.cell? ⟨p, 1, none⟩ = some v ∧ w'.frozen? ⟨p, 0, none⟩ = false ∧ w'.frozen? ⟨p, 1, none⟩ = false) :
    Kp ((p, x, y) :: L) w ((w'.setCell ⟨p, 0, none⟩ x).setCell ⟨p, 1, none⟩ y) :=
  ⟨(Kp.set2 hk hp h x y).1, (two_cells hz.1 hz.2.1).1 x y, (two_cells hz.1 hz.2.1).2 x y, (Kp.set2 hk hp h x y).2⟩
theorem Kp.new0 (w : World) : Kp [] w w := ⟨Below.refl _ _, trivial⟩
theorem Kp.newpair {L : List (Nat × Value × Value)} {w w' : World} {n : Nat} (h : Kp L w w') (hn : w'.heap.size = n) (x y : Value) (t : TypeId) : Kp ((n, x, y) :: L) w (w'.alloc (.cells #[x, y] t)) := by
  subst hn; exact h.consNew x y t
end Go.Proofs.Ytbdmofmoegmigaa
