/- Several texts in one: Kit, Draw, DrawB, DrawC, DrawD, DrawE. -/
import Derived.Test.YtjnngijilkdhbaaBR
import Derived.Deep.DeepCutAuto
import Derived.Deep.RegionHeld3
namespace Go.Proofs.Ytjnngijilkdhbaa
set_option linter.unusedVariables false
set_option linter.unusedSimpArgs false
open Go.RowKit
def KpL : List (Nat × Value × Value) → World → Prop
  | [], _ => True
  | e :: l, w' => w'.cell? ⟨e.1, 0, none⟩ = some e.2.1 ∧ w'.cell? ⟨e.1, 1, none⟩ = some e.2.2 ∧ KpL l w'
/-- since w no old block has turned; the listed pairs stand in w' -/
def Kp (L : List (Nat × Value × Value)) (w w' : World) : Prop := Below w.heap.size w w' ∧ KpL L w'
theorem KpL.mono {w w1 : World} (h : ∀ b o v, w.cell? ⟨b, o, none⟩ = some v → w1.cell? ⟨b, o, none⟩ = some v) : ∀ {L : List (Nat × Value × Value)}, KpL L w → KpL L w1
  | [], _ => trivial
  | _ :: _, ⟨h0, h1, h2⟩ => ⟨h _ _ _ h0, h _ _ _ h1, KpL.mono h h2⟩
theorem Kp.call {L : List (Nat × Value × Value)} {w w' w1 : World} (hq : Below w'.heap.size w' w1) (h : Kp L w w') : Kp L w w1 :=
  ⟨btr h.1 hq, KpL.mono (fun _ _ _ x => carry hq x) h.2⟩
theorem Kp.alloc {L : List (Nat × Value × Value)} {w w' : World} (h : Kp L w w') (o : Obj) : Kp L w (w'.alloc o) :=
  ⟨bal h.1 o, KpL.mono (fun _ _ _ x => carryA o x) h.2⟩
theorem Kp.drew {L : List (Nat × Value × Value)} {w w' : World} (h : Kp L w w') : Kp L w w'.drew :=
  ⟨h.1.drew, KpL.mono (w := w') (fun b o v (x : w'.cell? ⟨b, o, none⟩ = some v) => (show w'.drew.cell? ⟨b, o, none⟩ = some v from x)) h.2⟩
theorem KpL.set2 {p : Nat} {w' : World} (x y : Value) : ∀ {L : List (Nat × Value × Value)}, (∀ e ∈ L, e.1 < p) → KpL L w' → KpL L ((w'.setCell ⟨p, 0, none⟩ x).setCell ⟨p, 1, none⟩ y)
  | [], _, _ => trivial
  | e :: l, hl, ⟨h0, h1, h2⟩ => by
    have hp := hl e (by simp)
    have q : ∀ o, ((w'.setCell ⟨p, 0, none⟩ x).setCell ⟨p, 1, none⟩ y).cell? ⟨e.1, o, none⟩ = w'.cell? ⟨e.1, o, none⟩ := fun o => by
      rw [World.cell?_setCell_other _ _ _ _ (by simp <;> omega), World.cell?_setCell_other _ _ _ _ (by simp <;> omega)]
    exact ⟨(q 0).trans h0, (q 1).trans h1, KpL.set2 x y (fun e he => hl e (by simp [he])) h2⟩
theorem KpL.lt {w' : World} : ∀ {L : List (Nat × Value × Value)}, KpL L w' → ∀ e ∈ L, e.1 < w'.heap.size
  | [], _, e, he => by cases he
  | e0 :: l, ⟨h0, _, h2⟩, e, he => by
    rcases List.mem_cons.1 he with rfl | he
    · exact cell_lt h0
    · exact KpL.lt h2 e he
theorem Kp.set2 {L : List (Nat × Value × Value)} {w w' wk : World} {p : Nat} (hk : Kp L w wk) (hp : p = wk.heap.size) (h : Kp L w w') (x y : Value) : Kp L w ((w'.setCell ⟨p, 0, none⟩ x).setCell ⟨p, 1, none⟩ y) := by
  subst hp
  exact ⟨bst (bst h.1 hk.1.size _) hk.1.size _, KpL.set2 x y (KpL.lt hk.2) h.2⟩
/-- four facts on a new pair -/
def Pz (g : Nat) (x y : Value) (w : World) : Prop := w.cell? ⟨g, 0, none⟩ = some x ∧ w.cell? ⟨g, 1, none⟩ = some y ∧ w.frozen? ⟨g, 0, none⟩ = false ∧ w.frozen? ⟨g, 1, none⟩ = false
theorem newz (w : World) (x y : Value) (t : TypeId) : (w.alloc (.cells #[x, y] t)).cell? ⟨w.heap.size, 0, none⟩ = some x ∧ (w.alloc (.cells #[x, y] t)).cell? ⟨w.heap.size, 1, none⟩ = some y ∧ (w.alloc (.cells #[x, y] t)).frozen? ⟨w.heap.size, 0, none⟩ = false ∧ (w.alloc (.cells #[x, y] t)).frozen? ⟨w.heap.size, 1, none⟩ = false := by
  refine ⟨?_, ?_, ?_, ?_⟩ <;> simp [go_sem]
theorem newzD (w : World) (x y : Value) (t : TypeId) : (w.alloc (.cells #[x, y] t)).drew.cell? ⟨w.heap.size, 0, none⟩ = some x ∧ (w.alloc (.cells #[x, y] t)).drew.cell? ⟨w.heap.size, 1, none⟩ = some y ∧ (w.alloc (.cells #[x, y] t)).drew.frozen? ⟨w.heap.size, 0, none⟩ = false ∧ (w.alloc (.cells #[x, y] t)).drew.frozen? ⟨w.heap.size, 1, none⟩ = false := newz w x y t
theorem carryz {w w1 : World} {b : Nat} {x y : Value} (hq : Below w.heap.size w w1) (h : w.cell? ⟨b, 0, none⟩ = some x ∧ w.cell? ⟨b, 1, none⟩ = some y ∧ w.frozen? ⟨b, 0, none⟩ = false ∧ w.frozen? ⟨b, 1, none⟩ = false) :
    w1.cell? ⟨b, 0, none⟩ = some x ∧ w1.cell? ⟨b, 1, none⟩ = some y ∧ w1.frozen? ⟨b, 0, none⟩ = false ∧ w1.frozen? ⟨b, 1, none⟩ = false := by
  obtain ⟨h0, h1, h2, h3⟩ := h
  obtain ⟨hc, hf⟩ := bcell hq
  exact ⟨carry hq h0, carry hq h1, (hf _ _ (cell_lt h0)).trans h2, (hf _ _ (cell_lt h1)).trans h3⟩
theorem carryk {w w1 : World} {b : Nat} {x y : Value} {G : Prop} (hq : Below w.heap.size w w1) (h : w.cell? ⟨b, 0, none⟩ = some x ∧ w.cell? ⟨b, 1, none⟩ = some y ∧ w.frozen? ⟨b, 0, none⟩ = false ∧ w.frozen? ⟨b, 1, none⟩ = false)
    (k : (w1.cell? ⟨b, 0, none⟩ = some x ∧ w1.cell? ⟨b, 1, none⟩ = some y ∧ w1.frozen? ⟨b, 0, none⟩ = false ∧ w1.frozen? ⟨b, 1, none⟩ = false) → G) : G := k (carryz hq h)
theorem Kp.consNew {L : List (Nat × Value × Value)} {w w' : World} (h : Kp L w w') (x y : Value) (t : TypeId) : Kp ((w'.heap.size, x, y) :: L) w (w'.alloc (.cells #[x, y] t)) :=
  ⟨(h.alloc _).1, (newz w' x y t).1, (newz w' x y t).2.1, (h.alloc _).2⟩
theorem Kp.consSet {L : List (Nat × Value × Value)} {w w' wk : World} {p : Nat} {u v x y : Value} (hk : Kp L w wk) (hp : p = wk.heap.size) (h : Kp L w w')
    (hz : w'.cell? ⟨p, 0, none⟩ = some u ∧ w'.cell? ⟨p, 1, none⟩ = some v ∧ w'.frozen? ⟨p, 0, none⟩ = false ∧ w'.frozen? ⟨p, 1, none⟩ = false) :
    Kp ((p, x, y) :: L) w ((w'.setCell ⟨p, 0, none⟩ x).setCell ⟨p, 1, none⟩ y) :=
  ⟨(Kp.set2 hk hp h x y).1, (two_cells hz.1 hz.2.1).1 x y, (two_cells hz.1 hz.2.1).2 x y, (Kp.set2 hk hp h x y).2⟩
theorem Kp.new0 (w : World) : Kp [] w w := ⟨Below.refl _ _, trivial⟩
theorem Kp.newpair {L : List (Nat × Value × Value)} {w w' : World} {n : Nat} (h : Kp L w w') (hn : w'.heap.size = n) (x y : Value) (t : TypeId) : Kp ((n, x, y) :: L) w (w'.alloc (.cells #[x, y] t)) := by
  subst hn; exact h.consNew x y t
end Go.Proofs.Ytjnngijilkdhbaa

namespace Go.Proofs.Ytjnngijilkdhbaa
set_option linter.unusedVariables false
set_option linter.unusedSimpArgs false
open Go.RowKit
/-- bytes that came in: nil or empty, or so many cells below the heap's size -/
def Bytes (B : Nat) (w : World) (a : Option Addr) (len : Nat) : Prop :=
  len = 0 ∨ ∃ (b off : Nat) (zs : Nat → Int), a = some ⟨b, off, none⟩ ∧ b < B ∧ (∀ k, 0 ≤ zs k ∧ zs k ≤ 255) ∧ ∀ k, k < len → w.cell? ⟨b, off + k, none⟩ = some (.int .u8 (zs k))
/-- the reader in block g, at place p -/
def RD (B : Nat) (w : World) (g p : Nat) : Prop :=
  ∃ (a : Option Addr) (len cap : Nat), B ≤ g ∧ w.cell? ⟨g, 0, none⟩ = some (.slice a len cap) ∧ w.cell? ⟨g, 1, none⟩ = some (.int .i64 p) ∧ w.frozen? ⟨g, 1, none⟩ = false ∧ len ≤ 2000 ∧ Bytes B w a len
def PickPost (B : Nat) (w : World) (g p : Nat) (n : Int) (e : Ending) (w' : World) : Prop :=
  ∃ x : Int, 0 ≤ x ∧ x < n ∧ e = .returned (.int .i64 x) ∧ w.grownBy w' (some g) ∧ RD B w' g (p + 1)
theorem pick_post {B : Nat} {w w' : World} {g p : Nat} {n : Int} {e : Ending} (x : Int) (h0 : 0 ≤ x) (h1 : x < n) (h2 : e = .returned (.int .i64 x)) (h3 : w.grownBy w' (some g)) (h4 : RD B w' g (p + 1)) : PickPost B w g p n e w' := ⟨x, h0, h1, h2, h3, h4⟩

theorem xor_nat (a b : Nat) (ha : a < 4611686018427387904) (hb : b < 4611686018427387904) : bits .xor .i64 (a : Int) (b : Int) = ((a ^^^ b : Nat) : Int) := by
  have hx : a ^^^ b < 2 ^ 62 := Nat.xor_lt_two_pow (by omega) (by omega)
  have h1 : (BitVec.ofInt 64 (a : Int)).toNat = a := by
    rw [BitVec.ofInt_natCast, BitVec.toNat_ofNat]; exact Nat.mod_eq_of_lt (by omega)
  have h2 : (BitVec.ofInt 64 (b : Int)).toNat = b := by
    rw [BitVec.ofInt_natCast, BitVec.toNat_ofNat]; exact Nat.mod_eq_of_lt (by omega)
  show IntKind.i64.wrap ((BitVec.ofInt 64 (a : Int) ^^^ BitVec.ofInt 64 (b : Int)).toNat : Int) = _
  rw [BitVec.toNat_xor, h1, h2]
  simp [IntKind.wrap, IntKind.bits, IntKind.signed]
  omega
theorem xor_pos {a b : Int} (h1 : 0 ≤ a) (h2 : a < 4611686018427387904) (h3 : 0 ≤ b) (h4 : b < 4611686018427387904) : 0 ≤ bits .xor .i64 a b := by
  have := xor_nat a.toNat b.toNat (by omega) (by omega)
  rw [Int.toNat_of_nonneg h1, Int.toNat_of_nonneg h3] at this
  omega
theorem grow_set (w : World) (g o : Nat) (v : Value) : w.grownBy (w.setCell ⟨g, o, none⟩ v) (some g) :=
  ⟨rfl, rfl, rfl, by simp [World.setCell], fun k _ hk => Below.heap_setCell _ _ _ _ (by rintro rfl; exact hk rfl)⟩
theorem grow_drewN {w w' : World} {r : Option Nat} (h : w.grownBy w' r) (n : Nat) : w.grownBy (w'.drewN n) r := ⟨h.os, h.tape, h.output, h.size, h.block⟩
theorem Bytes.mono {B : Nat} {w w' : World} {a : Option Addr} {len : Nat} (h : Bytes B w a len) (hk : ∀ b o v, b < B → w.cell? ⟨b, o, none⟩ = some v → w'.cell? ⟨b, o, none⟩ = some v) : Bytes B w' a len := by
  rcases h with h | ⟨b, off, zs, ha, hb, hz, hc⟩
  · exact .inl h
  · exact .inr ⟨b, off, zs, ha, hb, hz, fun k hl => hk _ _ _ hb (hc k hl)⟩
theorem RD.step {B : Nat} {w : World} {g p : Nat} (h : RD B w g p) : RD B (w.setCell ⟨g, 1, none⟩ (.int .i64 ((p : Int) + 1))) g (p + 1) := by
  obtain ⟨a, len, cap, hB, c0, c1, f1, hl, hby⟩ := h
  refine ⟨a, len, cap, hB, ?_, ?_, ?_, hl, hby.mono fun b o v hb hc => ?_⟩
  · rw [World.cell?_setCell_other _ _ _ _ (by simp)]; exact c0
  · rw [World.cell?_setCell_same _ _ _ c1]; simp
  · simpa [go_sem] using f1
  · rw [World.cell?_setCell_other _ _ _ _ (by simp <;> omega)]; exact hc
theorem RD.drewN {B : Nat} {w : World} {g p : Nat} (h : RD B w g p) (n : Nat) : RD B (w.drewN n) g p := h

theorem grow_cell {w w' : World} {g b o : Nat} {v : Value} (h : w.grownBy w' (some g)) (hb : b ≠ g) (hc : w.cell? ⟨b, o, none⟩ = some v) : w'.cell? ⟨b, o, none⟩ = some v :=
  h.cell hc (by simp; exact hb)
theorem grow_trans {w w1 w2 : World} {r : Option Nat} (h : w.grownBy w1 r) (k : w1.grownBy w2 r) : w.grownBy w2 r :=
  ⟨k.os.trans h.os, k.tape.trans h.tape, k.output.trans h.output, Nat.le_trans h.size k.size, fun i hi hr => (k.block i (Nat.lt_of_lt_of_le hi h.size) hr).trans (h.block i hi hr)⟩
theorem grow_alloc {w w1 : World} {r : Option Nat} (h : w.grownBy w1 r) (o : Obj) : w.grownBy (w1.alloc o) r := grow_trans h (World.grownBy_alloc _ _ _)
theorem grow_refl (w : World) (r : Option Nat) : w.grownBy w r := ⟨rfl, rfl, rfl, Nat.le_refl _, fun _ _ _ => rfl⟩
theorem grow_below {B : Nat} {w w' : World} {g : Nat} (h : w.grownBy w' (some g)) (hg : B ≤ g) (hB : B ≤ w.heap.size) : Below B w w' :=
  (Below.refl B w).grown h hB (fun k hk => by cases hk; exact hg)
theorem RD.alloc {B : Nat} {w : World} {g p : Nat} (h : RD B w g p) (o : Obj) : RD B (w.alloc o) g p := by
  obtain ⟨a, len, cap, hB, c0, c1, f1, hl, hby⟩ := h
  refine ⟨a, len, cap, hB, (World.cell?_alloc_lt _ _ _ (World.block_lt_of_cell? w _ c0)).trans c0, (World.cell?_alloc_lt _ _ _ (World.block_lt_of_cell? w _ c1)).trans c1, ?_, hl, hby.mono fun b o v _ hc => (World.cell?_alloc_lt _ _ _ (World.block_lt_of_cell? w _ hc)).trans hc⟩
  exact ((Below.refl w.heap.size w).alloc (Nat.le_refl _) o).frozen (p := ⟨g, 1, none⟩) (World.block_lt_of_cell? w _ c1) |>.trans f1

def NumPost (B : Nat) (w : World) (g p : Nat) (zs : List Int) (e : Ending) (w' : World) : Prop :=
  ∃ x : Int, x ∈ zs ∧ e = .returned (.int .i64 x) ∧ w.grownBy w' (some g) ∧ RD B w' g (p + 1)
theorem num_post {B : Nat} {w w' : World} {g p : Nat} {zs : List Int} {e : Ending} (x : Int) (h1 : x ∈ zs) (h2 : e = .returned (.int .i64 x)) (h3 : w.grownBy w' (some g)) (h4 : RD B w' g (p + 1)) : NumPost B w g p zs e w' := ⟨x, h1, h2, h3, h4⟩

end Go.Proofs.Ytjnngijilkdhbaa

namespace Go.Proofs.Ytjnngijilkdhbaa
set_option linter.unusedVariables false
set_option linter.unusedSimpArgs false
open Go.RowKit
def IntPost (B : Nat) (w : World) (g p : Nat) (e : Ending) (w' : World) : Prop :=
  ∃ x : Int, e = .returned (.int .i64 x) ∧ w.grownBy w' (some g) ∧ RD B w' g (p + 2)
theorem int_post {B : Nat} {w w' : World} {g p : Nat} {e : Ending} (x : Int) (h2 : e = .returned (.int .i64 x)) (h3 : w.grownBy w' (some g)) (h4 : RD B w' g (p + 2)) : IntPost B w g p e w' := ⟨x, h2, h3, h4⟩
theorem RD.lt {B : Nat} {w : World} {g p : Nat} (h : RD B w g p) : g < w.heap.size := by
  obtain ⟨a, len, cap, hB, c0, _⟩ := h; exact World.block_lt_of_cell? w _ c0
def zsA : List Int := [1000000000, -1000000000, 1000000001, 9223372036854775807, -9223372036854775808, 999999937]
def zsB : List Int := [0, 1, 2, 3, -1, -2, 5, 7, -12, 30, 100]
end Go.Proofs.Ytjnngijilkdhbaa

namespace Go.Proofs.Ytjnngijilkdhbaa
set_option linter.unusedVariables false
set_option linter.unusedSimpArgs false
open Go.RowKit
theorem grow_of_below {w w' : World} (h : Below w.heap.size w w') (r : Option Nat) : w.grownBy w' r := ⟨h.os, h.tape, h.output, h.size, fun i hi _ => h.block i hi⟩
theorem grow_setNew {w w1 : World} {g : Nat} (h : w.grownBy w1 (some g)) {q : Nat} (hq : w.heap.size ≤ q) (o : Nat) (v : Value) : w.grownBy (w1.setCell ⟨q, o, none⟩ v) (some g) :=
  ⟨h.os, h.tape, h.output, by simpa [World.setCell] using h.size, fun i hi hne => (Below.heap_setCell w1 ⟨q, o, none⟩ v i (by simp only; omega)).trans (h.block i hi hne)⟩
theorem grow_z {w w1 : World} {b g : Nat} {x y : Value} (hq : w.grownBy w1 (some g)) (hb : b ≠ g) (h : w.cell? ⟨b, 0, none⟩ = some x ∧ w.cell? ⟨b, 1, none⟩ = some y ∧ w.frozen? ⟨b, 0, none⟩ = false ∧ w.frozen? ⟨b, 1, none⟩ = false) :
    w1.cell? ⟨b, 0, none⟩ = some x ∧ w1.cell? ⟨b, 1, none⟩ = some y ∧ w1.frozen? ⟨b, 0, none⟩ = false ∧ w1.frozen? ⟨b, 1, none⟩ = false := by
  obtain ⟨h0, h1, h2, h3⟩ := h
  have hl := World.block_lt_of_cell? w _ h0
  have e := hq.block b hl (by simp; exact hb)
  exact ⟨grow_cell hq hb h0, grow_cell hq hb h1, (World.frozen?_of_block (w := w) (a := ⟨b, 0, none⟩) e).trans h2, (World.frozen?_of_block (w := w) (a := ⟨b, 1, none⟩) e).trans h3⟩
theorem allocz {w : World} {b : Nat} {x y : Value} (o : Obj) (h : w.cell? ⟨b, 0, none⟩ = some x ∧ w.cell? ⟨b, 1, none⟩ = some y ∧ w.frozen? ⟨b, 0, none⟩ = false ∧ w.frozen? ⟨b, 1, none⟩ = false) :
    (w.alloc o).cell? ⟨b, 0, none⟩ = some x ∧ (w.alloc o).cell? ⟨b, 1, none⟩ = some y ∧ (w.alloc o).frozen? ⟨b, 0, none⟩ = false ∧ (w.alloc o).frozen? ⟨b, 1, none⟩ = false :=
  carryz ((Below.refl _ _).alloc (Nat.le_refl _) o) h
theorem RD.below {B : Nat} {w w' : World} {g p : Nat} (h : RD B w g p) (hb : Below w.heap.size w w') : RD B w' g p := by
  obtain ⟨a, len, cap, hB, c0, c1, f1, hl, hby⟩ := h
  exact ⟨a, len, cap, hB, carry hb c0, carry hb c1, (hb.frozen (p := ⟨g, 1, none⟩) (World.block_lt_of_cell? w _ c1)).trans f1, hl, hby.mono fun b o v _ hc => carry hb hc⟩
theorem RD.set {B : Nat} {w : World} {g p q : Nat} (h : RD B w g p) (hq : q ≠ g) (hB : B ≤ q) (o : Nat) (v : Value) : RD B (w.setCell ⟨q, o, none⟩ v) g p := by
  obtain ⟨a, len, cap, hB', c0, c1, f1, hl, hby⟩ := h
  refine ⟨a, len, cap, hB', ?_, ?_, ?_, hl, hby.mono fun b o' v' hb hc => ?_⟩
  · rw [World.cell?_setCell_other _ _ _ _ (by simp <;> omega)]; exact c0
  · rw [World.cell?_setCell_other _ _ _ _ (by simp <;> omega)]; exact c1
  · simpa [go_sem] using f1
  · rw [World.cell?_setCell_other _ _ _ _ (by simp <;> omega)]; exact hc

theorem setz {w : World} {b q : Nat} {x y : Value} (hq : q ≠ b) (o : Nat) (v : Value) (h : w.cell? ⟨b, 0, none⟩ = some x ∧ w.cell? ⟨b, 1, none⟩ = some y ∧ w.frozen? ⟨b, 0, none⟩ = false ∧ w.frozen? ⟨b, 1, none⟩ = false) :
    (w.setCell ⟨q, o, none⟩ v).cell? ⟨b, 0, none⟩ = some x ∧ (w.setCell ⟨q, o, none⟩ v).cell? ⟨b, 1, none⟩ = some y ∧ (w.setCell ⟨q, o, none⟩ v).frozen? ⟨b, 0, none⟩ = false ∧ (w.setCell ⟨q, o, none⟩ v).frozen? ⟨b, 1, none⟩ = false := by
  obtain ⟨h0, h1, h2, h3⟩ := h
  refine ⟨?_, ?_, by simpa [go_sem] using h2, by simpa [go_sem] using h3⟩
  · rw [World.cell?_setCell_other _ _ _ _ (by simp <;> omega)]; exact h0
  · rw [World.cell?_setCell_other _ _ _ _ (by simp <;> omega)]; exact h1
def RatPost (B : Nat) (w : World) (g p : Nat) (e : Ending) (w' : World) : Prop :=
  ∃ (x y : Int) (q : Nat), e = .returned (.agg #[.int .i64 x, .int .i64 y]) ∧ w.grownBy w' (some g) ∧ RD B w' g q ∧ q ≤ p + 10
theorem rat_post {B : Nat} {w w' : World} {g p : Nat} {e : Ending} (x y : Int) (q : Nat) (h2 : e = .returned (.agg #[.int .i64 x, .int .i64 y])) (h3 : w.grownBy w' (some g)) (h4 : RD B w' g q) (h5 : q ≤ p + 10) : RatPost B w g p e w' := ⟨x, y, q, h2, h3, h4, h5⟩
def zsC : List Int := [1, 1, 2, 3, 4, 7, 999999937, 1000000000]
def zsD : List Int := [0, -1, 1000000001]
def zsE : List Int := [-9223372036854775808, 1000000001]

end Go.Proofs.Ytjnngijilkdhbaa

namespace Go.Proofs.Ytjnngijilkdhbaa
set_option linter.unusedVariables false
set_option linter.unusedSimpArgs false
open Go.RowKit
def OpenPost (B : Nat) (w : World) (e : Ending) (w' : World) : Prop :=
  ∃ g : Nat, e = .returned (.pointer (some ⟨g, 0, none⟩)) ∧ Below w.heap.size w w' ∧ RD B w' g 0 ∧ w.heap.size ≤ g
theorem open_post {B : Nat} {w w' : World} {e : Ending} (g : Nat) (h1 : e = .returned (.pointer (some ⟨g, 0, none⟩))) (h2 : Below w.heap.size w w') (h3 : RD B w' g 0) (h4 : w.heap.size ≤ g) : OpenPost B w e w' := ⟨g, h1, h2, h3, h4⟩
theorem rd_new {B : Nat} {w : World} {a : Option Addr} {len cap : Nat} (hB : B ≤ w.heap.size) (hl : len ≤ 2000) (hby : Bytes B w a len) (t : TypeId) :
    RD B (w.alloc (.cells #[.slice a len cap, .int .i64 0] t)) w.heap.size 0 :=
  ⟨a, len, cap, hB, by simp [go_sem], by simp [go_sem], by simp [go_sem], hl, hby.mono fun b o v hb hc => carryA _ hc⟩
def OnePost (w : World) (e : Ending) (w' : World) : Prop := ∃ x y : Int, e = .returned (.agg #[.int .i64 x, .int .i64 y]) ∧ Below w.heap.size w w'
theorem one_post {w w' : World} {e : Ending} (x y : Int) (h1 : e = .returned (.agg #[.int .i64 x, .int .i64 y])) (h2 : Below w.heap.size w w') : OnePost w e w' := ⟨x, y, h1, h2⟩
def IntsPost (w : World) (e : Ending) (w' : World) : Prop := ∃ x y : Int, e = .returned (.tuple #[.int .i64 x, .int .i64 y]) ∧ Below w.heap.size w w'
theorem ints_post {w w' : World} {e : Ending} (x y : Int) (h1 : e = .returned (.tuple #[.int .i64 x, .int .i64 y])) (h2 : Below w.heap.size w w') : IntsPost w e w' := ⟨x, y, h1, h2⟩
def TwoPost (w : World) (e : Ending) (w' : World) : Prop := ∃ x y u v : Int, e = .returned (.tuple #[.agg #[.int .i64 x, .int .i64 y], .agg #[.int .i64 u, .int .i64 v]]) ∧ Below w.heap.size w w'
theorem two_post {w w' : World} {e : Ending} (x y u v : Int) (h1 : e = .returned (.tuple #[.agg #[.int .i64 x, .int .i64 y], .agg #[.int .i64 u, .int .i64 v]])) (h2 : Below w.heap.size w w') : TwoPost w e w' := ⟨x, y, u, v, h1, h2⟩
theorem Bytes.alloc {B : Nat} {w : World} {a : Option Addr} {len : Nat} (h : Bytes B w a len) (o : Obj) : Bytes B (w.alloc o) a len := h.mono fun _ _ _ _ hc => carryA o hc

/-- two fractions are drawn: the first stands in block A, the results' blocks are there -/
def ST (B : Nat) (w : World) (g A : Nat) (x y : Value) (w' : World) : Prop :=
  w'.cell? ⟨A, 0, none⟩ = some x ∧ w'.cell? ⟨A, 1, none⟩ = some y ∧
  w'.cell? ⟨w.heap.size, 0, none⟩ = some (rd w' w.heap.size 0) ∧ w'.cell? ⟨w.heap.size, 1, none⟩ = some (rd w' w.heap.size 1) ∧ w'.frozen? ⟨w.heap.size, 0, none⟩ = false ∧ w'.frozen? ⟨w.heap.size, 1, none⟩ = false ∧
  w'.cell? ⟨w.heap.size + 1, 0, none⟩ = some (rd w' (w.heap.size + 1) 0) ∧ w'.cell? ⟨w.heap.size + 1, 1, none⟩ = some (rd w' (w.heap.size + 1) 1) ∧ w'.frozen? ⟨w.heap.size + 1, 0, none⟩ = false ∧ w'.frozen? ⟨w.heap.size + 1, 1, none⟩ = false ∧
  Below w.heap.size w w' ∧ ∃ q, RD B w' g q ∧ q ≤ 40
theorem ST.mk' {B : Nat} {w : World} {g A : Nat} {x y u v s t : Value} {w' : World} {q : Nat} (ha : w'.cell? ⟨A, 0, none⟩ = some x ∧ w'.cell? ⟨A, 1, none⟩ = some y ∧ w'.frozen? ⟨A, 0, none⟩ = false ∧ w'.frozen? ⟨A, 1, none⟩ = false)
    (h1 : w'.cell? ⟨w.heap.size, 0, none⟩ = some u ∧ w'.cell? ⟨w.heap.size, 1, none⟩ = some v ∧ w'.frozen? ⟨w.heap.size, 0, none⟩ = false ∧ w'.frozen? ⟨w.heap.size, 1, none⟩ = false)
    (h2 : w'.cell? ⟨w.heap.size + 1, 0, none⟩ = some s ∧ w'.cell? ⟨w.heap.size + 1, 1, none⟩ = some t ∧ w'.frozen? ⟨w.heap.size + 1, 0, none⟩ = false ∧ w'.frozen? ⟨w.heap.size + 1, 1, none⟩ = false)
    (hb : Below w.heap.size w w') (hR : RD B w' g q) (hq : q ≤ 40) : ST B w g A x y w' :=
  ⟨ha.1, ha.2.1, rd_some (by rw [h1.1]; rfl), rd_some (by rw [h1.2.1]; rfl), h1.2.2.1, h1.2.2.2, rd_some (by rw [h2.1]; rfl), rd_some (by rw [h2.2.1]; rfl), h2.2.2.1, h2.2.2.2, hb, q, hR, hq⟩
end Go.Proofs.Ytjnngijilkdhbaa

namespace Go.Proofs.Ytjnngijilkdhbaa
set_option linter.unusedVariables false
set_option linter.unusedSimpArgs false
open Go.RowKit
theorem ST.drew {B : Nat} {w : World} {g A : Nat} {x y : Value} {w' : World} (h : ST B w g A x y w') : ST B w g A x y w'.drew := by
  obtain ⟨h1, h2, h3, h4, h5, h6, h7, h8, h9, h10, h11, q, h12, h13⟩ := h
  exact ⟨h1, h2, h3, h4, h5, h6, h7, h8, h9, h10, h11.drew, q, h12, h13⟩
theorem ST.grow {B : Nat} {w : World} {g A : Nat} {x y : Value} {w' w1 : World} {q' : Nat} (h : ST B w g A x y w') (hA : A ≠ g) (hg : w.heap.size + 1 < g) (hq : w'.grownBy w1 (some g)) (hR : RD B w1 g q') (hq' : q' ≤ 40) : ST B w g A x y w1 := by
  obtain ⟨h1, h2, h3, h4, h5, h6, h7, h8, h9, h10, h11, q, h12, h13⟩ := h
  have z1 := grow_z hq (by omega) ⟨h3, h4, h5, h6⟩
  have z2 := grow_z hq (by omega) ⟨h7, h8, h9, h10⟩
  exact ⟨grow_cell hq hA h1, grow_cell hq hA h2, rd_some (by rw [z1.1]; rfl), rd_some (by rw [z1.2.1]; rfl), z1.2.2.1, z1.2.2.2, rd_some (by rw [z2.1]; rfl), rd_some (by rw [z2.2.1]; rfl), z2.2.2.1, z2.2.2.2, h11.trans (grow_below hq (by omega) h11.size), q', hR, hq'⟩
theorem ST.set2 {B : Nat} {w : World} {g A p : Nat} {x y : Value} {w' : World} (h : ST B w g A x y w') (hA : A ≠ p) (hg : p ≠ g) (hB : B ≤ w.heap.size) (hp : p = w.heap.size ∨ p = w.heap.size + 1) (u v : Value) : ST B w g A x y ((w'.setCell ⟨p, 0, none⟩ u).setCell ⟨p, 1, none⟩ v) := by
  obtain ⟨h1, h2, h3, h4, h5, h6, h7, h8, h9, h10, h11, q, h12, h13⟩ := h
  have hA' : p ≠ A := fun e => hA e.symm
  refine ⟨?_, ?_, ?_, ?_, ?_, ?_, ?_, ?_, ?_, ?_, bst (bst h11 (by simp <;> omega) _) (by simp <;> omega) _, q, (h12.set hg (by omega) 0 u).set hg (by omega) 1 v, h13⟩
  · rw [World.cell?_setCell_other _ _ _ _ (by simp <;> omega), World.cell?_setCell_other _ _ _ _ (by simp <;> omega)]; exact h1
  · rw [World.cell?_setCell_other _ _ _ _ (by simp <;> omega), World.cell?_setCell_other _ _ _ _ (by simp <;> omega)]; exact h2
  all_goals rcases hp with rfl | rfl
  · exact rd_some (by rw [(two_cells h3 h4).1]; rfl)
  · exact rd_some (by rw [(setz (b := w.heap.size) (by omega) 1 v (setz (b := w.heap.size) (by omega) 0 u ⟨h3, h4, h5, h6⟩)).1]; rfl)
  · exact rd_some (by rw [(two_cells h3 h4).2]; rfl)
  · exact rd_some (by rw [(setz (b := w.heap.size) (by omega) 1 v (setz (b := w.heap.size) (by omega) 0 u ⟨h3, h4, h5, h6⟩)).2.1]; rfl)
  · simpa [go_sem] using h5
  · simpa [go_sem] using h5
  · simpa [go_sem] using h6
  · simpa [go_sem] using h6
  · exact rd_some (by rw [(setz (b := w.heap.size + 1) (by omega) 1 v (setz (b := w.heap.size + 1) (by omega) 0 u ⟨h7, h8, h9, h10⟩)).1]; rfl)
  · exact rd_some (by rw [(two_cells h7 h8).1]; rfl)
  · exact rd_some (by rw [(setz (b := w.heap.size + 1) (by omega) 1 v (setz (b := w.heap.size + 1) (by omega) 0 u ⟨h7, h8, h9, h10⟩)).2.1]; rfl)
  · exact rd_some (by rw [(two_cells h7 h8).2]; rfl)
  · simpa [go_sem] using h9
  · simpa [go_sem] using h9
  · simpa [go_sem] using h10
  · simpa [go_sem] using h10

theorem pair_end {w : World} {b q : Nat} {x0 y0 u0 v0 x y u v : Value} (hq : q ≠ b) (h : w.cell? ⟨b, 0, none⟩ = some x0 ∧ w.cell? ⟨b, 1, none⟩ = some y0 ∧ w.frozen? ⟨b, 0, none⟩ = false ∧ w.frozen? ⟨b, 1, none⟩ = false)
    (k : w.cell? ⟨q, 0, none⟩ = some u0 ∧ w.cell? ⟨q, 1, none⟩ = some v0 ∧ w.frozen? ⟨q, 0, none⟩ = false ∧ w.frozen? ⟨q, 1, none⟩ = false) :
    ((((w.setCell ⟨b, 0, none⟩ x).setCell ⟨b, 1, none⟩ y).setCell ⟨q, 0, none⟩ u).setCell ⟨q, 1, none⟩ v).cell? ⟨b, 0, none⟩ = some x ∧ ((((w.setCell ⟨b, 0, none⟩ x).setCell ⟨b, 1, none⟩ y).setCell ⟨q, 0, none⟩ u).setCell ⟨q, 1, none⟩ v).cell? ⟨b, 1, none⟩ = some y ∧
    ((((w.setCell ⟨b, 0, none⟩ x).setCell ⟨b, 1, none⟩ y).setCell ⟨q, 0, none⟩ u).setCell ⟨q, 1, none⟩ v).cell? ⟨q, 0, none⟩ = some u ∧ ((((w.setCell ⟨b, 0, none⟩ x).setCell ⟨b, 1, none⟩ y).setCell ⟨q, 0, none⟩ u).setCell ⟨q, 1, none⟩ v).cell? ⟨q, 1, none⟩ = some v := by
  obtain ⟨t0, t1⟩ := two_cells h.1 h.2.1
  have z := setz hq 1 v (setz hq 0 u ⟨t0 x y, t1 x y, by simpa [go_sem] using h.2.2.1, by simpa [go_sem] using h.2.2.2⟩)
  have zq := setz (q := b) (b := q) (fun e => hq e.symm) 1 y (setz (fun e => hq e.symm) 0 x k)
  obtain ⟨s0, s1⟩ := two_cells zq.1 zq.2.1
  exact ⟨z.1, z.2.1, s0 u v, s1 u v⟩
end Go.Proofs.Ytjnngijilkdhbaa
