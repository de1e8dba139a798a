/- Several texts in one: SetN, LinA, LinB, LinC, LinD, LinE, LinF, LinG, LinH. -/
import Derived.Test.YtjnngijilkdhbaaBase
import Derived.Test.YtjnngijilkdhbaaBM
import Derived.Deep.OwnRows
import Derived.Test.YtjnngijilkdhbaaBT
import Derived.LoopN
namespace Go.Proofs.Ytjnngijilkdhbaa
set_option linter.unusedVariables false
set_option linter.unusedSimpArgs false
open Go.RowKit
theorem set3 {w1 : World} {b : Nat} {u0 u1 u2 : Value} (h0 : w1.cell? ⟨b, 0, none⟩ = some u0) (h1 : w1.cell? ⟨b, 1, none⟩ = some u1) (h2 : w1.cell? ⟨b, 2, none⟩ = some u2) (x0 x1 x2 : Value) :
    (((w1.setCell ⟨b, 0, none⟩ x0).setCell ⟨b, 1, none⟩ x1).setCell ⟨b, 2, none⟩ x2).cell? ⟨b, 0, none⟩ = some x0 ∧ (((w1.setCell ⟨b, 0, none⟩ x0).setCell ⟨b, 1, none⟩ x1).setCell ⟨b, 2, none⟩ x2).cell? ⟨b, 1, none⟩ = some x1 ∧ (((w1.setCell ⟨b, 0, none⟩ x0).setCell ⟨b, 1, none⟩ x1).setCell ⟨b, 2, none⟩ x2).cell? ⟨b, 2, none⟩ = some x2 := by
  have k : ∀ (w : World) (p q : Nat) (x : Value), p ≠ q → (w.setCell ⟨b, p, none⟩ x).cell? ⟨b, q, none⟩ = w.cell? ⟨b, q, none⟩ := fun w p q x h => World.cell?_setCell_other _ _ _ _ (by simp [h])
  refine ⟨?_, ?_, ?_⟩
  · rw [k _ 2 0 _ (by decide), k _ 1 0 _ (by decide)]; exact World.cell?_setCell_same _ _ _ (h0)
  · rw [k _ 2 1 _ (by decide)]; exact World.cell?_setCell_same _ _ _ (by rw [k _ 0 1 _ (by decide)]; exact h1)
  · exact World.cell?_setCell_same _ _ _ (by rw [k _ 1 2 _ (by decide), k _ 0 2 _ (by decide)]; exact h2)
theorem set4 {w1 : World} {b : Nat} {u0 u1 u2 u3 : Value} (h0 : w1.cell? ⟨b, 0, none⟩ = some u0) (h1 : w1.cell? ⟨b, 1, none⟩ = some u1) (h2 : w1.cell? ⟨b, 2, none⟩ = some u2) (h3 : w1.cell? ⟨b, 3, none⟩ = some u3) (x0 x1 x2 x3 : Value) :
    ((((w1.setCell ⟨b, 0, none⟩ x0).setCell ⟨b, 1, none⟩ x1).setCell ⟨b, 2, none⟩ x2).setCell ⟨b, 3, none⟩ x3).cell? ⟨b, 0, none⟩ = some x0 ∧ ((((w1.setCell ⟨b, 0, none⟩ x0).setCell ⟨b, 1, none⟩ x1).setCell ⟨b, 2, none⟩ x2).setCell ⟨b, 3, none⟩ x3).cell? ⟨b, 1, none⟩ = some x1 ∧ ((((w1.setCell ⟨b, 0, none⟩ x0).setCell ⟨b, 1, none⟩ x1).setCell ⟨b, 2, none⟩ x2).setCell ⟨b, 3, none⟩ x3).cell? ⟨b, 2, none⟩ = some x2 ∧ ((((w1.setCell ⟨b, 0, none⟩ x0).setCell ⟨b, 1, none⟩ x1).setCell ⟨b, 2, none⟩ x2).setCell ⟨b, 3, none⟩ x3).cell? ⟨b, 3, none⟩ = some x3 := by
  have k : ∀ (w : World) (p q : Nat) (x : Value), p ≠ q → (w.setCell ⟨b, p, none⟩ x).cell? ⟨b, q, none⟩ = w.cell? ⟨b, q, none⟩ := fun w p q x h => World.cell?_setCell_other _ _ _ _ (by simp [h])
  refine ⟨?_, ?_, ?_, ?_⟩
  · rw [k _ 3 0 _ (by decide), k _ 2 0 _ (by decide), k _ 1 0 _ (by decide)]; exact World.cell?_setCell_same _ _ _ (h0)
  · rw [k _ 3 1 _ (by decide), k _ 2 1 _ (by decide)]; exact World.cell?_setCell_same _ _ _ (by rw [k _ 0 1 _ (by decide)]; exact h1)
  · rw [k _ 3 2 _ (by decide)]; exact World.cell?_setCell_same _ _ _ (by rw [k _ 1 2 _ (by decide), k _ 0 2 _ (by decide)]; exact h2)
  · exact World.cell?_setCell_same _ _ _ (by rw [k _ 2 3 _ (by decide), k _ 1 3 _ (by decide), k _ 0 3 _ (by decide)]; exact h3)
theorem set6 {w1 : World} {b : Nat} {u0 u1 u2 u3 u4 u5 : Value} (h0 : w1.cell? ⟨b, 0, none⟩ = some u0) (h1 : w1.cell? ⟨b, 1, none⟩ = some u1) (h2 : w1.cell? ⟨b, 2, none⟩ = some u2) (h3 : w1.cell? ⟨b, 3, none⟩ = some u3) (h4 : w1.cell? ⟨b, 4, none⟩ = some u4) (h5 : w1.cell? ⟨b, 5, none⟩ = some u5) (x0 x1 x2 x3 x4 x5 : Value) :
    ((((((w1.setCell ⟨b, 0, none⟩ x0).setCell ⟨b, 1, none⟩ x1).setCell ⟨b, 2, none⟩ x2).setCell ⟨b, 3, none⟩ x3).setCell ⟨b, 4, none⟩ x4).setCell ⟨b, 5, none⟩ x5).cell? ⟨b, 0, none⟩ = some x0 ∧ ((((((w1.setCell ⟨b, 0, none⟩ x0).setCell ⟨b, 1, none⟩ x1).setCell ⟨b, 2, none⟩ x2).setCell ⟨b, 3, none⟩ x3).setCell ⟨b, 4, none⟩ x4).setCell ⟨b, 5, none⟩ x5).cell? ⟨b, 1, none⟩ = some x1 ∧ ((((((w1.setCell ⟨b, 0, none⟩ x0).setCell ⟨b, 1, none⟩ x1).setCell ⟨b, 2, none⟩ x2).setCell ⟨b, 3, none⟩ x3).setCell ⟨b, 4, none⟩ x4).setCell ⟨b, 5, none⟩ x5).cell? ⟨b, 2, none⟩ = some x2 ∧ ((((((w1.setCell ⟨b, 0, none⟩ x0).setCell ⟨b, 1, none⟩ x1).setCell ⟨b, 2, none⟩ x2).setCell ⟨b, 3, none⟩ x3).setCell ⟨b, 4, none⟩ x4).setCell ⟨b, 5, none⟩ x5).cell? ⟨b, 3, none⟩ = some x3 ∧ ((((((w1.setCell ⟨b, 0, none⟩ x0).setCell ⟨b, 1, none⟩ x1).setCell ⟨b, 2, none⟩ x2).setCell ⟨b, 3, none⟩ x3).setCell ⟨b, 4, none⟩ x4).setCell ⟨b, 5, none⟩ x5).cell? ⟨b, 4, none⟩ = some x4 ∧ ((((((w1.setCell ⟨b, 0, none⟩ x0).setCell ⟨b, 1, none⟩ x1).setCell ⟨b, 2, none⟩ x2).setCell ⟨b, 3, none⟩ x3).setCell ⟨b, 4, none⟩ x4).setCell ⟨b, 5, none⟩ x5).cell? ⟨b, 5, none⟩ = some x5 := by
  have k : ∀ (w : World) (p q : Nat) (x : Value), p ≠ q → (w.setCell ⟨b, p, none⟩ x).cell? ⟨b, q, none⟩ = w.cell? ⟨b, q, none⟩ := fun w p q x h => World.cell?_setCell_other _ _ _ _ (by simp [h])
  refine ⟨?_, ?_, ?_, ?_, ?_, ?_⟩
  · rw [k _ 5 0 _ (by decide), k _ 4 0 _ (by decide), k _ 3 0 _ (by decide), k _ 2 0 _ (by decide), k _ 1 0 _ (by decide)]; exact World.cell?_setCell_same _ _ _ (h0)
  · rw [k _ 5 1 _ (by decide), k _ 4 1 _ (by decide), k _ 3 1 _ (by decide), k _ 2 1 _ (by decide)]; exact World.cell?_setCell_same _ _ _ (by rw [k _ 0 1 _ (by decide)]; exact h1)
  · rw [k _ 5 2 _ (by decide), k _ 4 2 _ (by decide), k _ 3 2 _ (by decide)]; exact World.cell?_setCell_same _ _ _ (by rw [k _ 1 2 _ (by decide), k _ 0 2 _ (by decide)]; exact h2)
  · rw [k _ 5 3 _ (by decide), k _ 4 3 _ (by decide)]; exact World.cell?_setCell_same _ _ _ (by rw [k _ 2 3 _ (by decide), k _ 1 3 _ (by decide), k _ 0 3 _ (by decide)]; exact h3)
  · rw [k _ 5 4 _ (by decide)]; exact World.cell?_setCell_same _ _ _ (by rw [k _ 3 4 _ (by decide), k _ 2 4 _ (by decide), k _ 1 4 _ (by decide), k _ 0 4 _ (by decide)]; exact h4)
  · exact World.cell?_setCell_same _ _ _ (by rw [k _ 4 5 _ (by decide), k _ 3 5 _ (by decide), k _ 2 5 _ (by decide), k _ 1 5 _ (by decide), k _ 0 5 _ (by decide)]; exact h5)
theorem far3 {w : World} {b o p : Nat} {u : Value} (x y z : Value) (hp : p ≠ b) (h : w.cell? ⟨b, o, none⟩ = some u) : (((w.setCell ⟨p, 0, none⟩ x).setCell ⟨p, 1, none⟩ y).setCell ⟨p, 2, none⟩ z).cell? ⟨b, o, none⟩ = some u := by
  rw [World.cell?_setCell_other _ _ _ _ (by simp <;> omega), World.cell?_setCell_other _ _ _ _ (by simp <;> omega), World.cell?_setCell_other _ _ _ _ (by simp <;> omega)]; exact h
/-- the listed cells stand in w -/
def KcL : List (Nat × Nat × Value) → World → Prop
  | [], _ => True
  | e :: l, w => w.cell? ⟨e.1, e.2.1, none⟩ = some e.2.2 ∧ KcL l w
theorem KcL.below {w w' : World} (hb : Below w.heap.size w w') : ∀ {L : List (Nat × Nat × Value)}, KcL L w → KcL L w'
  | [], _ => trivial
  | _ :: _, ⟨h, t⟩ => ⟨carry hb h, KcL.below hb t⟩
theorem KcL.app {w : World} : ∀ {L M : List (Nat × Nat × Value)}, KcL L w → KcL M w → KcL (L ++ M) w
  | [], _, _, m => m
  | _ :: _, _, ⟨h, t⟩, m => ⟨h, KcL.app t m⟩
/-- the cells of a new block of three -/
theorem KcL.new3 (w : World) (x y z : Value) (t : TypeId) {n : Nat} (hn : w.heap.size = n) : KcL [(n, 0, x), (n, 1, y), (n, 2, z)] (w.alloc (.cells #[x, y, z] t)) := by
  subst hn
  refine ⟨?_, ?_, ?_, trivial⟩ <;> simp [go_sem]
theorem KcL.alloc {w : World} {L : List (Nat × Nat × Value)} (h : KcL L w) (o : Obj) : KcL L (w.alloc o) := h.below ((Below.refl _ _).alloc (Nat.le_refl _) o)
end Go.Proofs.Ytjnngijilkdhbaa

namespace Go.Proofs.Ytjnngijilkdhbaa
set_option linter.unusedVariables false
set_option linter.unusedSimpArgs false
open Go.RowKit
/-- the slice of n elements at A reads as the numbers Z -/
def Ints (w : World) (A : Option Addr) (n : Nat) (Z : Nat → Int) : Prop :=
  n = 0 ∨ ∃ g off, A = some ⟨g, off, none⟩ ∧ g < w.heap.size ∧ ∀ k, k < n → w.cell? ⟨g, off + k, none⟩ = some (.int .i64 (Z k))
theorem Ints.below {w w1 : World} {A : Option Addr} {n : Nat} {Z : Nat → Int} (h : Ints w A n Z) (hb : Below w.heap.size w w1) : Ints w1 A n Z := by
  rcases h with h | ⟨g, off, ha, hg, hc⟩
  · exact .inl h
  · exact .inr ⟨g, off, ha, Nat.lt_of_lt_of_le hg hb.size, fun k hk => (hb.cell (p := ⟨g, off + k, none⟩) hg).trans (hc k hk)⟩
theorem Ints.of_row {w : World} {g n : Nat} {t : TypeId} {Z : Nat → Int} (h : w.rowIs g t n (fun k => .int .i64 (Z k))) : Ints w (some ⟨g, 0, none⟩) n Z :=
  .inr ⟨g, 0, rfl, h.lt, fun k hk => by rw [Nat.zero_add]; exact h.cell hk⟩
theorem Ints.congr {w : World} {A : Option Addr} {n : Nat} {Z Y : Nat → Int} (h : Ints w A n Z) (e : ∀ k, k < n → Z k = Y k) : Ints w A n Y := by
  rcases h with h | ⟨g, off, ha, hg, hc⟩
  · exact .inl h
  · exact .inr ⟨g, off, ha, hg, fun k hk => by rw [hc k hk, e k hk]⟩
theorem row_below {w w1 : World} {g n : Nat} {t : TypeId} {f : Nat → Value} (h : w.rowIs g t n f) (hb : Below w.heap.size w w1) : w1.rowIs g t n f := h.of_block (hb.block g h.lt)
/-- a new row of n numbers Z -/
def NewI (t : TypeId) (w : World) (n : Nat) (Z : Nat → Int) (e : Ending) (w' : World) : Prop :=
  ∃ g, e = .returned (.slice (some ⟨g, 0, none⟩) n n) ∧ w.heap.size ≤ g ∧ w'.rowIs g t n (fun k => .int .i64 (Z k)) ∧ Below w.heap.size w w'
theorem infoI : (Try.prog.info? 3).map (fun i => (i.zero, i.size, i.bytes)) = some (some (.int .i64 0), 1, 8) := by kernel_rfl

theorem szints_any (A : Option Addr) (n c : Nat) (l : Int) (w : World) (hn : n ≤ 9223372036854775807) (hl : 0 ≤ l ∧ l ≤ 1048576) :
    Calls Try.prog 31 #[.slice A n c, .int .i64 l] w fun e w' => e = .returned (.int .i64 (if l < n then -1 else l - n)) ∧ w = w' := by
  obtain ⟨l1, l2⟩ := hl
  by_cases h : l < n
  · rw [if_pos h]
    go_enter Try.func31, Try.ntmps31
    go_wp2
    go_ret
    exact ⟨rfl, rfl⟩
  · rw [if_neg h]
    go_enter Try.func31, Try.ntmps31
    go_wp2
    go_ret
    exact ⟨rfl, rfl⟩

set_option maxHeartbeats 1000000 in
theorem toints_any (A : Option Addr) (n c : Nat) (Z : Nat → Int) (w : World) (hn : n ≤ 1048576) (h : Ints w A n Z) :
    Calls Try.prog 24 #[.slice A n c] w (NewI 3 w n Z) := by
  have hmk := run_make_row' (P := Try.prog) 38 3 (.int .i64 0) 8 Try.underlying38 infoI rfl .i64 .i64 n (by omega) (by omega)
  have hrow := World.rowIs_made w (.int .i64 0) n 3
  have hb0 : Below w.heap.size w (w.alloc (.cells (madeCells #[.int .i64 0] n) 3)) := bal (Below.refl _ _) _
  go_enter Try.func24, Try.ntmps24
  go_wp2
  clear hmk
  go_loopw [4] (fun i wr => ∃ k : Nat, k ≤ n ∧ i = .int .i64 k ∧ Below w.heap.size w wr ∧ wr.rowIs w.heap.size 3 n (fun j => if j < k then .int .i64 (Z j) else .int .i64 0)) (fun i _ => n - (intOf i).toNat)
  case atStart => exact ⟨0, Nat.zero_le _, rfl, hb0, hrow.congr fun i hi => by simp⟩
  case round =>
    obtain ⟨k, hk, rfl, hb, hr⟩ := hrel
    clear hrow hb0
    by_cases hlt : k < n
    · rcases h with h0 | ⟨g, off, rfl, hg, hcell⟩
      · omega
      · have c1 : wr.cell? ⟨g, off + k, none⟩ = some (.int .i64 (Z k)) := (hb.cell (p := ⟨g, off + k, none⟩) hg).trans (hcell k hlt)
        have c2 : wr.cell? ⟨w.heap.size, k, none⟩ = some (.int .i64 0) := by rw [hr.cell hlt]; simp
        have c3 : wr.frozen? ⟨w.heap.size, k, none⟩ = false := hr.frozen k
        clear hcell
        go_wp2
        go_roundw
        case rel =>
          refine ⟨k + 1, by omega, by go_num, bst hb (Nat.le_refl _) _, (hr.set k _).congr fun j hj => ?_⟩
          by_cases e : j = k
          · subst e; simp
          · simp only [if_neg e]
            by_cases e2 : j < k
            · rw [if_pos e2, if_pos (by omega)]
            · rw [if_neg e2, if_neg (by omega)]
        case measure => simp [intOf]; omega
    · have hke : k = n := by omega
      subst hke
      go_wp2
      go_ret
      exact ⟨_, rfl, Nat.le_refl _, hr.congr (fun j hj => by rw [if_pos hj]), hb⟩

set_option maxHeartbeats 1000000 in
theorem eqints_any (A B : Option Addr) (n m c d : Nat) (Z Y : Nat → Int) (w : World) (hn : n ≤ 9223372036854775807) (hm : m ≤ 9223372036854775807) (hA : Ints w A n Z) (hB : Ints w B m Y) :
    Calls Try.prog 26 #[.slice A n c, .slice B m d] w fun e w' => e = .returned (.bool (eqI n Z m Y)) ∧ Below w.heap.size w w' := by
  by_cases hnm : n = m
  · subst hnm
    generalize hr : eqI n Z n Y = res
    have HR := hid hr; clear hr
    go_enter Try.func26, Try.ntmps26
    go_wp2
    go_loopw [5] (fun i wr => ∃ k : Nat, k ≤ n ∧ i = .int .i64 k ∧ Below w.heap.size w wr ∧ ∀ j, j < k → Z j = Y j) (fun i _ => n - (intOf i).toNat)
    case atStart => exact ⟨0, Nat.zero_le _, rfl, Below.refl _ _, fun j hj => by omega⟩
    case round =>
      obtain ⟨k, hk, rfl, hb, he⟩ := hrel
      have HE := hid he; clear he
      by_cases hlt : k < n
      · rcases hA with h0 | ⟨g, off, rfl, hg, hcA⟩
        · omega
        rcases hB with h0 | ⟨g2, off2, rfl, hg2, hcB⟩
        · omega
        have c1 : wr.cell? ⟨g, off + k, none⟩ = some (.int .i64 (Z k)) := (hb.cell (p := ⟨g, off + k, none⟩) hg).trans (hcA k hlt)
        have c2 : wr.cell? ⟨g2, off2 + k, none⟩ = some (.int .i64 (Y k)) := (hb.cell (p := ⟨g2, off2 + k, none⟩) hg2).trans (hcB k hlt)
        clear hcA hcB
        by_cases heq : Z k = Y k
        · have e1 : (Z k == Y k) = true := by simpa using heq
          have e2 : (Z k != Y k) = false := by simpa using heq
          have HQ := hid heq; clear heq
          go_wp2
          go_region
          all_goals
            go_wp2
            go_roundw
            case rel =>
              refine ⟨k + 1, by omega, by go_num, hb.drew, fun j hj => ?_⟩
              by_cases e : j = k
              · subst e; exact HQ.out
              · exact HE.out j (by omega)
            case measure => simp [intOf]; omega
        · have e1 : (Z k == Y k) = false := by simpa using heq
          have e2 : (Z k != Y k) = true := by simpa using heq
          have HF := hid (eqI_at (m := n) hlt heq); clear heq
          go_wp2
          go_region
          all_goals
            go_wp2
            go_ret
            exact ⟨ret_bool (by rw [← HR.out, HF.out]), hb.drew⟩
      · have hke : k = n := by omega
        subst hke
        have HT := hid (eqI_iff.2 ⟨rfl, HE.out⟩)
        go_wp2
        go_ret
        exact ⟨ret_bool (by rw [← HR.out, HT.out]), hb⟩
  · rw [eqI_len hnm]
    have e1 : ((n : Int) == m) = false := by simp; omega
    have e2 : ((n : Int) != m) = true := by simp; omega
    go_enter Try.func26, Try.ntmps26
    go_wp2
    go_ret
    exact ⟨rfl, Below.refl _ _⟩
end Go.Proofs.Ytjnngijilkdhbaa

namespace Go.Proofs.Ytjnngijilkdhbaa
set_option linter.unusedVariables false
set_option linter.unusedSimpArgs false
open Go.RowKit
def rngB (c0 c1 c2 c3 b : Int) : Bool := inC c0 && inC c1 && inC c2 && inC c3 && inC b
def refB (b : Int) (s : Bool) : Bool := decide (b < 0) || (decide (b = 0) && s)
theorem mul_bd6 {x y : Int} (hx : -1000000 ≤ x ∧ x ≤ 1000000) (hy : -1000000 ≤ y ∧ y ≤ 1000000) : -1000000000000 ≤ x * y ∧ x * y ≤ 1000000000000 := by
  have := mul_bd 1000000 1000000 hx hy; omega
end Go.Proofs.Ytjnngijilkdhbaa

namespace Go.Proofs.Ytjnngijilkdhbaa
set_option linter.unusedVariables false
set_option linter.unusedSimpArgs false
open Go.RowKit
end Go.Proofs.Ytjnngijilkdhbaa

namespace Go.Proofs.Ytjnngijilkdhbaa
set_option linter.unusedVariables false
set_option linter.unusedSimpArgs false
open Go.RowKit
end Go.Proofs.Ytjnngijilkdhbaa

namespace Go.Proofs.Ytjnngijilkdhbaa
set_option linter.unusedVariables false
set_option linter.unusedSimpArgs false
open Go.RowKit
end Go.Proofs.Ytjnngijilkdhbaa

namespace Go.Proofs.Ytjnngijilkdhbaa
set_option linter.unusedVariables false
set_option linter.unusedSimpArgs false
open Go.RowKit
theorem rng_ok (Z : Nat → Int) (b : Int) : rngB (Z 0) (Z 1) (Z 2) (Z 3) b = okL 4 Z b := by
  unfold rngB
  cases e : okL 4 Z b
  · cases h : (inC (Z 0) && inC (Z 1) && inC (Z 2) && inC (Z 3) && inC b)
    · rfl
    · simp only [Bool.and_eq_true] at h
      obtain ⟨⟨⟨⟨h0, h1⟩, h2⟩, h3⟩, h4⟩ := h
      rw [okL_iff.2 ⟨rfl, fun k hk => by have : k = 0 ∨ k = 1 ∨ k = 2 ∨ k = 3 := by omega
                                         rcases this with rfl | rfl | rfl | rfl <;> assumption, h4⟩] at e
      cases e
  · obtain ⟨_, h1, h2⟩ := okL_iff.1 e
    rw [h1 0 (by omega), h1 1 (by omega), h1 2 (by omega), h1 3 (by omega), h2]; rfl
/-- at a row that reads as Z: the numbers, and whether it is valid -/
def wideV (n : Nat) (Z : Nat → Int) (b : Int) (s : Bool) : Array Value := if n = 4 then #[.int .i64 (Z 0), .int .i64 (Z 1), .int .i64 (Z 2), .int .i64 (Z 3), .int .i64 b, .bool s] else #[.int .i64 0, .int .i64 0, .int .i64 0, .int .i64 0, .int .i64 0, .bool false]
theorem wide_v4 {n : Nat} {Z : Nat → Int} {b : Int} {s : Bool} (h : okL n Z b = true) : wideV n Z b s = #[.int .i64 (Z 0), .int .i64 (Z 1), .int .i64 (Z 2), .int .i64 (Z 3), .int .i64 b, .bool s] := by
  unfold wideV; rw [if_pos (okL_iff.1 h).1]
theorem wideV_six (n : Nat) (Z : Nat → Int) (b : Int) (s : Bool) : ∃ x0 x1 x2 x3 x4 : Int, ∃ u : Bool, wideV n Z b s = #[.int .i64 x0, .int .i64 x1, .int .i64 x2, .int .i64 x3, .int .i64 x4, .bool u] := by
  unfold wideV; by_cases h : n = 4
  · rw [if_pos h]; exact ⟨_, _, _, _, _, _, rfl⟩
  · rw [if_neg h]; exact ⟨_, _, _, _, _, _, rfl⟩
end Go.Proofs.Ytjnngijilkdhbaa

namespace Go.Proofs.Ytjnngijilkdhbaa
set_option linter.unusedVariables false
set_option linter.unusedSimpArgs false
open Go.RowKit
/-- a row of n numbers in a block that is new since W -/
def OwnI (W w' : World) (A : Option Addr) (n : Nat) (Z : Nat → Int) : Prop :=
  n = 0 ∨ ∃ g, A = some ⟨g, 0, none⟩ ∧ W.heap.size ≤ g ∧ g < w'.heap.size ∧ ∀ k, k < n → w'.cell? ⟨g, k, none⟩ = some (.int .i64 (Z k)) ∧ w'.frozen? ⟨g, k, none⟩ = false
/-- a constraint: how many coefficients, which, the bound, strict -/
abbrev LinR := Nat × (Nat → Int) × Int × Bool
def zeroL : LinR := (0, fun _ => 0, 0, false)
/-- a value that reads as a constraint of new memory -/
def NewL (W : World) (r : LinR) (v : Value) (w' : World) : Prop :=
  ∃ A c, v = .agg #[.slice A r.1 c, .int .i64 r.2.2.1, .bool r.2.2.2] ∧ r.1 ≤ c ∧ c ≤ 9223372036854775807 ∧ OwnI W w' A r.1 r.2.1
theorem NewL.zero (W w' : World) : NewL W zeroL (.agg #[.slice none 0 0, .int .i64 0, .bool false]) w' := ⟨none, 0, rfl, Nat.le_refl _, by omega, .inl rfl⟩
def row4 (a b c d : Int) : Nat → Int := fun k => if k = 0 then a else if k = 1 then b else if k = 2 then c else d
theorem lt4 {k : Nat} (h : k < 4) : k = 0 ∨ k = 1 ∨ k = 2 ∨ k = 3 := by omega
def narR (c0 c1 c2 c3 b : Int) (s : Bool) : LinR := if rngB c0 c1 c2 c3 b = true then (4, row4 c0 c1 c2 c3, b, s) else zeroL
def NarP (w : World) (c0 c1 c2 c3 b : Int) (s : Bool) (e : Ending) (w' : World) : Prop :=
  ∃ v, e = .returned (.tuple #[v, .bool (rngB c0 c1 c2 c3 b)]) ∧ NewL w (narR c0 c1 c2 c3 b s) v w' ∧ Below w.heap.size w w'
theorem mk4 (w : World) : (Instr.makeSlice 38 (.int .i64 4) (.int .i64 4)).run Try.prog w = .ok (.slice (some ⟨w.heap.size, 0, none⟩) 4 4) (w.alloc (.cells #[.int .i64 0, .int .i64 0, .int .i64 0, .int .i64 0] 3)) := by kernel_rfl
theorem nar_no {c0 c1 c2 c3 b : Int} {s : Bool} {w w' : World} (h : rngB c0 c1 c2 c3 b = false) (hb : Below w.heap.size w w') : NarP w c0 c1 c2 c3 b s (.returned (.tuple #[.agg #[.slice none 0 0, .int .i64 0, .bool false], .bool false])) w' :=
  ⟨_, by rw [h], by unfold narR; rw [h, if_neg (by simp)]; exact NewL.zero _ _, hb⟩
theorem nar_yes {c0 c1 c2 c3 b : Int} {s : Bool} {w w' : World} {g : Nat} (h : rngB c0 c1 c2 c3 b = true) (hg : w.heap.size ≤ g) (hg' : g < w'.heap.size) (k0 : w'.cell? ⟨g, 0, none⟩ = some (.int .i64 c0)) (k1 : w'.cell? ⟨g, 1, none⟩ = some (.int .i64 c1)) (k2 : w'.cell? ⟨g, 2, none⟩ = some (.int .i64 c2)) (k3 : w'.cell? ⟨g, 3, none⟩ = some (.int .i64 c3))
    (hf : ∀ k, w'.frozen? ⟨g, k, none⟩ = false) (hb : Below w.heap.size w w') : NarP w c0 c1 c2 c3 b s (.returned (.tuple #[.agg #[.slice (some ⟨g, 0, none⟩) 4 4, .int .i64 b, .bool s], .bool true])) w' := by
  refine ⟨_, by rw [h], ?_, hb⟩
  unfold narR; rw [h, if_pos rfl]
  refine ⟨some ⟨g, 0, none⟩, 4, rfl, Nat.le_refl _, by omega, .inr ⟨g, rfl, hg, hg', fun k hk => ⟨?_, hf k⟩⟩⟩
  rcases lt4 hk with rfl | rfl | rfl | rfl <;> assumption
end Go.Proofs.Ytjnngijilkdhbaa

namespace Go.Proofs.Ytjnngijilkdhbaa
set_option linter.unusedVariables false
set_option linter.unusedSimpArgs false
open Go.RowKit
def emptyB (Z : Nat → Int) : Bool := decide (Z 0 = 0 ∧ Z 1 = 0 ∧ Z 2 = 0 ∧ Z 3 = 0)
def badB (n : Nat) (Z : Nat → Int) (b : Int) (s : Bool) : Bool := okL n Z b && (emptyB Z && refB b s)
def freeB (n : Nat) (Z : Nat → Int) (b : Int) (s : Bool) : Bool := okL n Z b && (emptyB Z && !refB b s)
def notR (n : Nat) (Z : Nat → Int) (b : Int) (s : Bool) : LinR := if okL n Z b = true then (4, fun k => -Z k, -b, !s) else zeroL
def NotP (w : World) (r : LinR) (e : Ending) (w' : World) : Prop := ∃ v, e = .returned v ∧ NewL w r v w' ∧ Below w.heap.size w w'
theorem inC_bd {n : Int} (h : inC n = true) : -1000000 ≤ n ∧ n ≤ 1000000 := inC_iff.1 h
theorem okL_bd4 {n : Nat} {Z : Nat → Int} {b : Int} (h : okL n Z b = true) : (-1000000 ≤ Z 0 ∧ Z 0 ≤ 1000000) ∧ (-1000000 ≤ Z 1 ∧ Z 1 ≤ 1000000) ∧ (-1000000 ≤ Z 2 ∧ Z 2 ≤ 1000000) ∧ (-1000000 ≤ Z 3 ∧ Z 3 ≤ 1000000) ∧ (-1000000 ≤ b ∧ b ≤ 1000000) := by
  obtain ⟨rfl, h1, h2⟩ := okL_iff.1 h
  exact ⟨inC_iff.1 (h1 0 (by omega)), inC_iff.1 (h1 1 (by omega)), inC_iff.1 (h1 2 (by omega)), inC_iff.1 (h1 3 (by omega)), inC_iff.1 h2⟩
theorem NewL.congr {W w' : World} {m : Nat} {Y Z : Nat → Int} {b : Int} {s : Bool} {v : Value} (h : NewL W (m, Y, b, s) v w') (e : ∀ k, k < m → Y k = Z k) : NewL W (m, Z, b, s) v w' := by
  obtain ⟨A, c, hv, h1, h2, h3⟩ := h
  refine ⟨A, c, hv, h1, h2, ?_⟩
  rcases h3 with h3 | ⟨g, ha, hg, hg', hc⟩
  · exact .inl h3
  · exact .inr ⟨g, ha, hg, hg', fun k hk => ⟨(hc k hk).1.trans (by show some (Value.int .i64 (Y k)) = _; rw [e k hk]), (hc k hk).2⟩⟩
/-- what was new since an older world -/
theorem OwnI.old {W W1 w' : World} {A : Option Addr} {n : Nat} {Z : Nat → Int} (hb : W.heap.size ≤ W1.heap.size) (h : OwnI W1 w' A n Z) : OwnI W w' A n Z := by
  rcases h with h | ⟨g, ha, hg, hg', hc⟩
  · exact .inl h
  · exact .inr ⟨g, ha, Nat.le_trans hb hg, hg', hc⟩
theorem OwnI.below {W w w' : World} {A : Option Addr} {n : Nat} {Z : Nat → Int} (hb : Below w.heap.size w w') (h : OwnI W w A n Z) : OwnI W w' A n Z := by
  rcases h with h | ⟨g, ha, hg, hg', hc⟩
  · exact .inl h
  · exact .inr ⟨g, ha, hg, Nat.lt_of_lt_of_le hg' hb.size, fun k hk => ⟨(hb.cell (p := ⟨g, k, none⟩) hg').trans (hc k hk).1, (hb.frozen (p := ⟨g, k, none⟩) hg').trans (hc k hk).2⟩⟩
theorem OwnI.set {W w : World} {A : Option Addr} {n : Nat} {Z : Nat → Int} {p o : Nat} (v : Value) (hp : p < W.heap.size) (h : OwnI W w A n Z) : OwnI W (w.setCell ⟨p, o, none⟩ v) A n Z := by
  rcases h with h | ⟨g, ha, hg, hg', hc⟩
  · exact .inl h
  · refine .inr ⟨g, ha, hg, by simpa [World.setCell] using hg', fun k hk => ⟨?_, ?_⟩⟩
    · rw [World.cell?_setCell_other _ _ _ _ (by simp <;> omega)]; exact (hc k hk).1
    · simpa [go_sem] using (hc k hk).2
theorem OwnI.ints {W w' : World} {A : Option Addr} {n : Nat} {Z : Nat → Int} (h : OwnI W w' A n Z) : Ints w' A n Z := by
  rcases h with h | ⟨g, ha, hg, hg', hc⟩
  · exact .inl h
  · exact .inr ⟨g, 0, ha, hg', fun k hk => by rw [Nat.zero_add]; exact (hc k hk).1⟩
theorem NewL.old {W W1 w' : World} {r : LinR} {v : Value} (hb : W.heap.size ≤ W1.heap.size) (h : NewL W1 r v w') : NewL W r v w' := by
  obtain ⟨A, c, hv, h1, h2, h3⟩ := h; exact ⟨A, c, hv, h1, h2, h3.old hb⟩
theorem NewL.below {W w w' : World} {r : LinR} {v : Value} (hb : Below w.heap.size w w') (h : NewL W r v w) : NewL W r v w' := by
  obtain ⟨A, c, hv, h1, h2, h3⟩ := h; exact ⟨A, c, hv, h1, h2, h3.below hb⟩
theorem NewL.set {W w : World} {r : LinR} {v : Value} {p o : Nat} (u : Value) (hp : p < W.heap.size) (h : NewL W r v w) : NewL W r v (w.setCell ⟨p, o, none⟩ u) := by
  obtain ⟨A, c, hv, h1, h2, h3⟩ := h; exact ⟨A, c, hv, h1, h2, h3.set u hp⟩
theorem own3 {W w : World} {A : Option Addr} {n : Nat} {Z : Nat → Int} {p : Nat} (x y z : Value) (o : Obj) (hp : p < W.heap.size) (h : OwnI W w A n Z) :
    OwnI W ((((w.setCell ⟨p, 0, none⟩ x).setCell ⟨p, 1, none⟩ y).setCell ⟨p, 2, none⟩ z).alloc o) A n Z :=
  (((h.set x hp).set y hp).set z hp).below ((Below.refl _ _).alloc (Nat.le_refl _) o)
theorem carryf {w w1 : World} {b o : Nat} {v : Bool} (hq : Below w.heap.size w w1) (h : w.frozen? ⟨b, o, none⟩ = v) (hb : b < w.heap.size) : w1.frozen? ⟨b, o, none⟩ = v :=
  (hq.frozen (p := ⟨b, o, none⟩) hb).trans h
theorem neg_rng {n : Nat} {Z : Nat → Int} {b : Int} (h : okL n Z b = true) : rngB (-Z 0) (-Z 1) (-Z 2) (-Z 3) (-b) = true := by
  obtain ⟨b0, b1, b2, b3, b4⟩ := okL_bd4 h
  unfold rngB
  rw [inC_iff.2 (by omega), inC_iff.2 (by omega), inC_iff.2 (by omega), inC_iff.2 (by omega), inC_iff.2 (by omega)]; rfl
theorem not_p {w w' : World} {r : LinR} {v : Value} (h : NewL w r v w') (hb : Below w.heap.size w w') : NotP w r (.returned v) w' := ⟨v, rfl, h, hb⟩
end Go.Proofs.Ytjnngijilkdhbaa
