/- Several texts in one: SetN, LinA, LinB, LinC, LinD, LinE, LinF, LinG, LinH. -/
import Derived.Test.YtplocljoanaoeaaBase
import Derived.Test.YtplocljoanaoeaaBM
import Derived.Deep.OwnRows
import Derived.Test.YtplocljoanaoeaaBT
import Derived.LoopN
namespace Go.Proofs.Ytplocljoanaoeaa
set_option linter.unusedVariables false
set_option linter.unusedSimpArgs false
open Go.RowKit
theorem set3 {w1 : World} {b : Nat} {u0 u1 u2 : Value} (h0 : w1.cell? ⟨b, 0, none⟩ = some u0) (h1 : w1.cell? ⟨b, 1, none⟩ = some u1) (h2 : w1.cell? ⟨b, 2, none⟩ = some u2) (x0 x1 x2 : Value) :
    (((w1.setCell ⟨b, 0, none⟩ x0).setCell ⟨b, 1, none⟩ x1).setCell ⟨b, 2, none⟩ x2).cell? ⟨b, 0, none⟩ = some x0 ∧ (((w1.setCell ⟨b, 0, none⟩ x0).setCell ⟨b, 1, none⟩ x1).setCell ⟨b, 2, none⟩ x2).cell? ⟨b, 1, none⟩ = some x1 ∧ (((w1.setCell ⟨b, 0, none⟩ x0).setCell ⟨b, 1, none⟩ x1).setCell ⟨b, 2, none⟩ x2).cell? ⟨b, 2, none⟩ = some x2 := by
  have k : ∀ (w : World) (p q : Nat) (x : Value), p ≠ q → (w.setCell ⟨b, p, none⟩ x).cell? ⟨b, q, none⟩ = w.cell? ⟨b, q, none⟩ := fun w p q x h => World.cell?_setCell_other _ _ _ _ (by simp [h])
  refine ⟨?_, ?_, ?_⟩
  · rw [k _ 2 0 _ (by decide), k _ 1 0 _ (by decide)]; exact World.cell?_setCell_same _ _ _ (h0)
  · rw [k _ 2 1 _ (by decide)]; exact World.cell?_setCell_same _ _ _ (by rw [k _ 0 1 _ (by decide)]; exact h1)
  · exact World.cell?_setCell_same _ _ _ (by rw [k _ 1 2 _ (by decide), k _ 0 2 _ (by decide)]; exact h2)
theorem set4 {w1 : World} {b : Nat} {u0 u1 u2 u3 : Value} (h0 : w1.cell? ⟨b, 0, none⟩ = some u0) (h1 : w1.cell? ⟨b, 1, none⟩ = some u1) (h2 : w1.cell? ⟨b, 2, none⟩ = some u2) (h3 : w1.cell? ⟨b, 3, none⟩ = some u3) (x0 x1 x2 x3 : Value) :
    ((((w1.setCell ⟨b, 0, none⟩ x0).setCell ⟨b, 1, none⟩ x1).setCell ⟨b, 2, none⟩ x2).setCell ⟨b, 3, none⟩ x3).cell? ⟨b, 0, none⟩ = some x0 ∧ ((((w1.setCell ⟨b, 0, none⟩ x0).setCell ⟨b, 1, none⟩ x1).setCell ⟨b, 2, none⟩ x2).setCell ⟨b, 3, none⟩ x3).cell? ⟨b, 1, none⟩ = some x1 ∧ ((((w1.setCell ⟨b, 0, none⟩ x0).setCell ⟨b, 1, none⟩ x1).setCell ⟨b, 2, none⟩ x2).setCell ⟨b, 3, none⟩ x3).cell? ⟨b, 2, none⟩ = some x2 ∧ ((((w1.setCell ⟨b, 0, none⟩ x0).setCell ⟨b, 1, none⟩ x1).setCell ⟨b, 2, none⟩ x2).setCell ⟨b, 3, none⟩ x3).cell? ⟨b, 3, none⟩ = some x3 := by
  have k : ∀ (w : World) (p q : Nat) (x : Value), p ≠ q → (w.setCell ⟨b, p, none⟩ x).cell? ⟨b, q, none⟩ = w.cell? ⟨b, q, none⟩ := fun w p q x h => World.cell?_setCell_other _ _ _ _ (by simp [h])
  refine ⟨?_, ?_, ?_, ?_⟩
  · rw [k _ 3 0 _ (by decide), k _ 2 0 _ (by decide), k _ 1 0 _ (by decide)]; exact World.cell?_setCell_same _ _ _ (h0)
  · rw [k _ 3 1 _ (by decide), k _ 2 1 _ (by decide)]; exact World.cell?_setCell_same _ _ _ (by rw [k _ 0 1 _ (by decide)]; exact h1)
  · rw [k _ 3 2 _ (by decide)]; exact World.cell?_setCell_same _ _ _ (by rw [k _ 1 2 _ (by decide), k _ 0 2 _ (by decide)]; exact h2)
  · exact World.cell?_setCell_same _ _ _ (by rw [k _ 2 3 _ (by decide), k _ 1 3 _ (by decide), k _ 0 3 _ (by decide)]; exact h3)
theorem set6 {w1 : World} {b : Nat} {u0 u1 u2 u3 u4 u5 : Value} (h0 : w1.cell? ⟨b, 0, none⟩ = some u0) (h1 : w1.cell? ⟨b, 1, none⟩ = some u1) (h2 : w1.cell? ⟨b, 2, none⟩ = some u2) (h3 : w1.cell? ⟨b, 3, none⟩ = some u3) (h4 : w1.cell? ⟨b, 4, none⟩ = some u4) (h5 : w1.cell? ⟨b, 5, none⟩ = some u5) (x0 x1 x2 x3 x4 x5 : Value) :
    ((((((w1.setCell ⟨b, 0, none⟩ x0).setCell ⟨b, 1, none⟩ x1).setCell ⟨b, 2, none⟩ x2).setCell ⟨b, 3, none⟩ x3).setCell ⟨b, 4, none⟩ x4).setCell ⟨b, 5, none⟩ x5).cell? ⟨b, 0, none⟩ = some x0 ∧ ((((((w1.setCell ⟨b, 0, none⟩ x0).setCell ⟨b, 1, none⟩ x1).setCell ⟨b, 2, none⟩ x2).setCell ⟨b, 3, none⟩ x3).setCell ⟨b, 4, none⟩ x4).setCell ⟨b, 5, none⟩ x5).cell? ⟨b, 1, none⟩ = some x1 ∧ ((((((w1.setCell ⟨b, 0, none⟩ x0).setCell ⟨b, 1, none⟩ x1).setCell ⟨b, 2, none⟩ x2).setCell ⟨b, 3, none⟩ x3).setCell ⟨b, 4, none⟩ x4).setCell ⟨b, 5, none⟩ x5).cell? ⟨b, 2, none⟩ = some x2 ∧ ((((((w1.setCell ⟨b, 0, none⟩ x0).setCell ⟨b, 1, none⟩ x1).setCell ⟨b, 2, none⟩ x2).setCell ⟨b, 3, none⟩ x3).setCell ⟨b, 4, none⟩ x4).setCell ⟨b, 5, none⟩ x5).cell? ⟨b, 3, none⟩ = some x3 ∧ ((((((w1.setCell ⟨b, 0, none⟩ x0).setCell ⟨b, 1, none⟩ x1).setCell ⟨b, 2, none⟩ x2).setCell ⟨b, 3, none⟩ x3).setCell ⟨b, 4, none⟩ x4).setCell ⟨b, 5, none⟩ x5).cell? ⟨b, 4, none⟩ = some x4 ∧ ((((((w1.setCell ⟨b, 0, none⟩ x0).setCell ⟨b, 1, none⟩ x1).setCell ⟨b, 2, none⟩ x2).setCell ⟨b, 3, none⟩ x3).setCell ⟨b, 4, none⟩ x4).setCell ⟨b, 5, none⟩ x5).cell? ⟨b, 5, none⟩ = some x5 := by
  have k : ∀ (w : World) (p q : Nat) (x : Value), p ≠ q → (w.setCell ⟨b, p, none⟩ x).cell? ⟨b, q, none⟩ = w.cell? ⟨b, q, none⟩ := fun w p q x h => World.cell?_setCell_other _ _ _ _ (by simp [h])
  refine ⟨?_, ?_, ?_, ?_, ?_, ?_⟩
  · rw [k _ 5 0 _ (by decide), k _ 4 0 _ (by decide), k _ 3 0 _ (by decide), k _ 2 0 _ (by decide), k _ 1 0 _ (by decide)]; exact World.cell?_setCell_same _ _ _ (h0)
  · rw [k _ 5 1 _ (by decide), k _ 4 1 _ (by decide), k _ 3 1 _ (by decide), k _ 2 1 _ (by decide)]; exact World.cell?_setCell_same _ _ _ (by rw [k _ 0 1 _ (by decide)]; exact h1)
  · rw [k _ 5 2 _ (by decide), k _ 4 2 _ (by decide), k _ 3 2 _ (by decide)]; exact World.cell?_setCell_same _ _ _ (by rw [k _ 1 2 _ (by decide), k _ 0 2 _ (by decide)]; exact h2)
  · rw [k _ 5 3 _ (by decide), k _ 4 3 _ (by decide)]; exact World.cell?_setCell_same _ _ _ (by rw [k _ 2 3 _ (by decide), k _ 1 3 _ (by decide), k _ 0 3 _ (by decide)]; exact h3)
  · rw [k _ 5 4 _ (by decide)]; exact World.cell?_setCell_same _ _ _ (by rw [k _ 3 4 _ (by decide), k _ 2 4 _ (by decide), k _ 1 4 _ (by decide), k _ 0 4 _ (by decide)]; exact h4)
  · exact World.cell?_setCell_same _ _ _ (by rw [k _ 4 5 _ (by decide), k _ 3 5 _ (by decide), k _ 2 5 _ (by decide), k _ 1 5 _ (by decide), k _ 0 5 _ (by decide)]; exact h5)
theorem far3 {w : World} {b o p : Nat} {u : Value} (x y z : Value) (hp : p ≠ b) (h : w.cell? ⟨b, o, none⟩ = some u) : (((w.setCell ⟨p, 0, none⟩ x).setCell ⟨p, 1, none⟩ y).setCell ⟨p, 2, none⟩ z).cell? ⟨b, o, none⟩ = some u := by
  rw [World.cell?_setCell_other _ _ _ _ (by simp <;> omega), World.cell?_setCell_other _ _ _ _ (by simp <;> omega), World.cell?_setCell_other _ _ _ _ (by simp <;> omega)]; exact h
/-- the listed cells stand in w -/
def KcL : List (Nat × Nat × Value) → World → Prop
  | [], _ => True
  | e :: l, w => w.cell? ⟨e.1, e.2.1, none⟩ = some e.2.2 ∧ KcL l w
theorem KcL.below {w w' : World} (hb : Below w.heap.size w w') : ∀ {L : List (Nat × Nat × Value)}, KcL L w → KcL L w'
  | [], _ => trivial
  | _ :: _, ⟨h, t⟩ => ⟨carry hb h, KcL.below hb t⟩
theorem KcL.app {w : World} : ∀ {L M : List (Nat × Nat × Value)}, KcL L w → KcL M w → KcL (L ++ M) w
  | [], _, _, m => m
  | _ :: _, _, ⟨h, t⟩, m => ⟨h, KcL.app t m⟩
/-- the cells of a new block of three -/
theorem KcL.new3 (w : World) (x y z : Value) (t : TypeId) {n : Nat} (hn : w.heap.size = n) : KcL [(n, 0, x), (n, 1, y), (n, 2, z)] (w.alloc (.cells #[x, y, z] t)) := by
  subst hn
  refine ⟨?_, ?_, ?_, trivial⟩ <;> simp [go_sem]
theorem KcL.alloc {w : World} {L : List (Nat × Nat × Value)} (h : KcL L w) (o : Obj) : KcL L (w.alloc o) := h.below ((Below.refl _ _).alloc (Nat.le_refl _) o)
end Go.Proofs.Ytplocljoanaoeaa

namespace Go.Proofs.Ytplocljoanaoeaa
set_option linter.unusedVariables false
set_option linter.unusedSimpArgs false
open Go.RowKit
/-- the slice of n elements at A reads as the numbers Z -/
def Ints (w : World) (A : Option Addr) (n : Nat) (Z : Nat → Int) : Prop :=
  n = 0 ∨ ∃ g off, A = some ⟨g, off, none⟩ ∧ g < w.heap.size ∧ ∀ k, k < n → w.cell? ⟨g, off + k, none⟩ = some (.int .i64 (Z k))
theorem Ints.below {w w1 : World} {A : Option Addr} {n : Nat} {Z : Nat → Int} (h : Ints w A n Z) (hb : Below w.heap.size w w1) : Ints w1 A n Z := by
  rcases h with h | ⟨g, off, ha, hg, hc⟩
  · exact .inl h
  · exact .inr ⟨g, off, ha, Nat.lt_of_lt_of_le hg hb.size, fun k hk => (hb.cell (p := ⟨g, off + k, none⟩) hg).trans (hc k hk)⟩
theorem Ints.of_row {w : World} {g n : Nat} {t : TypeId} {Z : Nat → Int} (h : w.rowIs g t n (fun k => .int .i64 (Z k))) : Ints w (some ⟨g, 0, none⟩) n Z :=
  .inr ⟨g, 0, rfl, h.lt, fun k hk => by rw [Nat.zero_add]; exact h.cell hk⟩
theorem Ints.congr {w : World} {A : Option Addr} {n : Nat} {Z Y : Nat → Int} (h : Ints w A n Z) (e : ∀ k, k < n → Z k = Y k) : Ints w A n Y := by
  rcases h with h | ⟨g, off, ha, hg, hc⟩
  · exact .inl h
  · exact .inr ⟨g, off, ha, hg, fun k hk => by rw [hc k hk, e k hk]⟩
theorem row_below {w w1 : World} {g n : Nat} {t : TypeId} {f : Nat → Value} (h : w.rowIs g t n f) (hb : Below w.heap.size w w1) : w1.rowIs g t n f := h.of_block (hb.block g h.lt)
/-- a new row of n numbers Z -/
def NewI (t : TypeId) (w : World) (n : Nat) (Z : Nat → Int) (e : Ending) (w' : World) : Prop :=
  ∃ g, e = .returned (.slice (some ⟨g, 0, none⟩) n n) ∧ w.heap.size ≤ g ∧ w'.rowIs g t n (fun k => .int .i64 (Z k)) ∧ Below w.heap.size w w'
theorem infoI : (Try.prog.info? 3).map (fun i => (i.zero, i.size, i.bytes)) = some (some (.int .i64 0), 1, 8) := by kernel_rfl

end Go.Proofs.Ytplocljoanaoeaa

namespace Go.Proofs.Ytplocljoanaoeaa
set_option linter.unusedVariables false
set_option linter.unusedSimpArgs false
open Go.RowKit
theorem coefrange_any (n : Int) (w : World) :
    Calls Try.prog 103 #[.int .i64 n] w fun e w' => e = .returned (.bool (inC n)) ∧ w' = w := by
  by_cases h : -1000000 ≤ n
  · by_cases h2 : n ≤ 1000000
    · go_enter Try.func103, Try.ntmps103
      go_wp2
      go_ret
      exact ⟨ret_bool (by simp [inC]; omega), rfl⟩
    · go_enter Try.func103, Try.ntmps103
      go_wp2
      go_ret
      exact ⟨ret_bool (by simp [inC]; omega), rfl⟩
  · go_enter Try.func103, Try.ntmps103
    go_wp2
    go_ret
    exact ⟨ret_bool (by simp [inC]; omega), rfl⟩
theorem mult_any (n : Int) (w : World) :
    Calls Try.prog 72 #[.int .i64 n] w fun e w' => e = .returned (.bool (decide (0 ≤ n ∧ n ≤ 1000000))) ∧ w' = w := by
  by_cases h : 0 ≤ n
  · by_cases h2 : n ≤ 1000000
    · go_enter Try.func72, Try.ntmps72
      go_wp2
      go_ret
      exact ⟨ret_bool (by simp; omega), rfl⟩
    · go_enter Try.func72, Try.ntmps72
      go_wp2
      go_ret
      exact ⟨ret_bool (by simp; omega), rfl⟩
  · go_enter Try.func72, Try.ntmps72
    go_wp2
    go_ret
    exact ⟨ret_bool (by simp; omega), rfl⟩
theorem coefrange_at (n : Int) (w : World) {v : Bool} (h : inC n = v) :
    Calls Try.prog 103 #[.int .i64 n] w fun e w' => e = .returned (.bool v) ∧ w' = w := by subst h; exact coefrange_any n w
theorem idx0 (x0 x1 x2 x3 : Value) (w : World) : (Instr.index 72 (.agg #[x0, x1, x2, x3]) (.int .i64 0)).run Try.prog w = .ok x0 w := by kernel_rfl
theorem idx1 (x0 x1 x2 x3 : Value) (w : World) : (Instr.index 72 (.agg #[x0, x1, x2, x3]) (.int .i64 1)).run Try.prog w = .ok x1 w := by kernel_rfl
theorem idx2 (x0 x1 x2 x3 : Value) (w : World) : (Instr.index 72 (.agg #[x0, x1, x2, x3]) (.int .i64 2)).run Try.prog w = .ok x2 w := by kernel_rfl
theorem idx3 (x0 x1 x2 x3 : Value) (w : World) : (Instr.index 72 (.agg #[x0, x1, x2, x3]) (.int .i64 3)).run Try.prog w = .ok x3 w := by kernel_rfl
def rngB (c0 c1 c2 c3 b : Int) : Bool := inC c0 && inC c1 && inC c2 && inC c3 && inC b
set_option maxRecDepth 100000 in
set_option maxHeartbeats 1000000 in
theorem inrange_any (c0 c1 c2 c3 b : Int) (s : Bool) (w : World) :
    Calls Try.prog 77 #[.agg #[.int .i64 c0, .int .i64 c1, .int .i64 c2, .int .i64 c3, .int .i64 b, .bool s]] w fun e w' => e = .returned (.bool (rngB c0 c1 c2 c3 b)) ∧ Below w.heap.size w w' := by
  unfold rngB
  cases h0 : inC c0
  · have H0 := hid h0; clear h0
    have i0 := idx0
    have i1 := idx1
    have i2 := idx2
    have i3 := idx3
    go_enter Try.func77, Try.ntmps77
    go_wp2
    refine wp_loop_rounds 1 ?_
    rw [rounds_succ]
    go_wp2_with (go_at_call 103; refine (coefrange_at _ _ H0.out).mono ?_; rintro e w' ⟨rfl, rfl⟩)
    go_ret
    exact ⟨ret_bool (by simp), bal (Below.refl _ _) _⟩
  have H0 := hid h0; clear h0
  cases h1 : inC c1
  · have H1 := hid h1; clear h1
    have i0 := idx0
    have i1 := idx1
    have i2 := idx2
    have i3 := idx3
    go_enter Try.func77, Try.ntmps77
    go_wp2
    refine wp_loop_rounds 2 ?_
    rw [rounds_succ]
    go_wp2_with (go_at_call 103; refine (coefrange_at _ _ H0.out).mono ?_; rintro e w' ⟨rfl, rfl⟩)
    rw [rounds_succ]
    go_wp2_with (go_at_call 103; refine (coefrange_at _ _ H1.out).mono ?_; rintro e w' ⟨rfl, rfl⟩)
    go_ret
    exact ⟨ret_bool (by simp), bal (Below.refl _ _) _⟩
  have H1 := hid h1; clear h1
  cases h2 : inC c2
  · have H2 := hid h2; clear h2
    have i0 := idx0
    have i1 := idx1
    have i2 := idx2
    have i3 := idx3
    go_enter Try.func77, Try.ntmps77
    go_wp2
    refine wp_loop_rounds 3 ?_
    rw [rounds_succ]
    go_wp2_with (go_at_call 103; refine (coefrange_at _ _ H0.out).mono ?_; rintro e w' ⟨rfl, rfl⟩)
    rw [rounds_succ]
    go_wp2_with (go_at_call 103; refine (coefrange_at _ _ H1.out).mono ?_; rintro e w' ⟨rfl, rfl⟩)
    rw [rounds_succ]
    go_wp2_with (go_at_call 103; refine (coefrange_at _ _ H2.out).mono ?_; rintro e w' ⟨rfl, rfl⟩)
    go_ret
    exact ⟨ret_bool (by simp), bal (Below.refl _ _) _⟩
  have H2 := hid h2; clear h2
  cases h3 : inC c3
  · have H3 := hid h3; clear h3
    have i0 := idx0
    have i1 := idx1
    have i2 := idx2
    have i3 := idx3
    go_enter Try.func77, Try.ntmps77
    go_wp2
    refine wp_loop_rounds 4 ?_
    rw [rounds_succ]
    go_wp2_with (go_at_call 103; refine (coefrange_at _ _ H0.out).mono ?_; rintro e w' ⟨rfl, rfl⟩)
    rw [rounds_succ]
    go_wp2_with (go_at_call 103; refine (coefrange_at _ _ H1.out).mono ?_; rintro e w' ⟨rfl, rfl⟩)
    rw [rounds_succ]
    go_wp2_with (go_at_call 103; refine (coefrange_at _ _ H2.out).mono ?_; rintro e w' ⟨rfl, rfl⟩)
    rw [rounds_succ]
    go_wp2_with (go_at_call 103; refine (coefrange_at _ _ H3.out).mono ?_; rintro e w' ⟨rfl, rfl⟩)
    go_ret
    exact ⟨ret_bool (by simp), bal (Below.refl _ _) _⟩
  have H3 := hid h3; clear h3
  have i0 := idx0
  have i1 := idx1
  have i2 := idx2
  have i3 := idx3
  go_enter Try.func77, Try.ntmps77
  go_wp2
  refine wp_loop_rounds 5 ?_
  rw [rounds_succ]
  go_wp2_with (go_at_call 103; refine (coefrange_at _ _ H0.out).mono ?_; rintro e w' ⟨rfl, rfl⟩)
  rw [rounds_succ]
  go_wp2_with (go_at_call 103; refine (coefrange_at _ _ H1.out).mono ?_; rintro e w' ⟨rfl, rfl⟩)
  rw [rounds_succ]
  go_wp2_with (go_at_call 103; refine (coefrange_at _ _ H2.out).mono ?_; rintro e w' ⟨rfl, rfl⟩)
  rw [rounds_succ]
  go_wp2_with (go_at_call 103; refine (coefrange_at _ _ H3.out).mono ?_; rintro e w' ⟨rfl, rfl⟩)
  rw [rounds_succ]
  go_wp2_with (go_at_call 103; refine (coefrange_any _ _).mono ?_; rintro e w' ⟨rfl, rfl⟩)
  go_ret
  exact ⟨ret_bool (by simp), bal (Below.refl _ _) _⟩
set_option maxRecDepth 100000 in
theorem eqrow (x0 x1 x2 x3 y0 y1 y2 y3 : Int) (w : World) : (Op.equalIn 10000 72 (.agg #[.int .i64 x0, .int .i64 x1, .int .i64 x2, .int .i64 x3]) (.agg #[.int .i64 y0, .int .i64 y1, .int .i64 y2, .int .i64 y3])).run Try.prog w = .ok (decide (x0 = y0 ∧ x1 = y1 ∧ x2 = y2 ∧ x3 = y3)) w := by
  have u3 := Try.underlying2
  have a3 := Try.isAgg2
  have z3 := Try.sizeOf2
  rw [show (10000 : Nat) = 9999 + 1 from rfl, Op.equalIn]
  simp only [Sem.run_bind, run_underlying Try.underlying72, Result.andThen_ok]
  simp only [Std.Legacy.Range.forIn_eq_forIn_range', Std.Legacy.Range.size, Nat.sub_zero, Nat.add_sub_cancel, Nat.div_one, List.range'_succ, List.range'_zero, List.forIn_cons, List.forIn_nil]
  by_cases h0 : x0 = y0 <;> by_cases h1 : x1 = y1 <;> by_cases h2 : x2 = y2 <;> by_cases h3 : x3 = y3 <;> simp [go_sem, u3, a3, z3, h0, h1, h2, h3]
set_option maxRecDepth 100000 in
theorem zero_any (c0 c1 c2 c3 : Int) (w : World) :
    Calls Try.prog 60 #[.agg #[.int .i64 c0, .int .i64 c1, .int .i64 c2, .int .i64 c3]] w fun e w' => e = .returned (.bool (decide (c0 = 0 ∧ c1 = 0 ∧ c2 = 0 ∧ c3 = 0))) ∧ Below w.heap.size w w' := by
  have he := eqrow c0 c1 c2 c3 0 0 0 0
  go_enter Try.func60, Try.ntmps60
  go_wp2
  go_ret
  exact ⟨ret_bool (by simp), bal (Below.refl _ _) _⟩
def refB (b : Int) (s : Bool) : Bool := decide (b < 0) || (decide (b = 0) && s)
theorem refuses_any (c0 c1 c2 c3 b : Int) (s : Bool) (w : World) :
    Calls Try.prog 61 #[.agg #[.int .i64 c0, .int .i64 c1, .int .i64 c2, .int .i64 c3, .int .i64 b, .bool s]] w fun e w' => e = .returned (.bool (refB b s)) ∧ Below w.heap.size w w' := by
  by_cases h : b < 0
  · go_enter Try.func61, Try.ntmps61
    go_wp2
    go_ret
    exact ⟨ret_bool (by simp [refB, h]), bal (Below.refl _ _) _⟩
  · by_cases h0 : b = 0
    · subst h0
      go_enter Try.func61, Try.ntmps61
      go_wp2
      go_ret
      exact ⟨ret_bool (by simp [refB]), bal (Below.refl _ _) _⟩
    · have h0' : (b == 0) = false := by simpa using h0
      go_enter Try.func61, Try.ntmps61
      go_wp2
      go_ret
      exact ⟨ret_bool (by simp [refB, h, h0]), bal (Below.refl _ _) _⟩
theorem mul_bd6 {x y : Int} (hx : -1000000 ≤ x ∧ x ≤ 1000000) (hy : -1000000 ≤ y ∧ y ≤ 1000000) : -1000000000000 ≤ x * y ∧ x * y ≤ 1000000000000 := by
  have := mul_bd 1000000 1000000 hx hy; omega
set_option maxRecDepth 100000 in
set_option maxHeartbeats 1000000 in
theorem ctimes_any (c0 c1 c2 c3 m : Int) (w : World) (h0 : -1000000 ≤ c0 ∧ c0 ≤ 1000000) (h1 : -1000000 ≤ c1 ∧ c1 ≤ 1000000) (h2 : -1000000 ≤ c2 ∧ c2 ≤ 1000000) (h3 : -1000000 ≤ c3 ∧ c3 ≤ 1000000) (hm : -1000000 ≤ m ∧ m ≤ 1000000) :
    Calls Try.prog 101 #[.agg #[.int .i64 c0, .int .i64 c1, .int .i64 c2, .int .i64 c3], .int .i64 m] w fun e w' => e = .returned (.agg #[.int .i64 (c0 * m), .int .i64 (c1 * m), .int .i64 (c2 * m), .int .i64 (c3 * m)]) ∧ Below w.heap.size w w' := by
  obtain ⟨p0, q0⟩ := mul_bd6 h0 hm
  obtain ⟨p1, q1⟩ := mul_bd6 h1 hm
  obtain ⟨p2, q2⟩ := mul_bd6 h2 hm
  obtain ⟨p3, q3⟩ := mul_bd6 h3 hm
  go_enter Try.func101, Try.ntmps101
  go_wp2
  refine wp_loop_rounds 5 ?_
  rw [rounds_succ]
  go_wp2
  rw [rounds_succ]
  go_wp2
  rw [rounds_succ]
  go_wp2
  rw [rounds_succ]
  go_wp2
  rw [rounds_succ]
  go_wp2
  refine bodyPost_ret (v := .agg #[.int .i64 (c0 * m), .int .i64 (c1 * m), .int .i64 (c2 * m), .int .i64 (c3 * m)]) (by simp [results, Try.results101, go_sem]) rfl ⟨rfl, ?_⟩
  (repeat first | with_reducible exact Below.refl _ _ | with_reducible assumption | with_reducible refine Below.drew ?_ | with_reducible refine bdn ?_ _ | with_reducible refine bal ?_ _ | (with_reducible refine bst ?_ ?_ _; rotate_left; (simp <;> omega)) | (with_reducible refine btr ?_ (by with_reducible assumption)))
end Go.Proofs.Ytplocljoanaoeaa

namespace Go.Proofs.Ytplocljoanaoeaa
set_option linter.unusedVariables false
set_option linter.unusedSimpArgs false
open Go.RowKit
set_option maxRecDepth 100000 in
set_option maxHeartbeats 1000000 in
theorem cplus_any (c0 c1 c2 c3 d0 d1 d2 d3 : Int) (w : World) (h0 : -1000000000000 ≤ c0 ∧ c0 ≤ 1000000000000) (h1 : -1000000000000 ≤ c1 ∧ c1 ≤ 1000000000000) (h2 : -1000000000000 ≤ c2 ∧ c2 ≤ 1000000000000) (h3 : -1000000000000 ≤ c3 ∧ c3 ≤ 1000000000000)
    (k0 : -1000000000000 ≤ d0 ∧ d0 ≤ 1000000000000) (k1 : -1000000000000 ≤ d1 ∧ d1 ≤ 1000000000000) (k2 : -1000000000000 ≤ d2 ∧ d2 ≤ 1000000000000) (k3 : -1000000000000 ≤ d3 ∧ d3 ≤ 1000000000000) :
    Calls Try.prog 102 #[.agg #[.int .i64 c0, .int .i64 c1, .int .i64 c2, .int .i64 c3], .agg #[.int .i64 d0, .int .i64 d1, .int .i64 d2, .int .i64 d3]] w fun e w' => e = .returned (.agg #[.int .i64 (c0 + d0), .int .i64 (c1 + d1), .int .i64 (c2 + d2), .int .i64 (c3 + d3)]) ∧ Below w.heap.size w w' := by
  obtain ⟨p0, q0⟩ := h0
  obtain ⟨p1, q1⟩ := h1
  obtain ⟨p2, q2⟩ := h2
  obtain ⟨p3, q3⟩ := h3
  obtain ⟨r0, s0⟩ := k0
  obtain ⟨r1, s1⟩ := k1
  obtain ⟨r2, s2⟩ := k2
  obtain ⟨r3, s3⟩ := k3
  have sd := set_drewN
  go_enter Try.func102, Try.ntmps102
  go_wp2
  refine wp_loop_rounds 5 ?_
  rw [rounds_succ]
  go_wp2
  refine region_drew_tail 8 (by kernel_rfl) (by kernel_rfl) ?_; simp only [List.take_succ_cons, List.take_zero, List.drop_succ_cons, List.drop_zero]; (repeat (go_big_quiet_step (fail))); refine wpQuiet_nil ?_; intro nq
  go_wp2
  rw [rounds_succ]
  go_wp2
  refine region_drew_tail 8 (by kernel_rfl) (by kernel_rfl) ?_; simp only [List.take_succ_cons, List.take_zero, List.drop_succ_cons, List.drop_zero]; (repeat (go_big_quiet_step (fail))); refine wpQuiet_nil ?_; intro nq
  go_wp2
  rw [rounds_succ]
  go_wp2
  refine region_drew_tail 8 (by kernel_rfl) (by kernel_rfl) ?_; simp only [List.take_succ_cons, List.take_zero, List.drop_succ_cons, List.drop_zero]; (repeat (go_big_quiet_step (fail))); refine wpQuiet_nil ?_; intro nq
  go_wp2
  rw [rounds_succ]
  go_wp2
  refine region_drew_tail 8 (by kernel_rfl) (by kernel_rfl) ?_; simp only [List.take_succ_cons, List.take_zero, List.drop_succ_cons, List.drop_zero]; (repeat (go_big_quiet_step (fail))); refine wpQuiet_nil ?_; intro nq
  go_wp2
  rw [rounds_succ]
  go_wp2
  refine bodyPost_ret (v := .agg #[.int .i64 (c0 + d0), .int .i64 (c1 + d1), .int .i64 (c2 + d2), .int .i64 (c3 + d3)]) (by simp [results, Try.results102, go_sem]) rfl ⟨rfl, ?_⟩
  (repeat first | with_reducible exact Below.refl _ _ | with_reducible assumption | with_reducible refine Below.drew ?_ | with_reducible refine bdn ?_ _ | with_reducible refine bal ?_ _ | (with_reducible refine bst ?_ ?_ _; rotate_left; (simp <;> omega)) | (with_reducible refine btr ?_ (by with_reducible assumption)))
theorem ctimes_neg (c0 c1 c2 c3 : Int) (w : World) (h0 : -1000000 ≤ c0 ∧ c0 ≤ 1000000) (h1 : -1000000 ≤ c1 ∧ c1 ≤ 1000000) (h2 : -1000000 ≤ c2 ∧ c2 ≤ 1000000) (h3 : -1000000 ≤ c3 ∧ c3 ≤ 1000000) :
    Calls Try.prog 101 #[.agg #[.int .i64 c0, .int .i64 c1, .int .i64 c2, .int .i64 c3], .int .i64 (-1)] w fun e w' => e = .returned (.agg #[.int .i64 (-c0), .int .i64 (-c1), .int .i64 (-c2), .int .i64 (-c3)]) ∧ Below w.heap.size w w' := by
  have h := ctimes_any c0 c1 c2 c3 (-1) w h0 h1 h2 h3 (by omega)
  simp only [show ∀ x : Int, x * -1 = -x from fun x => by omega] at h
  exact h
set_option maxRecDepth 100000 in
set_option maxHeartbeats 1000000 in
theorem wtimes_no (c0 c1 c2 c3 b m : Int) (w : World) (h0 : -1000000 ≤ c0 ∧ c0 ≤ 1000000) (h1 : -1000000 ≤ c1 ∧ c1 ≤ 1000000) (h2 : -1000000 ≤ c2 ∧ c2 ≤ 1000000) (h3 : -1000000 ≤ c3 ∧ c3 ≤ 1000000) (hb : -1000000 ≤ b ∧ b ≤ 1000000) (hm : 0 ≤ m ∧ m ≤ 1000000) :
    Calls Try.prog 73 #[.agg #[.int .i64 c0, .int .i64 c1, .int .i64 c2, .int .i64 c3, .int .i64 b, .bool false], .int .i64 m] w fun e w' => e = .returned (.agg #[.int .i64 (c0 * m), .int .i64 (c1 * m), .int .i64 (c2 * m), .int .i64 (c3 * m), .int .i64 (b * m), .bool false]) ∧ Below w.heap.size w w' := by
  obtain ⟨p1, p2⟩ := mul_bd6 hb (y := m) (by omega)
  go_enter Try.func73, Try.ntmps73
  go_wp2
  have gc := @gro_cell ((w.alloc (.cells #[.int .i64 c0, .int .i64 c1, .int .i64 c2, .int .i64 c3, .int .i64 b, .bool false] 74)).alloc (.cells #[.int .i64 0, .int .i64 0, .int .i64 0, .int .i64 0, .int .i64 0, .bool false] 74))
  refine region_grow_tail 15 (by kernel_rfl) (by kernel_rfl) ?_; simp only [List.take_succ_cons, List.take_zero, List.drop_succ_cons, List.drop_zero]; (repeat (go_big_quiet_step ((go_at_call 101; exact grow_call _ (ctimes_any _ _ _ _ _ _ h0 h1 h2 h3 (by omega)))))); refine wpQuiet_nil ?_
  intro w1 hq
  clear gc
  obtain ⟨hc, hf⟩ := bcell hq
  go_wp2
  have e0 : w1.cell? ⟨w.heap.size + 1, 0, none⟩ = some (.int .i64 0) := by rw [hc _ _ (by simp <;> omega)]; simp [go_sem]
  have e1 : w1.cell? ⟨w.heap.size + 1, 1, none⟩ = some (.int .i64 0) := by rw [hc _ _ (by simp <;> omega)]; simp [go_sem]
  have e2 : w1.cell? ⟨w.heap.size + 1, 2, none⟩ = some (.int .i64 0) := by rw [hc _ _ (by simp <;> omega)]; simp [go_sem]
  have e3 : w1.cell? ⟨w.heap.size + 1, 3, none⟩ = some (.int .i64 0) := by rw [hc _ _ (by simp <;> omega)]; simp [go_sem]
  have e4 : w1.cell? ⟨w.heap.size + 1, 4, none⟩ = some (.int .i64 0) := by rw [hc _ _ (by simp <;> omega)]; simp [go_sem]
  have e5 : w1.cell? ⟨w.heap.size + 1, 5, none⟩ = some (.bool false) := by rw [hc _ _ (by simp <;> omega)]; simp [go_sem]
  obtain ⟨t0, t1, t2, t3, t4, t5⟩ := set6 e0 e1 e2 e3 e4 e5 (.int .i64 (c0 * m)) (.int .i64 (c1 * m)) (.int .i64 (c2 * m)) (.int .i64 (c3 * m)) (.int .i64 (b * m)) (.bool false)
  refine bodyPost_ret (v := .agg #[.int .i64 (c0 * m), .int .i64 (c1 * m), .int .i64 (c2 * m), .int .i64 (c3 * m), .int .i64 (b * m), .bool false]) (by simp [results, Try.results73, go_sem, t0, t1, t2, t3, t4, t5]) rfl ⟨rfl, ?_⟩
  (repeat first | with_reducible exact Below.refl _ _ | with_reducible assumption | with_reducible refine Below.drew ?_ | with_reducible refine bdn ?_ _ | with_reducible refine bal ?_ _ | (with_reducible refine bst ?_ ?_ _; rotate_left; (simp <;> omega)) | (with_reducible refine btr ?_ (by with_reducible assumption)))
end Go.Proofs.Ytplocljoanaoeaa

namespace Go.Proofs.Ytplocljoanaoeaa
set_option linter.unusedVariables false
set_option linter.unusedSimpArgs false
open Go.RowKit
set_option maxRecDepth 100000 in
set_option maxHeartbeats 1000000 in
theorem wtimes_yes (c0 c1 c2 c3 b m : Int) (w : World) (h0 : -1000000 ≤ c0 ∧ c0 ≤ 1000000) (h1 : -1000000 ≤ c1 ∧ c1 ≤ 1000000) (h2 : -1000000 ≤ c2 ∧ c2 ≤ 1000000) (h3 : -1000000 ≤ c3 ∧ c3 ≤ 1000000) (hb : -1000000 ≤ b ∧ b ≤ 1000000) (hm : 0 ≤ m ∧ m ≤ 1000000) (hp : 0 < m) :
    Calls Try.prog 73 #[.agg #[.int .i64 c0, .int .i64 c1, .int .i64 c2, .int .i64 c3, .int .i64 b, .bool true], .int .i64 m] w fun e w' => e = .returned (.agg #[.int .i64 (c0 * m), .int .i64 (c1 * m), .int .i64 (c2 * m), .int .i64 (c3 * m), .int .i64 (b * m), .bool true]) ∧ Below w.heap.size w w' := by
  obtain ⟨p1, p2⟩ := mul_bd6 hb (y := m) (by omega)
  have hd : decide (0 < m) = true := by simpa using hp
  go_enter Try.func73, Try.ntmps73
  go_wp2
  have gc := @gro_cell ((w.alloc (.cells #[.int .i64 c0, .int .i64 c1, .int .i64 c2, .int .i64 c3, .int .i64 b, .bool true] 74)).alloc (.cells #[.int .i64 0, .int .i64 0, .int .i64 0, .int .i64 0, .int .i64 0, .bool false] 74))
  refine region_grow_tail 15 (by kernel_rfl) (by kernel_rfl) ?_; simp only [List.take_succ_cons, List.take_zero, List.drop_succ_cons, List.drop_zero]; (repeat (go_big_quiet_step ((go_at_call 101; exact grow_call _ (ctimes_any _ _ _ _ _ _ h0 h1 h2 h3 (by omega)))))); refine wpQuiet_nil ?_
  intro w1 hq
  clear gc
  obtain ⟨hc, hf⟩ := bcell hq
  go_wp2
  have e0 : w1.cell? ⟨w.heap.size + 1, 0, none⟩ = some (.int .i64 0) := by rw [hc _ _ (by simp <;> omega)]; simp [go_sem]
  have e1 : w1.cell? ⟨w.heap.size + 1, 1, none⟩ = some (.int .i64 0) := by rw [hc _ _ (by simp <;> omega)]; simp [go_sem]
  have e2 : w1.cell? ⟨w.heap.size + 1, 2, none⟩ = some (.int .i64 0) := by rw [hc _ _ (by simp <;> omega)]; simp [go_sem]
  have e3 : w1.cell? ⟨w.heap.size + 1, 3, none⟩ = some (.int .i64 0) := by rw [hc _ _ (by simp <;> omega)]; simp [go_sem]
  have e4 : w1.cell? ⟨w.heap.size + 1, 4, none⟩ = some (.int .i64 0) := by rw [hc _ _ (by simp <;> omega)]; simp [go_sem]
  have e5 : w1.cell? ⟨w.heap.size + 1, 5, none⟩ = some (.bool false) := by rw [hc _ _ (by simp <;> omega)]; simp [go_sem]
  obtain ⟨t0, t1, t2, t3, t4, t5⟩ := set6 e0 e1 e2 e3 e4 e5 (.int .i64 (c0 * m)) (.int .i64 (c1 * m)) (.int .i64 (c2 * m)) (.int .i64 (c3 * m)) (.int .i64 (b * m)) (.bool true)
  clear hd p1 p2 h0 h1 h2 h3 hb hm hp hc hf
  refine bodyPost_ret (v := .agg #[.int .i64 (c0 * m), .int .i64 (c1 * m), .int .i64 (c2 * m), .int .i64 (c3 * m), .int .i64 (b * m), .bool true]) (by simp [results, Try.results73, go_sem, t0, t1, t2, t3, t4, t5]) rfl ⟨rfl, ?_⟩
  (repeat first | with_reducible exact Below.refl _ _ | with_reducible assumption | with_reducible refine Below.drew ?_ | with_reducible refine bdn ?_ _ | with_reducible refine bal ?_ _ | (with_reducible refine bst ?_ ?_ _; rotate_left; (simp <;> omega)) | (with_reducible refine btr ?_ (by with_reducible assumption)))
set_option maxRecDepth 100000 in
set_option maxHeartbeats 1000000 in
theorem wtimes_nil (c0 c1 c2 c3 b m : Int) (w : World) (h0 : -1000000 ≤ c0 ∧ c0 ≤ 1000000) (h1 : -1000000 ≤ c1 ∧ c1 ≤ 1000000) (h2 : -1000000 ≤ c2 ∧ c2 ≤ 1000000) (h3 : -1000000 ≤ c3 ∧ c3 ≤ 1000000) (hb : -1000000 ≤ b ∧ b ≤ 1000000) (hm : 0 ≤ m ∧ m ≤ 1000000) (hp : ¬ 0 < m) :
    Calls Try.prog 73 #[.agg #[.int .i64 c0, .int .i64 c1, .int .i64 c2, .int .i64 c3, .int .i64 b, .bool true], .int .i64 m] w fun e w' => e = .returned (.agg #[.int .i64 (c0 * m), .int .i64 (c1 * m), .int .i64 (c2 * m), .int .i64 (c3 * m), .int .i64 (b * m), .bool false]) ∧ Below w.heap.size w w' := by
  obtain ⟨p1, p2⟩ := mul_bd6 hb (y := m) (by omega)
  have hd : decide (0 < m) = false := by simpa using hp
  go_enter Try.func73, Try.ntmps73
  go_wp2
  have gc := @gro_cell ((w.alloc (.cells #[.int .i64 c0, .int .i64 c1, .int .i64 c2, .int .i64 c3, .int .i64 b, .bool true] 74)).alloc (.cells #[.int .i64 0, .int .i64 0, .int .i64 0, .int .i64 0, .int .i64 0, .bool false] 74))
  refine region_grow_tail 15 (by kernel_rfl) (by kernel_rfl) ?_; simp only [List.take_succ_cons, List.take_zero, List.drop_succ_cons, List.drop_zero]; (repeat (go_big_quiet_step ((go_at_call 101; exact grow_call _ (ctimes_any _ _ _ _ _ _ h0 h1 h2 h3 (by omega)))))); refine wpQuiet_nil ?_
  intro w1 hq
  clear gc
  obtain ⟨hc, hf⟩ := bcell hq
  go_wp2
  have e0 : w1.cell? ⟨w.heap.size + 1, 0, none⟩ = some (.int .i64 0) := by rw [hc _ _ (by simp <;> omega)]; simp [go_sem]
  have e1 : w1.cell? ⟨w.heap.size + 1, 1, none⟩ = some (.int .i64 0) := by rw [hc _ _ (by simp <;> omega)]; simp [go_sem]
  have e2 : w1.cell? ⟨w.heap.size + 1, 2, none⟩ = some (.int .i64 0) := by rw [hc _ _ (by simp <;> omega)]; simp [go_sem]
  have e3 : w1.cell? ⟨w.heap.size + 1, 3, none⟩ = some (.int .i64 0) := by rw [hc _ _ (by simp <;> omega)]; simp [go_sem]
  have e4 : w1.cell? ⟨w.heap.size + 1, 4, none⟩ = some (.int .i64 0) := by rw [hc _ _ (by simp <;> omega)]; simp [go_sem]
  have e5 : w1.cell? ⟨w.heap.size + 1, 5, none⟩ = some (.bool false) := by rw [hc _ _ (by simp <;> omega)]; simp [go_sem]
  obtain ⟨t0, t1, t2, t3, t4, t5⟩ := set6 e0 e1 e2 e3 e4 e5 (.int .i64 (c0 * m)) (.int .i64 (c1 * m)) (.int .i64 (c2 * m)) (.int .i64 (c3 * m)) (.int .i64 (b * m)) (.bool false)
  clear hd p1 p2 h0 h1 h2 h3 hb hm hp hc hf
  refine bodyPost_ret (v := .agg #[.int .i64 (c0 * m), .int .i64 (c1 * m), .int .i64 (c2 * m), .int .i64 (c3 * m), .int .i64 (b * m), .bool false]) (by simp [results, Try.results73, go_sem, t0, t1, t2, t3, t4, t5]) rfl ⟨rfl, ?_⟩
  (repeat first | with_reducible exact Below.refl _ _ | with_reducible assumption | with_reducible refine Below.drew ?_ | with_reducible refine bdn ?_ _ | with_reducible refine bal ?_ _ | (with_reducible refine bst ?_ ?_ _; rotate_left; (simp <;> omega)) | (with_reducible refine btr ?_ (by with_reducible assumption)))
theorem wtimes_any (c0 c1 c2 c3 b m : Int) (s : Bool) (w : World) (h0 : -1000000 ≤ c0 ∧ c0 ≤ 1000000) (h1 : -1000000 ≤ c1 ∧ c1 ≤ 1000000) (h2 : -1000000 ≤ c2 ∧ c2 ≤ 1000000) (h3 : -1000000 ≤ c3 ∧ c3 ≤ 1000000) (hb : -1000000 ≤ b ∧ b ≤ 1000000) (hm : 0 ≤ m ∧ m ≤ 1000000) :
    Calls Try.prog 73 #[.agg #[.int .i64 c0, .int .i64 c1, .int .i64 c2, .int .i64 c3, .int .i64 b, .bool s], .int .i64 m] w fun e w' => e = .returned (.agg #[.int .i64 (c0 * m), .int .i64 (c1 * m), .int .i64 (c2 * m), .int .i64 (c3 * m), .int .i64 (b * m), .bool (s && decide (0 < m))]) ∧ Below w.heap.size w w' := by
  cases s
  · exact wtimes_no c0 c1 c2 c3 b m w h0 h1 h2 h3 hb hm
  · by_cases hp : 0 < m
    · rw [decide_eq_true hp]; exact wtimes_yes c0 c1 c2 c3 b m w h0 h1 h2 h3 hb hm hp
    · rw [decide_eq_false hp]; exact wtimes_nil c0 c1 c2 c3 b m w h0 h1 h2 h3 hb hm hp
end Go.Proofs.Ytplocljoanaoeaa

namespace Go.Proofs.Ytplocljoanaoeaa
set_option linter.unusedVariables false
set_option linter.unusedSimpArgs false
open Go.RowKit
set_option maxRecDepth 100000 in
set_option maxHeartbeats 1000000 in
theorem wplus_yes (a0 a1 a2 a3 a d0 d1 d2 d3 d : Int) (s u : Bool) (w : World) (h0 : -1000000000000 ≤ a0 ∧ a0 ≤ 1000000000000) (h1 : -1000000000000 ≤ a1 ∧ a1 ≤ 1000000000000) (h2 : -1000000000000 ≤ a2 ∧ a2 ≤ 1000000000000) (h3 : -1000000000000 ≤ a3 ∧ a3 ≤ 1000000000000) (h : -1000000000000 ≤ a ∧ a ≤ 1000000000000) (k0 : -1000000000000 ≤ d0 ∧ d0 ≤ 1000000000000) (k1 : -1000000000000 ≤ d1 ∧ d1 ≤ 1000000000000) (k2 : -1000000000000 ≤ d2 ∧ d2 ≤ 1000000000000) (k3 : -1000000000000 ≤ d3 ∧ d3 ≤ 1000000000000) (k : -1000000000000 ≤ d ∧ d ≤ 1000000000000) :
    Calls Try.prog 75 #[.agg #[.int .i64 a0, .int .i64 a1, .int .i64 a2, .int .i64 a3, .int .i64 a, .bool true], .agg #[.int .i64 d0, .int .i64 d1, .int .i64 d2, .int .i64 d3, .int .i64 d, .bool u]] w fun e w' => e = .returned (.agg #[.int .i64 (a0 + d0), .int .i64 (a1 + d1), .int .i64 (a2 + d2), .int .i64 (a3 + d3), .int .i64 (a + d), .bool true]) ∧ Below w.heap.size w w' := by
  obtain ⟨p1, p2⟩ := h
  obtain ⟨p3, p4⟩ := k
  go_enter Try.func75, Try.ntmps75
  go_wp2
  have gc := @gro_cell (((w.alloc (.cells #[.int .i64 a0, .int .i64 a1, .int .i64 a2, .int .i64 a3, .int .i64 a, .bool true] 74)).alloc (.cells #[.int .i64 d0, .int .i64 d1, .int .i64 d2, .int .i64 d3, .int .i64 d, .bool u] 74)).alloc (.cells #[.int .i64 0, .int .i64 0, .int .i64 0, .int .i64 0, .int .i64 0, .bool false] 74))
  refine region_grow_tail 17 (by kernel_rfl) (by kernel_rfl) ?_; simp only [List.take_succ_cons, List.take_zero, List.drop_succ_cons, List.drop_zero]; (repeat (go_big_quiet_step ((go_at_call 102; exact grow_call _ (cplus_any _ _ _ _ _ _ _ _ _ h0 h1 h2 h3 k0 k1 k2 k3))))); refine wpQuiet_nil ?_
  intro w1 hq
  clear gc
  obtain ⟨hc, hf⟩ := bcell hq
  go_wp2
  have e0 : w1.cell? ⟨w.heap.size + 1 + 1, 0, none⟩ = some (.int .i64 0) := by rw [hc _ _ (by simp <;> omega)]; simp [go_sem]
  have e1 : w1.cell? ⟨w.heap.size + 1 + 1, 1, none⟩ = some (.int .i64 0) := by rw [hc _ _ (by simp <;> omega)]; simp [go_sem]
  have e2 : w1.cell? ⟨w.heap.size + 1 + 1, 2, none⟩ = some (.int .i64 0) := by rw [hc _ _ (by simp <;> omega)]; simp [go_sem]
  have e3 : w1.cell? ⟨w.heap.size + 1 + 1, 3, none⟩ = some (.int .i64 0) := by rw [hc _ _ (by simp <;> omega)]; simp [go_sem]
  have e4 : w1.cell? ⟨w.heap.size + 1 + 1, 4, none⟩ = some (.int .i64 0) := by rw [hc _ _ (by simp <;> omega)]; simp [go_sem]
  have e5 : w1.cell? ⟨w.heap.size + 1 + 1, 5, none⟩ = some (.bool false) := by rw [hc _ _ (by simp <;> omega)]; simp [go_sem]
  obtain ⟨t0, t1, t2, t3, t4, t5⟩ := set6 e0 e1 e2 e3 e4 e5 (.int .i64 (a0 + d0)) (.int .i64 (a1 + d1)) (.int .i64 (a2 + d2)) (.int .i64 (a3 + d3)) (.int .i64 (a + d)) (.bool true)
  clear p1 p2 p3 p4 h0 h1 h2 h3 k0 k1 k2 k3 hc hf
  refine bodyPost_ret (v := .agg #[.int .i64 (a0 + d0), .int .i64 (a1 + d1), .int .i64 (a2 + d2), .int .i64 (a3 + d3), .int .i64 (a + d), .bool true]) (by simp [results, Try.results75, go_sem, t0, t1, t2, t3, t4, t5]) rfl ⟨rfl, ?_⟩
  (repeat first | with_reducible exact Below.refl _ _ | with_reducible assumption | with_reducible refine Below.drew ?_ | with_reducible refine bdn ?_ _ | with_reducible refine bal ?_ _ | (with_reducible refine bst ?_ ?_ _; rotate_left; (simp <;> omega)) | (with_reducible refine btr ?_ (by with_reducible assumption)))
set_option maxRecDepth 100000 in
set_option maxHeartbeats 1000000 in
theorem wplus_no (a0 a1 a2 a3 a d0 d1 d2 d3 d : Int) (s u : Bool) (w : World) (h0 : -1000000000000 ≤ a0 ∧ a0 ≤ 1000000000000) (h1 : -1000000000000 ≤ a1 ∧ a1 ≤ 1000000000000) (h2 : -1000000000000 ≤ a2 ∧ a2 ≤ 1000000000000) (h3 : -1000000000000 ≤ a3 ∧ a3 ≤ 1000000000000) (h : -1000000000000 ≤ a ∧ a ≤ 1000000000000) (k0 : -1000000000000 ≤ d0 ∧ d0 ≤ 1000000000000) (k1 : -1000000000000 ≤ d1 ∧ d1 ≤ 1000000000000) (k2 : -1000000000000 ≤ d2 ∧ d2 ≤ 1000000000000) (k3 : -1000000000000 ≤ d3 ∧ d3 ≤ 1000000000000) (k : -1000000000000 ≤ d ∧ d ≤ 1000000000000) :
    Calls Try.prog 75 #[.agg #[.int .i64 a0, .int .i64 a1, .int .i64 a2, .int .i64 a3, .int .i64 a, .bool false], .agg #[.int .i64 d0, .int .i64 d1, .int .i64 d2, .int .i64 d3, .int .i64 d, .bool u]] w fun e w' => e = .returned (.agg #[.int .i64 (a0 + d0), .int .i64 (a1 + d1), .int .i64 (a2 + d2), .int .i64 (a3 + d3), .int .i64 (a + d), .bool u]) ∧ Below w.heap.size w w' := by
  obtain ⟨p1, p2⟩ := h
  obtain ⟨p3, p4⟩ := k
  go_enter Try.func75, Try.ntmps75
  go_wp2
  have gc := @gro_cell (((w.alloc (.cells #[.int .i64 a0, .int .i64 a1, .int .i64 a2, .int .i64 a3, .int .i64 a, .bool false] 74)).alloc (.cells #[.int .i64 d0, .int .i64 d1, .int .i64 d2, .int .i64 d3, .int .i64 d, .bool u] 74)).alloc (.cells #[.int .i64 0, .int .i64 0, .int .i64 0, .int .i64 0, .int .i64 0, .bool false] 74))
  refine region_grow_tail 17 (by kernel_rfl) (by kernel_rfl) ?_; simp only [List.take_succ_cons, List.take_zero, List.drop_succ_cons, List.drop_zero]; (repeat (go_big_quiet_step ((go_at_call 102; exact grow_call _ (cplus_any _ _ _ _ _ _ _ _ _ h0 h1 h2 h3 k0 k1 k2 k3))))); refine wpQuiet_nil ?_
  intro w1 hq
  clear gc
  obtain ⟨hc, hf⟩ := bcell hq
  go_wp2
  have e0 : w1.cell? ⟨w.heap.size + 1 + 1, 0, none⟩ = some (.int .i64 0) := by rw [hc _ _ (by simp <;> omega)]; simp [go_sem]
  have e1 : w1.cell? ⟨w.heap.size + 1 + 1, 1, none⟩ = some (.int .i64 0) := by rw [hc _ _ (by simp <;> omega)]; simp [go_sem]
  have e2 : w1.cell? ⟨w.heap.size + 1 + 1, 2, none⟩ = some (.int .i64 0) := by rw [hc _ _ (by simp <;> omega)]; simp [go_sem]
  have e3 : w1.cell? ⟨w.heap.size + 1 + 1, 3, none⟩ = some (.int .i64 0) := by rw [hc _ _ (by simp <;> omega)]; simp [go_sem]
  have e4 : w1.cell? ⟨w.heap.size + 1 + 1, 4, none⟩ = some (.int .i64 0) := by rw [hc _ _ (by simp <;> omega)]; simp [go_sem]
  have e5 : w1.cell? ⟨w.heap.size + 1 + 1, 5, none⟩ = some (.bool false) := by rw [hc _ _ (by simp <;> omega)]; simp [go_sem]
  obtain ⟨t0, t1, t2, t3, t4, t5⟩ := set6 e0 e1 e2 e3 e4 e5 (.int .i64 (a0 + d0)) (.int .i64 (a1 + d1)) (.int .i64 (a2 + d2)) (.int .i64 (a3 + d3)) (.int .i64 (a + d)) (.bool u)
  clear p1 p2 p3 p4 h0 h1 h2 h3 k0 k1 k2 k3 hc hf
  refine bodyPost_ret (v := .agg #[.int .i64 (a0 + d0), .int .i64 (a1 + d1), .int .i64 (a2 + d2), .int .i64 (a3 + d3), .int .i64 (a + d), .bool u]) (by simp [results, Try.results75, go_sem, t0, t1, t2, t3, t4, t5]) rfl ⟨rfl, ?_⟩
  (repeat first | with_reducible exact Below.refl _ _ | with_reducible assumption | with_reducible refine Below.drew ?_ | with_reducible refine bdn ?_ _ | with_reducible refine bal ?_ _ | (with_reducible refine bst ?_ ?_ _; rotate_left; (simp <;> omega)) | (with_reducible refine btr ?_ (by with_reducible assumption)))
theorem wplus_any (a0 a1 a2 a3 a d0 d1 d2 d3 d : Int) (s u : Bool) (w : World) (h0 : -1000000000000 ≤ a0 ∧ a0 ≤ 1000000000000) (h1 : -1000000000000 ≤ a1 ∧ a1 ≤ 1000000000000) (h2 : -1000000000000 ≤ a2 ∧ a2 ≤ 1000000000000) (h3 : -1000000000000 ≤ a3 ∧ a3 ≤ 1000000000000) (h : -1000000000000 ≤ a ∧ a ≤ 1000000000000) (k0 : -1000000000000 ≤ d0 ∧ d0 ≤ 1000000000000) (k1 : -1000000000000 ≤ d1 ∧ d1 ≤ 1000000000000) (k2 : -1000000000000 ≤ d2 ∧ d2 ≤ 1000000000000) (k3 : -1000000000000 ≤ d3 ∧ d3 ≤ 1000000000000) (k : -1000000000000 ≤ d ∧ d ≤ 1000000000000) :
    Calls Try.prog 75 #[.agg #[.int .i64 a0, .int .i64 a1, .int .i64 a2, .int .i64 a3, .int .i64 a, .bool s], .agg #[.int .i64 d0, .int .i64 d1, .int .i64 d2, .int .i64 d3, .int .i64 d, .bool u]] w fun e w' => e = .returned (.agg #[.int .i64 (a0 + d0), .int .i64 (a1 + d1), .int .i64 (a2 + d2), .int .i64 (a3 + d3), .int .i64 (a + d), .bool (s || u)]) ∧ Below w.heap.size w w' := by
  cases s
  · exact wplus_no a0 a1 a2 a3 a d0 d1 d2 d3 d false u w h0 h1 h2 h3 h k0 k1 k2 k3 k
  · exact wplus_yes a0 a1 a2 a3 a d0 d1 d2 d3 d true u w h0 h1 h2 h3 h k0 k1 k2 k3 k
end Go.Proofs.Ytplocljoanaoeaa

namespace Go.Proofs.Ytplocljoanaoeaa
set_option linter.unusedVariables false
set_option linter.unusedSimpArgs false
open Go.RowKit
theorem rng_ok (Z : Nat → Int) (b : Int) : rngB (Z 0) (Z 1) (Z 2) (Z 3) b = okL 4 Z b := by
  unfold rngB
  cases e : okL 4 Z b
  · cases h : (inC (Z 0) && inC (Z 1) && inC (Z 2) && inC (Z 3) && inC b)
    · rfl
    · simp only [Bool.and_eq_true] at h
      obtain ⟨⟨⟨⟨h0, h1⟩, h2⟩, h3⟩, h4⟩ := h
      rw [okL_iff.2 ⟨rfl, fun k hk => by have : k = 0 ∨ k = 1 ∨ k = 2 ∨ k = 3 := by omega
                                         rcases this with rfl | rfl | rfl | rfl <;> assumption, h4⟩] at e
      cases e
  · obtain ⟨_, h1, h2⟩ := okL_iff.1 e
    rw [h1 0 (by omega), h1 1 (by omega), h1 2 (by omega), h1 3 (by omega), h2]; rfl
set_option maxRecDepth 100000 in
theorem wide_no (A : Option Addr) (n c : Nat) (b : Int) (s : Bool) (w : World) (hn : n ≤ 9223372036854775807) (h : n ≠ 4) :
    Calls Try.prog 46 #[.agg #[.slice A n c, .int .i64 b, .bool s]] w fun e w' => e = .returned (.tuple #[.agg #[.int .i64 0, .int .i64 0, .int .i64 0, .int .i64 0, .int .i64 0, .bool false], .bool false]) ∧ Below w.heap.size w w' := by
  have hd : ((n : Int) != 4) = true := by simp; omega
  have h0 := hid h; clear h
  go_enter Try.func46, Try.ntmps46
  go_wp2
  refine bodyPost_ret (v := .tuple #[.agg #[.int .i64 0, .int .i64 0, .int .i64 0, .int .i64 0, .int .i64 0, .bool false], .bool false]) (by simp [results, Try.results46, go_sem]) rfl ⟨rfl, ?_⟩
  (repeat first | with_reducible exact Below.refl _ _ | with_reducible assumption | with_reducible refine Below.drew ?_ | with_reducible refine bdn ?_ _ | with_reducible refine bal ?_ _ | (with_reducible refine bst ?_ ?_ _; rotate_left; (simp <;> omega)) | (with_reducible refine btr ?_ (by with_reducible assumption)))
set_option maxRecDepth 100000 in
set_option maxHeartbeats 2000000 in
theorem wide_yes (g off c : Nat) (z0 z1 z2 z3 b : Int) (s : Bool) (w : World) (hg : g < w.heap.size) (c0 : w.cell? ⟨g, off, none⟩ = some (.int .i64 z0)) (c1 : w.cell? ⟨g, off + 1, none⟩ = some (.int .i64 z1)) (c2 : w.cell? ⟨g, off + 2, none⟩ = some (.int .i64 z2)) (c3 : w.cell? ⟨g, off + 3, none⟩ = some (.int .i64 z3)) :
    Calls Try.prog 46 #[.agg #[.slice (some ⟨g, off, none⟩) 4 c, .int .i64 b, .bool s]] w fun e w' => e = .returned (.tuple #[.agg #[.int .i64 z0, .int .i64 z1, .int .i64 z2, .int .i64 z3, .int .i64 b, .bool s], .bool (rngB z0 z1 z2 z3 b)]) ∧ Below w.heap.size w w' := by
  have ca := fun (W : World) (x : Obj) (o : Nat) (h : g < W.heap.size) => World.cell?_alloc_lt W x ⟨g, o, none⟩ h
  have hg1 : g < w.heap.size + 1 := by omega
  have hg2 : g < w.heap.size + 1 + 1 := by omega
  go_enter Try.func46, Try.ntmps46
  go_wp2
  refine wp_loop_rounds 5 ?_
  rw [rounds_succ]
  go_wp2
  rw [rounds_succ]
  go_wp2
  rw [rounds_succ]
  go_wp2
  rw [rounds_succ]
  go_wp2
  rw [rounds_succ]
  go_wp2
  clear ca hg1 hg2 c0 c1 c2 c3 hg
  have gc := @gro_cell (((w.alloc (.cells #[.slice (some ⟨g, off, none⟩) 4 c, .int .i64 b, .bool s] 28)).alloc (.cells #[.int .i64 0, .int .i64 0, .int .i64 0, .int .i64 0, .int .i64 0, .bool false] 74)).alloc (.cells #[.int .i64 z0, .int .i64 z1, .int .i64 z2, .int .i64 z3, .int .i64 b, .bool s] 74))
  refine region_grow_tail 3 (by kernel_rfl) (by kernel_rfl) ?_; simp only [List.take_succ_cons, List.take_zero, List.drop_succ_cons, List.drop_zero]; (repeat (go_big_quiet_step ((go_at_call 77; exact grow_call _ (inrange_any _ _ _ _ _ _ _))))); refine wpQuiet_nil ?_
  intro w1 hq
  clear gc
  obtain ⟨hc, hf⟩ := bcell hq
  go_wp2
  have e0 : w1.cell? ⟨w.heap.size + 1, 0, none⟩ = some (.int .i64 0) := by rw [hc _ _ (by simp <;> omega)]; simp [go_sem]
  have e1 : w1.cell? ⟨w.heap.size + 1, 1, none⟩ = some (.int .i64 0) := by rw [hc _ _ (by simp <;> omega)]; simp [go_sem]
  have e2 : w1.cell? ⟨w.heap.size + 1, 2, none⟩ = some (.int .i64 0) := by rw [hc _ _ (by simp <;> omega)]; simp [go_sem]
  have e3 : w1.cell? ⟨w.heap.size + 1, 3, none⟩ = some (.int .i64 0) := by rw [hc _ _ (by simp <;> omega)]; simp [go_sem]
  have e4 : w1.cell? ⟨w.heap.size + 1, 4, none⟩ = some (.int .i64 0) := by rw [hc _ _ (by simp <;> omega)]; simp [go_sem]
  have e5 : w1.cell? ⟨w.heap.size + 1, 5, none⟩ = some (.bool false) := by rw [hc _ _ (by simp <;> omega)]; simp [go_sem]
  obtain ⟨t0, t1, t2, t3, t4, t5⟩ := set6 e0 e1 e2 e3 e4 e5 (.int .i64 z0) (.int .i64 z1) (.int .i64 z2) (.int .i64 z3) (.int .i64 b) (.bool s)
  clear hc hf
  refine bodyPost_ret (v := .tuple #[.agg #[.int .i64 z0, .int .i64 z1, .int .i64 z2, .int .i64 z3, .int .i64 b, .bool s], .bool (rngB z0 z1 z2 z3 b)]) (by simp [results, Try.results46, go_sem, t0, t1, t2, t3, t4, t5]) rfl ⟨rfl, ?_⟩
  (repeat first | with_reducible exact Below.refl _ _ | with_reducible assumption | with_reducible refine Below.drew ?_ | with_reducible refine bdn ?_ _ | with_reducible refine bal ?_ _ | (with_reducible refine bst ?_ ?_ _; rotate_left; (simp <;> omega)) | (with_reducible refine btr ?_ (by with_reducible assumption)))
/-- at a row that reads as Z: the numbers, and whether it is valid -/
def wideV (n : Nat) (Z : Nat → Int) (b : Int) (s : Bool) : Array Value := if n = 4 then #[.int .i64 (Z 0), .int .i64 (Z 1), .int .i64 (Z 2), .int .i64 (Z 3), .int .i64 b, .bool s] else #[.int .i64 0, .int .i64 0, .int .i64 0, .int .i64 0, .int .i64 0, .bool false]
theorem wide_at (A : Option Addr) (n c : Nat) (Z : Nat → Int) (b : Int) (s : Bool) (w : World) (hn : n ≤ 9223372036854775807) (hA : Ints w A n Z) :
    Calls Try.prog 46 #[.agg #[.slice A n c, .int .i64 b, .bool s]] w fun e w' => e = .returned (.tuple #[.agg (wideV n Z b s), .bool (okL n Z b)]) ∧ Below w.heap.size w w' := by
  by_cases h : n = 4
  · subst h
    rcases hA with h0 | ⟨g, off, rfl, hg, hc⟩
    · omega
    · unfold wideV; rw [if_pos rfl, ← rng_ok]
      exact wide_yes g off c _ _ _ _ b s w hg (hc 0 (by omega)) (hc 1 (by omega)) (hc 2 (by omega)) (hc 3 (by omega))
  · unfold wideV; rw [if_neg h, okL_len h]
    exact wide_no A n c b s w hn h
theorem wide_v4 {n : Nat} {Z : Nat → Int} {b : Int} {s : Bool} (h : okL n Z b = true) : wideV n Z b s = #[.int .i64 (Z 0), .int .i64 (Z 1), .int .i64 (Z 2), .int .i64 (Z 3), .int .i64 b, .bool s] := by
  unfold wideV; rw [if_pos (okL_iff.1 h).1]
theorem wideV_six (n : Nat) (Z : Nat → Int) (b : Int) (s : Bool) : ∃ x0 x1 x2 x3 x4 : Int, ∃ u : Bool, wideV n Z b s = #[.int .i64 x0, .int .i64 x1, .int .i64 x2, .int .i64 x3, .int .i64 x4, .bool u] := by
  unfold wideV; by_cases h : n = 4
  · rw [if_pos h]; exact ⟨_, _, _, _, _, _, rfl⟩
  · rw [if_neg h]; exact ⟨_, _, _, _, _, _, rfl⟩
end Go.Proofs.Ytplocljoanaoeaa

namespace Go.Proofs.Ytplocljoanaoeaa
set_option linter.unusedVariables false
set_option linter.unusedSimpArgs false
open Go.RowKit
/-- a row of n numbers in a block that is new since W -/
def OwnI (W w' : World) (A : Option Addr) (n : Nat) (Z : Nat → Int) : Prop :=
  n = 0 ∨ ∃ g, A = some ⟨g, 0, none⟩ ∧ W.heap.size ≤ g ∧ g < w'.heap.size ∧ ∀ k, k < n → w'.cell? ⟨g, k, none⟩ = some (.int .i64 (Z k)) ∧ w'.frozen? ⟨g, k, none⟩ = false
/-- a constraint: how many coefficients, which, the bound, strict -/
abbrev LinR := Nat × (Nat → Int) × Int × Bool
def zeroL : LinR := (0, fun _ => 0, 0, false)
/-- a value that reads as a constraint of new memory -/
def NewL (W : World) (r : LinR) (v : Value) (w' : World) : Prop :=
  ∃ A c, v = .agg #[.slice A r.1 c, .int .i64 r.2.2.1, .bool r.2.2.2] ∧ r.1 ≤ c ∧ c ≤ 9223372036854775807 ∧ OwnI W w' A r.1 r.2.1
theorem NewL.zero (W w' : World) : NewL W zeroL (.agg #[.slice none 0 0, .int .i64 0, .bool false]) w' := ⟨none, 0, rfl, Nat.le_refl _, by omega, .inl rfl⟩
def row4 (a b c d : Int) : Nat → Int := fun k => if k = 0 then a else if k = 1 then b else if k = 2 then c else d
theorem lt4 {k : Nat} (h : k < 4) : k = 0 ∨ k = 1 ∨ k = 2 ∨ k = 3 := by omega
def narR (c0 c1 c2 c3 b : Int) (s : Bool) : LinR := if rngB c0 c1 c2 c3 b = true then (4, row4 c0 c1 c2 c3, b, s) else zeroL
def NarP (w : World) (c0 c1 c2 c3 b : Int) (s : Bool) (e : Ending) (w' : World) : Prop :=
  ∃ v, e = .returned (.tuple #[v, .bool (rngB c0 c1 c2 c3 b)]) ∧ NewL w (narR c0 c1 c2 c3 b s) v w' ∧ Below w.heap.size w w'
theorem mk4 (w : World) : (Instr.makeSlice 24 (.int .i64 4) (.int .i64 4)).run Try.prog w = .ok (.slice (some ⟨w.heap.size, 0, none⟩) 4 4) (w.alloc (.cells #[.int .i64 0, .int .i64 0, .int .i64 0, .int .i64 0] 3)) := by kernel_rfl
theorem nar_no {c0 c1 c2 c3 b : Int} {s : Bool} {w w' : World} (h : rngB c0 c1 c2 c3 b = false) (hb : Below w.heap.size w w') : NarP w c0 c1 c2 c3 b s (.returned (.tuple #[.agg #[.slice none 0 0, .int .i64 0, .bool false], .bool false])) w' :=
  ⟨_, by rw [h], by unfold narR; rw [h, if_neg (by simp)]; exact NewL.zero _ _, hb⟩
theorem nar_yes {c0 c1 c2 c3 b : Int} {s : Bool} {w w' : World} {g : Nat} (h : rngB c0 c1 c2 c3 b = true) (hg : w.heap.size ≤ g) (hg' : g < w'.heap.size) (k0 : w'.cell? ⟨g, 0, none⟩ = some (.int .i64 c0)) (k1 : w'.cell? ⟨g, 1, none⟩ = some (.int .i64 c1)) (k2 : w'.cell? ⟨g, 2, none⟩ = some (.int .i64 c2)) (k3 : w'.cell? ⟨g, 3, none⟩ = some (.int .i64 c3))
    (hf : ∀ k, w'.frozen? ⟨g, k, none⟩ = false) (hb : Below w.heap.size w w') : NarP w c0 c1 c2 c3 b s (.returned (.tuple #[.agg #[.slice (some ⟨g, 0, none⟩) 4 4, .int .i64 b, .bool s], .bool true])) w' := by
  refine ⟨_, by rw [h], ?_, hb⟩
  unfold narR; rw [h, if_pos rfl]
  refine ⟨some ⟨g, 0, none⟩, 4, rfl, Nat.le_refl _, by omega, .inr ⟨g, rfl, hg, hg', fun k hk => ⟨?_, hf k⟩⟩⟩
  rcases lt4 hk with rfl | rfl | rfl | rfl <;> assumption
set_option maxRecDepth 100000 in
set_option maxHeartbeats 2000000 in
theorem narrow_no (c0 c1 c2 c3 b : Int) (s : Bool) (w : World) (h : rngB c0 c1 c2 c3 b = false) :
    Calls Try.prog 51 #[.agg #[.int .i64 c0, .int .i64 c1, .int .i64 c2, .int .i64 c3, .int .i64 b, .bool s]] w (NarP w c0 c1 c2 c3 b s) := by
  have H := hid h
  have hI := fun W => inrange_any c0 c1 c2 c3 b s W
  rw [h] at hI
  clear h
  go_enter Try.func51, Try.ntmps51
  go_wp2_with (go_at_call 77; refine (hI _).mono ?_; rintro e w1 ⟨rfl, hq⟩; obtain ⟨hc, hf⟩ := bcell hq)
  clear hI
  have e0 : w1.cell? ⟨w.heap.size + 1, 0, none⟩ = some (.slice none 0 0) := by rw [hc _ _ (by simp <;> omega)]; simp [go_sem]
  have e1 : w1.cell? ⟨w.heap.size + 1, 1, none⟩ = some (.int .i64 0) := by rw [hc _ _ (by simp <;> omega)]; simp [go_sem]
  have e2 : w1.cell? ⟨w.heap.size + 1, 2, none⟩ = some (.bool false) := by rw [hc _ _ (by simp <;> omega)]; simp [go_sem]
  obtain ⟨t0, t1, t2⟩ := set3 e0 e1 e2 (.slice none 0 0) (.int .i64 0) (.bool false)
  clear hc hf
  refine bodyPost_ret (v := .tuple #[.agg #[.slice none 0 0, .int .i64 0, .bool false], .bool false]) (by simp [results, Try.results51, go_sem, t0, t1, t2]) rfl (nar_no H.out ?_)
  (repeat first | with_reducible exact Below.refl _ _ | with_reducible assumption | with_reducible refine Below.drew ?_ | with_reducible refine bdn ?_ _ | with_reducible refine bal ?_ _ | (with_reducible refine bst ?_ ?_ _; rotate_left; (simp <;> omega)) | (with_reducible refine btr ?_ (by with_reducible assumption)))
set_option maxRecDepth 100000 in
set_option maxHeartbeats 2000000 in
theorem narrow_yes (c0 c1 c2 c3 b : Int) (s : Bool) (w : World) (h : rngB c0 c1 c2 c3 b = true) :
    Calls Try.prog 51 #[.agg #[.int .i64 c0, .int .i64 c1, .int .i64 c2, .int .i64 c3, .int .i64 b, .bool s]] w (NarP w c0 c1 c2 c3 b s) := by
  have H := hid h
  have hI := fun W => inrange_any c0 c1 c2 c3 b s W
  rw [h] at hI
  clear h
  have i0 := idx0
  have i1 := idx1
  have i2 := idx2
  have i3 := idx3
  have hmk := mk4
  go_enter Try.func51, Try.ntmps51
  go_wp2_with (go_at_call 77; refine (hI _).mono ?_; rintro e w1 ⟨rfl, hq⟩; obtain ⟨hc, hf⟩ := bcell hq; have hz := hq.size; have hz0 : w.heap.size < w1.heap.size := (by simp at hz; omega); have hz1 : w.heap.size + 1 < w1.heap.size := (by simp at hz; omega); clear hz; have ca := (fun (x : Obj) (b o : Nat) (h : b < w1.heap.size) => World.cell?_alloc_lt w1 x ⟨b, o, none⟩ h))
  refine wp_loop_rounds 5 ?_
  rw [rounds_succ]
  go_wp2
  rw [rounds_succ]
  go_wp2
  rw [rounds_succ]
  go_wp2
  rw [rounds_succ]
  go_wp2
  rw [rounds_succ]
  go_wp2
  clear ca hI i0 i1 i2 i3 hmk
  have e0 : w1.cell? ⟨w.heap.size + 1, 0, none⟩ = some (.slice none 0 0) := by rw [hc _ _ (by simp <;> omega)]; simp [go_sem]
  have e1 : w1.cell? ⟨w.heap.size + 1, 1, none⟩ = some (.int .i64 0) := by rw [hc _ _ (by simp <;> omega)]; simp [go_sem]
  have e2 : w1.cell? ⟨w.heap.size + 1, 2, none⟩ = some (.bool false) := by rw [hc _ _ (by simp <;> omega)]; simp [go_sem]
  obtain ⟨t0, t1, t2⟩ := set3 e0 e1 e2 (.slice (some ⟨w1.heap.size, 0, none⟩) 4 4) (.int .i64 b) (.bool s)
  clear hc hf
  replace t0 := carryA (.cells #[.int .i64 c0, .int .i64 c1, .int .i64 c2, .int .i64 c3] 3) t0
  replace t1 := carryA (.cells #[.int .i64 c0, .int .i64 c1, .int .i64 c2, .int .i64 c3] 3) t1
  replace t2 := carryA (.cells #[.int .i64 c0, .int .i64 c1, .int .i64 c2, .int .i64 c3] 3) t2
  refine bodyPost_ret (v := .tuple #[.agg #[.slice (some ⟨w1.heap.size, 0, none⟩) 4 4, .int .i64 b, .bool s], .bool true]) (by simp [results, Try.results51, go_sem, t0, t1, t2]) rfl (nar_yes (g := w1.heap.size) H.out (by omega) (by simp [go_sem]) (by simp [go_sem]) (by simp [go_sem]) (by simp [go_sem]) (by simp [go_sem]) (fun k => by simp [go_sem]) ?_)
  (repeat first | with_reducible exact Below.refl _ _ | with_reducible assumption | with_reducible refine Below.drew ?_ | with_reducible refine bdn ?_ _ | with_reducible refine bal ?_ _ | (with_reducible refine bst ?_ ?_ _; rotate_left; (simp <;> omega)) | (with_reducible refine btr ?_ (by with_reducible assumption)))
theorem lnarrow_any (c0 c1 c2 c3 b : Int) (s : Bool) (w : World) :
    Calls Try.prog 51 #[.agg #[.int .i64 c0, .int .i64 c1, .int .i64 c2, .int .i64 c3, .int .i64 b, .bool s]] w (NarP w c0 c1 c2 c3 b s) := by
  cases h : rngB c0 c1 c2 c3 b
  · exact narrow_no c0 c1 c2 c3 b s w h
  · exact narrow_yes c0 c1 c2 c3 b s w h
end Go.Proofs.Ytplocljoanaoeaa

namespace Go.Proofs.Ytplocljoanaoeaa
set_option linter.unusedVariables false
set_option linter.unusedSimpArgs false
open Go.RowKit
def emptyB (Z : Nat → Int) : Bool := decide (Z 0 = 0 ∧ Z 1 = 0 ∧ Z 2 = 0 ∧ Z 3 = 0)
def badB (n : Nat) (Z : Nat → Int) (b : Int) (s : Bool) : Bool := okL n Z b && (emptyB Z && refB b s)
def freeB (n : Nat) (Z : Nat → Int) (b : Int) (s : Bool) : Bool := okL n Z b && (emptyB Z && !refB b s)
def notR (n : Nat) (Z : Nat → Int) (b : Int) (s : Bool) : LinR := if okL n Z b = true then (4, fun k => -Z k, -b, !s) else zeroL
def NotP (w : World) (r : LinR) (e : Ending) (w' : World) : Prop := ∃ v, e = .returned v ∧ NewL w r v w' ∧ Below w.heap.size w w'
theorem inC_bd {n : Int} (h : inC n = true) : -1000000 ≤ n ∧ n ≤ 1000000 := inC_iff.1 h
theorem okL_bd4 {n : Nat} {Z : Nat → Int} {b : Int} (h : okL n Z b = true) : (-1000000 ≤ Z 0 ∧ Z 0 ≤ 1000000) ∧ (-1000000 ≤ Z 1 ∧ Z 1 ≤ 1000000) ∧ (-1000000 ≤ Z 2 ∧ Z 2 ≤ 1000000) ∧ (-1000000 ≤ Z 3 ∧ Z 3 ≤ 1000000) ∧ (-1000000 ≤ b ∧ b ≤ 1000000) := by
  obtain ⟨rfl, h1, h2⟩ := okL_iff.1 h
  exact ⟨inC_iff.1 (h1 0 (by omega)), inC_iff.1 (h1 1 (by omega)), inC_iff.1 (h1 2 (by omega)), inC_iff.1 (h1 3 (by omega)), inC_iff.1 h2⟩
theorem NewL.congr {W w' : World} {m : Nat} {Y Z : Nat → Int} {b : Int} {s : Bool} {v : Value} (h : NewL W (m, Y, b, s) v w') (e : ∀ k, k < m → Y k = Z k) : NewL W (m, Z, b, s) v w' := by
  obtain ⟨A, c, hv, h1, h2, h3⟩ := h
  refine ⟨A, c, hv, h1, h2, ?_⟩
  rcases h3 with h3 | ⟨g, ha, hg, hg', hc⟩
  · exact .inl h3
  · exact .inr ⟨g, ha, hg, hg', fun k hk => ⟨(hc k hk).1.trans (by show some (Value.int .i64 (Y k)) = _; rw [e k hk]), (hc k hk).2⟩⟩
/-- what was new since an older world -/
theorem OwnI.old {W W1 w' : World} {A : Option Addr} {n : Nat} {Z : Nat → Int} (hb : W.heap.size ≤ W1.heap.size) (h : OwnI W1 w' A n Z) : OwnI W w' A n Z := by
  rcases h with h | ⟨g, ha, hg, hg', hc⟩
  · exact .inl h
  · exact .inr ⟨g, ha, Nat.le_trans hb hg, hg', hc⟩
theorem OwnI.below {W w w' : World} {A : Option Addr} {n : Nat} {Z : Nat → Int} (hb : Below w.heap.size w w') (h : OwnI W w A n Z) : OwnI W w' A n Z := by
  rcases h with h | ⟨g, ha, hg, hg', hc⟩
  · exact .inl h
  · exact .inr ⟨g, ha, hg, Nat.lt_of_lt_of_le hg' hb.size, fun k hk => ⟨(hb.cell (p := ⟨g, k, none⟩) hg').trans (hc k hk).1, (hb.frozen (p := ⟨g, k, none⟩) hg').trans (hc k hk).2⟩⟩
theorem OwnI.set {W w : World} {A : Option Addr} {n : Nat} {Z : Nat → Int} {p o : Nat} (v : Value) (hp : p < W.heap.size) (h : OwnI W w A n Z) : OwnI W (w.setCell ⟨p, o, none⟩ v) A n Z := by
  rcases h with h | ⟨g, ha, hg, hg', hc⟩
  · exact .inl h
  · refine .inr ⟨g, ha, hg, by simpa [World.setCell] using hg', fun k hk => ⟨?_, ?_⟩⟩
    · rw [World.cell?_setCell_other _ _ _ _ (by simp <;> omega)]; exact (hc k hk).1
    · simpa [go_sem] using (hc k hk).2
theorem OwnI.ints {W w' : World} {A : Option Addr} {n : Nat} {Z : Nat → Int} (h : OwnI W w' A n Z) : Ints w' A n Z := by
  rcases h with h | ⟨g, ha, hg, hg', hc⟩
  · exact .inl h
  · exact .inr ⟨g, 0, ha, hg', fun k hk => by rw [Nat.zero_add]; exact (hc k hk).1⟩
theorem NewL.old {W W1 w' : World} {r : LinR} {v : Value} (hb : W.heap.size ≤ W1.heap.size) (h : NewL W1 r v w') : NewL W r v w' := by
  obtain ⟨A, c, hv, h1, h2, h3⟩ := h; exact ⟨A, c, hv, h1, h2, h3.old hb⟩
theorem NewL.below {W w w' : World} {r : LinR} {v : Value} (hb : Below w.heap.size w w') (h : NewL W r v w) : NewL W r v w' := by
  obtain ⟨A, c, hv, h1, h2, h3⟩ := h; exact ⟨A, c, hv, h1, h2, h3.below hb⟩
theorem NewL.set {W w : World} {r : LinR} {v : Value} {p o : Nat} (u : Value) (hp : p < W.heap.size) (h : NewL W r v w) : NewL W r v (w.setCell ⟨p, o, none⟩ u) := by
  obtain ⟨A, c, hv, h1, h2, h3⟩ := h; exact ⟨A, c, hv, h1, h2, h3.set u hp⟩
/-- wide at a world in which the row still reads as it did -/
theorem wide_far {A : Option Addr} {n c : Nat} {Z : Nat → Int} {b : Int} {s : Bool} {w : World} (hn : n ≤ 9223372036854775807) (hA : Ints w A n Z) {v : Bool} {x0 x1 x2 x3 x4 : Int} {u : Bool} (hv : okL n Z b = v) (hx : wideV n Z b s = #[.int .i64 x0, .int .i64 x1, .int .i64 x2, .int .i64 x3, .int .i64 x4, .bool u]) (W : World) (hb : Below w.heap.size w W) :
    Calls Try.prog 46 #[.agg #[.slice A n c, .int .i64 b, .bool s]] W fun e w' => e = .returned (.tuple #[.agg #[.int .i64 x0, .int .i64 x1, .int .i64 x2, .int .i64 x3, .int .i64 x4, .bool u], .bool v]) ∧ Below W.heap.size W w' := by
  have h := wide_at A n c Z b s W hn (hA.below hb)
  rw [hx, hv] at h
  exact h
set_option maxRecDepth 100000 in
set_option maxHeartbeats 1000000 in
theorem linbad_any (A : Option Addr) (n c : Nat) (Z : Nat → Int) (b : Int) (s : Bool) (w : World) (hn : n ≤ 9223372036854775807) (hA : Ints w A n Z) :
    Calls Try.prog 30 #[.agg #[.slice A n c, .int .i64 b, .bool s]] w fun e w' => e = .returned (.bool (badB n Z b s)) ∧ Below w.heap.size w w' := by
  unfold badB
  cases hv : okL n Z b
  · obtain ⟨x0, x1, x2, x3, x4, u, hx⟩ := wideV_six n Z b s
    have hW := wide_far (c := c) hn hA hv hx
    clear hv hx hA hn
    go_enter Try.func30, Try.ntmps30
    go_wp2_with (go_at_call 46; refine (hW _ (bal (Below.refl _ _) _)).mono ?_; rintro e w1 ⟨rfl, hq⟩)
    go_ret
    clear hW
    refine ⟨rfl, ?_⟩
    (repeat first | with_reducible exact Below.refl _ _ | with_reducible assumption | with_reducible refine Below.drew ?_ | with_reducible refine bdn ?_ _ | with_reducible refine bal ?_ _ | (with_reducible refine bst ?_ ?_ _; rotate_left; (simp <;> omega)) | (with_reducible refine btr ?_ (by with_reducible assumption)))
  · have hW := wide_far (c := c) hn hA hv (wide_v4 (s := s) hv)
    clear hv hA hn
    have hE := fun W => zero_any (Z 0) (Z 1) (Z 2) (Z 3) W
    have hR := fun W => refuses_any (Z 0) (Z 1) (Z 2) (Z 3) b s W
    unfold emptyB
    generalize decide (Z 0 = 0 ∧ Z 1 = 0 ∧ Z 2 = 0 ∧ Z 3 = 0) = ez at hE ⊢
    generalize refB b s = rz at hR ⊢
    cases ez
    · go_enter Try.func30, Try.ntmps30
      go_wp2_with (first | (go_at_call 46; refine (hW _ (bal (Below.refl _ _) _)).mono ?_; rintro e w1 ⟨rfl, hq⟩) | (go_at_call 60; refine (hE _).mono ?_; rintro e w2 ⟨rfl, hq2⟩))
      go_ret
      clear hW hE hR
      refine ⟨rfl, ?_⟩
      (repeat first | with_reducible exact Below.refl _ _ | with_reducible assumption | with_reducible refine Below.drew ?_ | with_reducible refine bdn ?_ _ | with_reducible refine bal ?_ _ | (with_reducible refine bst ?_ ?_ _; rotate_left; (simp <;> omega)) | (with_reducible refine btr ?_ (by with_reducible assumption)))
    · go_enter Try.func30, Try.ntmps30
      go_wp2_with (first | (go_at_call 46; refine (hW _ (bal (Below.refl _ _) _)).mono ?_; rintro e w1 ⟨rfl, hq⟩) | (go_at_call 60; refine (hE _).mono ?_; rintro e w2 ⟨rfl, hq2⟩; obtain ⟨hc, hf⟩ := bcell hq2) | (go_at_call 61; refine (hR _).mono ?_; rintro e w3 ⟨rfl, hq3⟩))
      go_ret
      clear hW hE hR hc hf
      refine ⟨by simp, ?_⟩
      (repeat first | with_reducible exact Below.refl _ _ | with_reducible assumption | with_reducible refine Below.drew ?_ | with_reducible refine bdn ?_ _ | with_reducible refine bal ?_ _ | (with_reducible refine bst ?_ ?_ _; rotate_left; (simp <;> omega)) | (with_reducible refine btr ?_ (by with_reducible assumption)))
theorem own3 {W w : World} {A : Option Addr} {n : Nat} {Z : Nat → Int} {p : Nat} (x y z : Value) (o : Obj) (hp : p < W.heap.size) (h : OwnI W w A n Z) :
    OwnI W ((((w.setCell ⟨p, 0, none⟩ x).setCell ⟨p, 1, none⟩ y).setCell ⟨p, 2, none⟩ z).alloc o) A n Z :=
  (((h.set x hp).set y hp).set z hp).below ((Below.refl _ _).alloc (Nat.le_refl _) o)
theorem carryf {w w1 : World} {b o : Nat} {v : Bool} (hq : Below w.heap.size w w1) (h : w.frozen? ⟨b, o, none⟩ = v) (hb : b < w.heap.size) : w1.frozen? ⟨b, o, none⟩ = v :=
  (hq.frozen (p := ⟨b, o, none⟩) hb).trans h
theorem neg_rng {n : Nat} {Z : Nat → Int} {b : Int} (h : okL n Z b = true) : rngB (-Z 0) (-Z 1) (-Z 2) (-Z 3) (-b) = true := by
  obtain ⟨b0, b1, b2, b3, b4⟩ := okL_bd4 h
  unfold rngB
  rw [inC_iff.2 (by omega), inC_iff.2 (by omega), inC_iff.2 (by omega), inC_iff.2 (by omega), inC_iff.2 (by omega)]; rfl
theorem narrow_open {Z : Nat → Int} {b : Int} {s : Bool} (h : rngB (Z 0) (Z 1) (Z 2) (Z 3) b = true) (w : World) :
    Calls Try.prog 51 #[.agg #[.int .i64 (Z 0), .int .i64 (Z 1), .int .i64 (Z 2), .int .i64 (Z 3), .int .i64 b, .bool s]] w fun e w' =>
      ∃ A c, e = .returned (.tuple #[.agg #[.slice A 4 c, .int .i64 b, .bool s], .bool true]) ∧ 4 ≤ c ∧ c ≤ 9223372036854775807 ∧ OwnI w w' A 4 Z ∧ Below w.heap.size w w' := by
  refine (lnarrow_any _ _ _ _ _ _ w).mono ?_
  rintro e w' ⟨v, rfl, hv, hb⟩
  rw [h]
  unfold narR at hv
  rw [h, if_pos rfl] at hv
  replace hv := hv.congr (Z := Z) (fun k hk => by rcases lt4 hk with rfl | rfl | rfl | rfl <;> rfl)
  obtain ⟨A, c, rfl, h1, h2, h3⟩ := hv
  exact ⟨A, c, rfl, h1, h2, h3, hb⟩
theorem not_p {w w' : World} {r : LinR} {v : Value} (h : NewL w r v w') (hb : Below w.heap.size w w') : NotP w r (.returned v) w' := ⟨v, rfl, h, hb⟩
end Go.Proofs.Ytplocljoanaoeaa
