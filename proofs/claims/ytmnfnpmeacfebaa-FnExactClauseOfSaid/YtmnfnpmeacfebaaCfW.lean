/- Marks of rows of numbers; walk of the exact law of ClauseOf. -/
import Derived.Test.YtmnfnpmeacfebaaCfE
import Derived.Test.YtmnfnpmeacfebaaCaW
namespace Go.Proofs.Ytmnfnpmeacfebaa
set_option linter.unusedVariables false
set_option linter.unusedSimpArgs false
open Go.RowKit
/-- a row of numbers below block B -/
def IntsB (B : Nat) (w : World) (A : Option Addr) (n : Nat) (Z : Nat → Int) : Prop :=
  n = 0 ∨ ∃ g off, A = some ⟨g, off, none⟩ ∧ g < B ∧ g < w.heap.size ∧ ∀ k, k < n → w.cell? ⟨g, off + k, none⟩ = some (.int .i64 (Z k))
theorem IntsB.of {w : World} {A : Option Addr} {n : Nat} {Z : Nat → Int} (h : Ints w A n Z) : IntsB w.heap.size w A n Z := by
  rcases h with h | ⟨g, off, ha, hg, hc⟩
  · exact .inl h
  · exact .inr ⟨g, off, ha, hg, hg, hc⟩
theorem IntsB.ints {B : Nat} {w : World} {A : Option Addr} {n : Nat} {Z : Nat → Int} (h : IntsB B w A n Z) : Ints w A n Z := by
  rcases h with h | ⟨g, off, ha, _, hg, hc⟩
  · exact .inl h
  · exact .inr ⟨g, off, ha, hg, hc⟩
theorem IntsB.below {B : Nat} {w w' : World} {A : Option Addr} {n : Nat} {Z : Nat → Int} (h : IntsB B w A n Z) (hb : Below w.heap.size w w') : IntsB B w' A n Z := by
  rcases h with h | ⟨g, off, ha, h1, hg, hc⟩
  · exact .inl h
  · exact .inr ⟨g, off, ha, h1, Nat.lt_of_lt_of_le hg hb.size, fun k hk => carry hb (hc k hk)⟩
theorem IntsB.keep {B lo : Nat} {w w' : World} {A : Option Addr} {n : Nat} {Z : Nat → Int} {row : Option Nat} (h : IntsB B w A n Z) (hg : w.grownBy w' row) (hr : ∀ g, row = some g → lo ≤ g) (hB : B ≤ lo) : IntsB B w' A n Z := by
  rcases h with h | ⟨g, off, ha, h1, hgw, hc⟩
  · exact .inl h
  · exact .inr ⟨g, off, ha, h1, Nat.lt_of_lt_of_le hgw hg.size, fun k hk => hg.cell (hc k hk) (fun e => by have := hr g e.symm; omega)⟩
set_option maxHeartbeats 4000000 in
set_option maxRecDepth 100000 in
theorem walk_ExactClauseOf (A : Option Addr) (n c : Nat) (Z : Nat → Int) (w : World) (hn : n ≤ 9223372036854775807) (hA : Ints w A n Z) :
    Calls Try.prog 4 #[.slice A n c] w fun e w' => e = .returned (.bool true) ∧ Below w.heap.size w w' := by
  by_cases hb : 1048576 < n
  · go_enter Try.func4, Try.ntmps4
    go_wp2
    go_ret
    exact ⟨rfl, Below.refl _ _⟩
  have hn2 : n ≤ 1048576 := by omega
  have hT := fun W (h : Below w.heap.size w W) => toints_any A n c Z W hn2 (hA.below h)
  have hP := fun A' W h => sclauseof_any A' n n Z W hn2 h
  have hI := fun A' W h => clauseof_any A' n n Z W hn2 h
  unfold ClP at hP
  have hN := clR_len n Z
  generalize clR n Z = R at hP hI hN
  generalize okF n Z = ok at hP hI
  have dk : (ok != ok) = false := by simp
  have dn : decide ((1 : Int) + n < 0) = false := decide_eq_false (by omega)
  have dr : decide ((1 : Int) + R.length < 0) = false := decide_eq_false (by omega)
  have de : (((1 : Int) + R.length) != (1 + R.length)) = false := by simp
  clear hA hb
  go_enter Try.func4, Try.ntmps4
  go_wp2_with fail
  refine (hT _ (Below.refl _ _)).mono ?_
  rintro e w1 ⟨g1, rfl, _, hr1, hq⟩
  have q0 := hq
  clear hq
  go_wp2_with fail
  refine (hP _ _ (Ints.of_row hr1)).mono ?_
  rintro e w2 ⟨A2, c2, rfl, hI2, hq⟩
  replace q0 := btr q0 hq
  have I2 := IntsB.of hI2
  have y2 := q0.size
  clear hq hr1 hI2
  go_wp2_with fail
  refine (hT _ q0).mono ?_
  rintro e w3 ⟨g3, rfl, hg3, hr3, hq⟩
  have z3 := hq.size
  replace q0 := btr q0 hq
  replace I2 := I2.below hq
  have O3 := (own_rowC (W := w2) hg3 hr3).ownB
  clear hq hr3
  go_wp2_with fail
  refine (hI _ _ O3.ints).mono ?_
  rintro e w4 ⟨A4, c4, rfl, hO4, hq⟩
  have z4 := hq.size
  replace q0 := btr q0 hq
  replace I2 := I2.below hq
  replace O3 := O3.below hq
  have O4 := hO4.ownB
  clear hq hO4
  go_wp2_with fail
  refine (eqints_same (by omega) O4.ints I2.ints).mono ?_
  rintro e w5 ⟨rfl, hq⟩
  replace q0 := btr q0 hq
  replace I2 := I2.below hq
  replace O3 := O3.below hq
  replace O4 := O4.below hq
  clear hq
  go_wp2_with fail
  refine (hT _ q0).mono ?_
  rintro e w6 ⟨g6, rfl, _, hr6, hq⟩
  replace q0 := btr q0 hq
  replace I2 := I2.below hq
  replace O3 := O3.below hq
  replace O4 := O4.below hq
  have I6 := Ints.of_row hr6
  clear hq hr6
  go_wp2_with fail
  refine (eqints_same (by omega) O3.ints I6).mono ?_
  rintro e w7 ⟨rfl, hq⟩
  replace q0 := btr q0 hq
  replace I2 := I2.below hq
  replace O3 := O3.below hq
  replace O4 := O4.below hq
  clear hq I6
  go_wp2_with fail
  refine (markints_any _ _ _ n n Z 1 _ hn2 (by omega) O3).mono ?_
  rintro e w8 ⟨rfl, _, row, hg, hr⟩
  replace q0 := q0.grown hg q0.size (fun j hj => by have := (hr j hj).1; have := q0.size; omega)
  replace I2 := I2.keep hg (fun g e => (hr g e).1) (Nat.le_refl _)
  replace O4 := O4.keep hg (fun g e => .inl (by have := (hr g e).2; omega))
  clear hg hr O3
  go_wp2_with fail
  refine (eqints_same (by omega) O4.ints I2.ints).mono ?_
  rintro e w9 ⟨rfl, hq⟩
  replace q0 := btr q0 hq
  replace I2 := I2.below hq
  replace O4 := O4.below hq
  clear hq
  go_wp2_with fail
  refine (markints_any _ _ _ _ c4 _ 1 _ (by omega) (by omega) O4).mono ?_
  rintro e w10 ⟨rfl, M4, row, hg, hr⟩
  replace q0 := q0.grown hg q0.size (fun j hj => by have := (hr j hj).1; have := q0.size; omega)
  replace I2 := I2.keep hg (fun g e => (hr g e).1) z3
  clear hg hr O4
  go_wp2_with fail
  refine (heldints_any _ _ c4 1 _ (by omega) (by omega) M4.ints).mono ?_
  rintro e w11 ⟨rfl, rfl⟩
  go_wp2_with fail
  refine (hT _ q0).mono ?_
  rintro e w12 ⟨g12, rfl, _, hr12, hq⟩
  replace q0 := btr q0 hq
  replace I2 := I2.below hq
  replace M4 := M4.below hq
  have I12 := Ints.of_row hr12
  clear hq hr12
  go_wp2_with fail
  refine (hI _ _ I12).mono ?_
  rintro e w13 ⟨A13, c13, rfl, hO13, hq⟩
  replace q0 := btr q0 hq
  replace I2 := I2.below hq
  replace M4 := M4.below hq
  clear hq I12
  go_wp2_with fail
  refine (eqints_same (by omega) hO13.ints' I2.ints).mono ?_
  rintro e w14 ⟨rfl, hq⟩
  replace q0 := btr q0 hq
  replace M4 := M4.below hq
  clear hq hO13 I2
  go_wp2_with fail
  refine (heldints_any _ _ c4 1 _ (by omega) (by omega) M4.ints).mono ?_
  rintro e w15 ⟨rfl, rfl⟩
  go_wp2
  go_ret
  exact ⟨rfl, q0⟩
end Go.Proofs.Ytmnfnpmeacfebaa
