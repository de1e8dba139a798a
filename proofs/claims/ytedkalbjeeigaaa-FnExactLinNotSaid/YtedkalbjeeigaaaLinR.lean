/- Walk of the exact law of LinNot. -/
import Derived.Test.YtedkalbjeeigaaaMark
import Derived.Test.YtedkalbjeeigaaaLinL
namespace Go.Proofs.Ytedkalbjeeigaaa
set_option linter.unusedVariables false
set_option linter.unusedSimpArgs false
open Go.RowKit
set_option maxRecDepth 100000 in
set_option maxHeartbeats 4000000 in
theorem walk_ExactLinNot (A : Option Addr) (n c : Nat) (Z : Nat → Int) (b : Int) (s : Bool) (w : World) (hn : n ≤ 9223372036854775807) (hA : Ints w A n Z) :
    Calls Try.prog 12 #[.agg #[.slice A n c, .int .i64 b, .bool s]] w fun e w' => e = .returned (.bool true) ∧ Below w.heap.size w w' := by
  have hS := fun W => szlin_any A n c b 1048576 s W hn (by omega)
  have H := KcL.new3 w (.slice A n c) (.int .i64 b) (.bool s) 42 rfl
  have q0 := bal (Below.refl w.heap.size w) (.cells #[.slice A n c, .int .i64 b, .bool s] 42)
  by_cases hb : (1048576 : Int) < n
  · rw [if_pos hb] at hS
    clear hb
    have HH_ := H; obtain ⟨c0, c1, c2, _⟩ := HH_
    go_enter Try.func12, Try.ntmps12
    go_wp2_with (go_at_call 36; refine (hS _).mono ?_; rintro e w1 ⟨rfl, hq⟩)
    go_ret
    exact ⟨rfl, btr q0 hq⟩
  rw [if_neg hb] at hS
  have hn2 : n ≤ 1048576 := by omega
  have hl : 0 ≤ (1048576 : Int) - n := by omega
  generalize (1048576 : Int) - n = l at hS hl
  have hT := fun W (h : Below w.heap.size w W) => tolin_any A n c Z b s W hn2 (hA.below h)
  generalize hR : notR n Z b s = R
  have HR := hid hR; clear hR
  have hR4 : R.1 ≤ 4 := by rw [← HR.out]; unfold notR; split <;> simp [zeroL]
  clear hb hA
  go_enter Try.func12, Try.ntmps12
  have HH_ := H; obtain ⟨c0, c1, c2, _⟩ := HH_
  go_wp2_with fail
  refine (hS _).mono ?_
  rintro e w1 ⟨rfl, hq⟩
  clear c0 c1 c2
  replace H := H.below hq
  replace q0 := btr q0 hq
  clear hS hq
  have HH_ := H; obtain ⟨c0, c1, c2, _⟩ := HH_
  go_wp2_with fail
  refine (hT _ q0).mono ?_
  rintro e w2 ⟨v, rfl, ⟨A2, k2, rfl, _, _, hO2⟩, hq⟩
  clear c0 c1 c2
  replace H := H.below hq
  replace q0 := btr q0 hq
  clear hq
  have HH_ := H; obtain ⟨c0, c1, c2, _⟩ := HH_
  go_wp2_with fail
  refine (slinnot_any A2 n k2 Z b s w2 (by omega) hO2.ints).mono ?_
  rintro e w3 ⟨v, rfl, hv, hq⟩
  clear c0 c1 c2
  replace H := H.below hq
  replace q0 := btr q0 hq
  rw [HR.out] at hv
  obtain ⟨A3, k3, rfl, _, _, hO3⟩ := hv
  have O3 := hO3.ownB
  have z3 := hq.size
  have y3 : w.heap.size < w3.heap.size := cell_lt H.1
  clear hq hO2 hO3
  have N := KcL.new3 w3 (.slice A3 R.1 k3) (.int .i64 R.2.2.1) (.bool R.2.2.2) 25 rfl
  have al := bal (Below.refl w3.heap.size w3) (.cells #[.slice A3 R.1 k3, .int .i64 R.2.2.1, .bool R.2.2.2] 25)
  replace H := (H.below al).app N
  replace q0 := btr q0 al
  replace O3 := O3.below al
  clear N al
  have HH_ := H; obtain ⟨c0, c1, c2, c3, c4, c5, _⟩ := HH_
  go_wp2_with fail
  refine (hT _ q0).mono ?_
  rintro e w4 ⟨v, rfl, ⟨A4, k4, rfl, _, _, hO4⟩, hq⟩
  clear c0 c1 c2 c3 c4 c5
  replace H := H.below hq
  replace q0 := btr q0 hq
  replace O3 := O3.below hq
  have O4 := hO4.ownB
  have z4 := hq.size
  clear hq hO4
  rw [World.size_alloc] at z4
  rw [World.size_alloc] at O4
  have N := KcL.new3 w4 (.slice A4 n k4) (.int .i64 b) (.bool s) 25 rfl
  have al := bal (Below.refl w4.heap.size w4) (.cells #[.slice A4 n k4, .int .i64 b, .bool s] 25)
  replace H := (H.below al).app N
  replace q0 := btr q0 al
  replace O3 := O3.below al
  replace O4 := O4.below al
  clear N al
  have HH_ := H; obtain ⟨c0, c1, c2, c3, c4, c5, c6, c7, c8, _⟩ := HH_
  go_wp2_with fail
  refine (linnot_any A4 n k4 Z b s _ (by omega) O4.ints).mono ?_
  rintro e w5 ⟨v, rfl, hv, hq⟩
  clear c0 c1 c2 c3 c4 c5 c6 c7 c8
  replace H := H.below hq
  replace q0 := btr q0 hq
  replace O3 := O3.below hq
  replace O4 := O4.below hq
  rw [HR.out] at hv
  obtain ⟨A5, k5, rfl, _, _, hO5⟩ := hv
  have O5 := hO5.ownB
  have z5 := hq.size
  clear hq hO5
  rw [World.size_alloc] at z5
  rw [World.size_alloc] at O5
  have N := KcL.new3 w5 (.slice A5 R.1 k5) (.int .i64 R.2.2.1) (.bool R.2.2.2) 25 rfl
  have al := bal (Below.refl w5.heap.size w5) (.cells #[.slice A5 R.1 k5, .int .i64 R.2.2.1, .bool R.2.2.2] 25)
  replace H := (H.below al).app N
  replace q0 := btr q0 al
  replace O3 := O3.below al
  replace O4 := O4.below al
  replace O5 := O5.below al
  clear N al
  have HH_ := H; obtain ⟨c0, c1, c2, c3, c4, c5, c6, c7, c8, c9, c10, c11, _⟩ := HH_
  go_wp2_with fail
  refine (eqlin_same (by omega) O5.ints O3.ints).mono ?_
  rintro e w6 ⟨rfl, hq⟩
  clear c0 c1 c2 c3 c4 c5 c6 c7 c8 c9 c10 c11
  replace H := H.below hq
  replace q0 := btr q0 hq
  replace O3 := O3.below hq
  replace O4 := O4.below hq
  replace O5 := O5.below hq
  clear hq
  have HH_ := H; obtain ⟨c0, c1, c2, c3, c4, c5, c6, c7, c8, c9, c10, c11, _⟩ := HH_
  have l0 := cell_lt c0
  have l3 := cell_lt c3
  have l6 := cell_lt c6
  have l9 := cell_lt c9
  have gc := @gro_cell w6
  go_wp2_with fail
  refine region_grow_call 2 rfl (by kernel_rfl) (by kernel_rfl) rfl ?_; simp only [List.take_succ_cons, List.take_zero]; (repeat (go_big_quiet_step (fail))); refine wpQuiet_nil ?_
  intro w7 hq
  clear gc l0 l3 l6 l9
  clear c0 c1 c2 c3 c4 c5 c6 c7 c8 c9 c10 c11
  refine ⟨37, #[.agg #[.slice A n c, .int .i64 b, .bool s]], by kernel_rfl, ?_⟩
  refine (hT _ (btr q0 hq)).mono ?_
  rintro e w8 ⟨v, rfl, ⟨A8, k8, rfl, _, _, hO8⟩, hq8⟩
  refine ⟨_, rfl, btr hq hq8, ?_⟩
  replace H := H.below (btr hq hq8)
  replace q0 := btr q0 (btr hq hq8)
  replace O3 := O3.below (btr hq hq8)
  replace O4 := O4.below (btr hq hq8)
  replace O5 := O5.below (btr hq hq8)
  clear hq hq8
  have HH_ := H; obtain ⟨c0, c1, c2, c3, c4, c5, c6, c7, c8, c9, c10, c11, _⟩ := HH_
  go_wp2_with fail
  refine (eqlin_same (by omega) O4.ints hO8.ints).mono ?_
  rintro e w9 ⟨rfl, hq⟩
  clear c0 c1 c2 c3 c4 c5 c6 c7 c8 c9 c10 c11
  replace H := H.below hq
  replace q0 := btr q0 hq
  replace O3 := O3.below hq
  replace O4 := O4.below hq
  replace O5 := O5.below hq
  clear hq hO8
  have HH_ := H; obtain ⟨c0, c1, c2, c3, c4, c5, c6, c7, c8, c9, c10, c11, _⟩ := HH_
  go_wp2_with fail
  refine (marklin_any _ _ A4 n k4 Z b 1 s _ hn2 (by omega) O4).mono ?_
  rintro e w10 ⟨rfl, O4, row, hg, hr⟩
  clear c0 c1 c2 c3 c4 c5 c6 c7 c8 c9 c10 c11
  replace H := H.keep hg (fun e he g hg => by have := hr g hg; simp at he; rcases he with rfl | rfl | rfl | rfl | rfl | rfl | rfl | rfl | rfl | rfl | rfl | rfl <;> omega)
  replace O3 := O3.keep hg (fun g hg => by have := hr g hg; omega)
  replace O5 := O5.keep hg (fun g hg => by have := hr g hg; omega)
  replace q0 := q0.grown hg q0.size (fun g hgg => by have := hr g hgg; omega)
  clear hg hr row
  have n1 : decide ((1 : Int) + n < 0) = false := by simp; omega
  have HH_ := H; obtain ⟨c0, c1, c2, c3, c4, c5, c6, c7, c8, c9, c10, c11, _⟩ := HH_
  go_wp2_with fail
  refine (eqlin_same (by omega) O5.ints O3.ints).mono ?_
  rintro e w11 ⟨rfl, hq⟩
  clear c0 c1 c2 c3 c4 c5 c6 c7 c8 c9 c10 c11
  replace H := H.below hq
  replace q0 := btr q0 hq
  replace O3 := O3.below hq
  replace O4 := O4.below hq
  replace O5 := O5.below hq
  clear hq
  have HH_ := H; obtain ⟨c0, c1, c2, c3, c4, c5, c6, c7, c8, c9, c10, c11, _⟩ := HH_
  go_wp2_with fail
  refine (marklin_any _ _ A5 R.1 k5 R.2.1 R.2.2.1 1 R.2.2.2 _ (by omega) (by omega) O5).mono ?_
  rintro e w12 ⟨rfl, O5, row, hg, hr⟩
  clear c0 c1 c2 c3 c4 c5 c6 c7 c8 c9 c10 c11
  replace H := H.keep hg (fun e he g hg => by have := hr g hg; simp at he; rcases he with rfl | rfl | rfl | rfl | rfl | rfl | rfl | rfl | rfl | rfl | rfl | rfl <;> omega)
  replace O3 := O3.keep hg (fun g hg => by have := hr g hg; omega)
  replace O4 := O4.keep hg (fun g hg => by have := hr g hg; omega)
  replace q0 := q0.grown hg q0.size (fun g hgg => by have := hr g hgg; omega)
  clear hg hr row
  have n2 : decide ((1 : Int) + R.1 < 0) = false := by simp; omega
  have n3 : ((1 : Int) + R.1 != 1 + R.1) = false := by simp
  have HH_ := H; obtain ⟨c0, c1, c2, c3, c4, c5, c6, c7, c8, c9, c10, c11, _⟩ := HH_
  go_wp2_with fail
  refine (heldlin_any A5 R.1 k5 R.2.2.1 1 R.2.2.2 _ (by omega) (by omega) O5.ints).mono ?_
  rintro e w13 ⟨rfl, hq⟩
  clear c0 c1 c2 c3 c4 c5 c6 c7 c8 c9 c10 c11
  replace H := H.below hq
  replace q0 := btr q0 hq
  replace O3 := O3.below hq
  replace O4 := O4.below hq
  replace O5 := O5.below hq
  clear hq
  have HH_ := H; obtain ⟨c0, c1, c2, c3, c4, c5, c6, c7, c8, c9, c10, c11, _⟩ := HH_
  go_wp2_with fail
  refine (hT _ q0).mono ?_
  rintro e w14 ⟨v, rfl, ⟨A9, k9, rfl, _, _, hO9⟩, hq⟩
  clear c0 c1 c2 c3 c4 c5 c6 c7 c8 c9 c10 c11
  replace H := H.below hq
  replace q0 := btr q0 hq
  replace O3 := O3.below hq
  replace O4 := O4.below hq
  replace O5 := O5.below hq
  clear hq
  have HH_ := H; obtain ⟨c0, c1, c2, c3, c4, c5, c6, c7, c8, c9, c10, c11, _⟩ := HH_
  go_wp2_with fail
  refine (linnot_any A9 n k9 Z b s _ (by omega) hO9.ints).mono ?_
  rintro e w15 ⟨v, rfl, hv, hq⟩
  clear c0 c1 c2 c3 c4 c5 c6 c7 c8 c9 c10 c11
  replace H := H.below hq
  replace q0 := btr q0 hq
  replace O3 := O3.below hq
  replace O4 := O4.below hq
  replace O5 := O5.below hq
  rw [HR.out] at hv
  obtain ⟨A10, k10, rfl, _, _, hO10⟩ := hv
  have O10 := hO10.ownB
  clear hq hO9 hO10
  have N := KcL.new3 w15 (.slice A10 R.1 k10) (.int .i64 R.2.2.1) (.bool R.2.2.2) 25 rfl
  have al := bal (Below.refl w15.heap.size w15) (.cells #[.slice A10 R.1 k10, .int .i64 R.2.2.1, .bool R.2.2.2] 25)
  replace H := (H.below al).app N
  replace q0 := btr q0 al
  replace O3 := O3.below al
  replace O4 := O4.below al
  replace O5 := O5.below al
  replace O10 := O10.below al
  clear N al
  have HH_ := H; obtain ⟨c0, c1, c2, c3, c4, c5, c6, c7, c8, c9, c10, c11, c12, c13, c14, _⟩ := HH_
  go_wp2_with fail
  refine (eqlin_same (by omega) O10.ints O3.ints).mono ?_
  rintro e w16 ⟨rfl, hq⟩
  clear c0 c1 c2 c3 c4 c5 c6 c7 c8 c9 c10 c11 c12 c13 c14
  replace H := H.below hq
  replace q0 := btr q0 hq
  replace O3 := O3.below hq
  replace O4 := O4.below hq
  replace O5 := O5.below hq
  replace O10 := O10.below hq
  clear hq
  have HH_ := H; obtain ⟨c0, c1, c2, c3, c4, c5, c6, c7, c8, c9, c10, c11, c12, c13, c14, _⟩ := HH_
  go_wp2_with fail
  refine (heldlin_any A5 R.1 k5 R.2.2.1 1 R.2.2.2 _ (by omega) (by omega) O5.ints).mono ?_
  rintro e w17 ⟨rfl, hq⟩
  clear c0 c1 c2 c3 c4 c5 c6 c7 c8 c9 c10 c11 c12 c13 c14
  replace H := H.below hq
  replace q0 := btr q0 hq
  replace O3 := O3.below hq
  replace O4 := O4.below hq
  replace O5 := O5.below hq
  replace O10 := O10.below hq
  clear hq
  go_wp2_with fail
  go_ret
  exact ⟨rfl, q0⟩
end Go.Proofs.Ytedkalbjeeigaaa
