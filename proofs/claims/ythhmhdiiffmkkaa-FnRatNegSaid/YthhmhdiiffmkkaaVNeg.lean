/- The law FnRatNeg: the walk. -/
import Derived.Test.YthhmhdiiffmkkaaLawK
namespace Go.Proofs.Ythhmhdiiffmkkaa
set_option linter.unusedVariables false
set_option linter.unusedSimpArgs false
open Go.RowKit
set_option maxHeartbeats 8000000 in
theorem walk_RatNeg (a0 : Option Addr) (len0 cap0 : Nat) (w : World) (hby : Bytes w.heap.size w a0 len0) (hlc : len0 ≤ cap0) (hc : cap0 ≤ 9223372036854775807) :
    Calls Try.prog 9 #[.slice a0 len0 cap0] w fun e w' => e = .returned (.bool true) ∧ Below w.heap.size w w' := by
  by_cases hbig : 1048576 < len0
  · go_enter Try.func9, Try.ntmps9
    go_wp2
    go_ret
    exact ⟨rfl, Below.refl _ _⟩
  have H : Kp [] w w := Kp.new0 w
  go_enter Try.func9, Try.ntmps9
  go_wp2_with fail
  refine (drawone_any w.heap.size w a0 len0 cap0 (Nat.le_refl _) hby hlc hc).mono ?_
  rintro e w1 ⟨x, y, rfl, hq⟩
  replace H := Kp.call hq H
  clear hq
  replace H := H.consNew (.int .i64 x) (.int .i64 y) 26
  have HC := H
  obtain ⟨hb_1, c1_0_0, c1_0_1, hT_1⟩ := HC
  clear hby
  cases hv : okB x y
  · go_wp2_with fail
    refine (ratok_at x y _ hv).mono ?_
    rintro e w2 ⟨rfl, hq⟩
    clear hb_1 c1_0_0 c1_0_1 hT_1
    replace H := Kp.call hq H
    clear hq
    have HC := H
    obtain ⟨hb_2, c2_0_0, c2_0_1, hT_2⟩ := HC
    go_wp2_with fail
    refine (sok_at x y _ hv).mono ?_
    rintro e w3 ⟨rfl, hq⟩
    clear hb_2 c2_0_0 c2_0_1 hT_2
    replace H := Kp.call hq H
    clear hq
    have HC := H
    obtain ⟨hb_3, c3_0_0, c3_0_1, hT_3⟩ := HC
    go_wp2_with fail
    refine (sok_at x y _ hv).mono ?_
    rintro e w4 ⟨rfl, hq⟩
    clear hb_3 c3_0_0 c3_0_1 hT_3
    replace H := Kp.call hq H
    clear hq
    have HC := H
    obtain ⟨hb_4, c4_0_0, c4_0_1, hT_4⟩ := HC
    go_wp2_with fail
    go_ret
    exact ⟨rfl, H.1⟩
  · obtain ⟨b1, b2, b3, b4⟩ := ok_b hv
    go_wp2_with fail
    refine (ratok_at x y _ hv).mono ?_
    rintro e w2 ⟨rfl, hq⟩
    clear hb_1 c1_0_0 c1_0_1 hT_1
    replace H := Kp.call hq H
    clear hq
    have HC := H
    obtain ⟨hb_2, c2_0_0, c2_0_1, hT_2⟩ := HC
    go_wp2_with fail
    refine (sok_at x y _ hv).mono ?_
    rintro e w3 ⟨rfl, hq⟩
    clear hb_2 c2_0_0 c2_0_1 hT_2
    replace H := Kp.call hq H
    clear hq
    have HC := H
    obtain ⟨hb_3, c3_0_0, c3_0_1, hT_3⟩ := HC
    rcases (show x < 0 ∨ x = 0 ∨ 0 < x by omega) with hx | rfl | hx
    · have A1 := add_neg hv
      have A2 := mul_m1 hv
      have hn := okneg hv
      have q1 : x * y < -x * y := by rw [Int.neg_mul]; have := Int.mul_neg_of_neg_of_pos hx (ok_pos hv); omega
      have l1 := less_t hv hn q1
      have l2 := less_f hn hv (show ¬ -x * y < x * y by omega)
      have x0 : (x == 0) = false := by simp; omega
      have x1 : (x != 0) = true := by simp; omega
      replace H := H.consNew (.int .i64 (-x)) (.int .i64 y) 26
      have HC := H
      obtain ⟨hb_4, c4_0_0, c4_0_1, c4_1_0, c4_1_1, hT_4⟩ := HC
      go_wp2_with fail
      refine (radd_at _ A1).mono ?_
      rintro e w5 ⟨rfl, hq⟩
      clear hb_3 c3_0_0 c3_0_1 hT_3 hb_4 c4_0_0 c4_0_1 c4_1_0 c4_1_1 hT_4
      replace H := Kp.call hq H
      clear hq
      replace H := H.consNew (.int .i64 0) (.int .i64 1) 26
      have HC := H
      obtain ⟨hb_5, c5_0_0, c5_0_1, c5_1_0, c5_1_1, c5_2_0, c5_2_1, hT_5⟩ := HC
      go_wp2_with fail
      refine (rmul_at _ A2).mono ?_
      rintro e w6 ⟨rfl, hq⟩
      clear hb_5 c5_0_0 c5_0_1 c5_1_0 c5_1_1 c5_2_0 c5_2_1 hT_5
      replace H := Kp.call hq H
      clear hq
      replace H := H.consNew (.int .i64 (-x)) (.int .i64 y) 26
      have HC := H
      obtain ⟨hb_6, c6_0_0, c6_0_1, c6_1_0, c6_1_1, c6_2_0, c6_2_1, c6_3_0, c6_3_1, hT_6⟩ := HC
      go_wp2_with fail
      have gx0 : ∀ X, (gro (w6.alloc (.cells #[.int .i64 (-x), .int .i64 y] 26)) X).cell? ⟨w6.heap.size, 0, none⟩ = some (.int .i64 (-x)) := fun X => (KpL.gro H.2 X).1
      have gy0 : ∀ X, (gro (w6.alloc (.cells #[.int .i64 (-x), .int .i64 y] 26)) X).cell? ⟨w6.heap.size, 1, none⟩ = some (.int .i64 y) := fun X => (KpL.gro H.2 X).2.1
      have gx1 : ∀ X, (gro (w6.alloc (.cells #[.int .i64 (-x), .int .i64 y] 26)) X).cell? ⟨w5.heap.size, 0, none⟩ = some (.int .i64 0) := fun X => (KpL.gro H.2 X).2.2.1
      have gy1 : ∀ X, (gro (w6.alloc (.cells #[.int .i64 (-x), .int .i64 y] 26)) X).cell? ⟨w5.heap.size, 1, none⟩ = some (.int .i64 1) := fun X => (KpL.gro H.2 X).2.2.2.1
      have gx2 : ∀ X, (gro (w6.alloc (.cells #[.int .i64 (-x), .int .i64 y] 26)) X).cell? ⟨w3.heap.size, 0, none⟩ = some (.int .i64 (-x)) := fun X => (KpL.gro H.2 X).2.2.2.2.1
      have gy2 : ∀ X, (gro (w6.alloc (.cells #[.int .i64 (-x), .int .i64 y] 26)) X).cell? ⟨w3.heap.size, 1, none⟩ = some (.int .i64 y) := fun X => (KpL.gro H.2 X).2.2.2.2.2.1
      have gx3 : ∀ X, (gro (w6.alloc (.cells #[.int .i64 (-x), .int .i64 y] 26)) X).cell? ⟨w1.heap.size, 0, none⟩ = some (.int .i64 x) := fun X => (KpL.gro H.2 X).2.2.2.2.2.2.1
      have gy3 : ∀ X, (gro (w6.alloc (.cells #[.int .i64 (-x), .int .i64 y] 26)) X).cell? ⟨w1.heap.size, 1, none⟩ = some (.int .i64 y) := fun X => (KpL.gro H.2 X).2.2.2.2.2.2.2.1
      refine wp_region_grow_lit (by kernel_rfl) (by kernel_rfl) ?_
      repeat (go_big_quiet_step ((first | (go_at_call 20; exact grow_call _ (ratok_at _ _ _ hn)) | (go_at_call 30; exact grow_call _ (rless_at _ l1)) | (go_at_call 30; exact grow_call _ (rless_at _ l2)))))
      refine wpQuiet_nil ?_
      rintro _ ⟨X, rfl⟩
      clear hb_6 c6_0_0 c6_0_1 c6_1_0 c6_1_1 c6_2_0 c6_2_1 c6_3_0 c6_3_1 hT_6
      clear gx0 gy0 gx1 gy1 gx2 gy2 gx3 gy3
      replace H := Kp.call X.h H
      have HC := H
      obtain ⟨hb_7, c7_0_0, c7_0_1, c7_1_0, c7_1_1, c7_2_0, c7_2_1, c7_3_0, c7_3_1, hT_7⟩ := HC
      go_wp2_with fail
      go_ret
      exact ⟨rfl, H.1⟩
    · have A1 : addR 0 y 0 y = (0, 1, true) := by simpa using add_neg hv
      have A2 : mulR 0 y (-1) 1 = (0, y, true) := by simpa using mul_m1 hv
      have hn := hv
      have l1 : lessB 0 y 0 y = false := less_f hv hv (by omega)
      have l2 := l1
      replace H := H.consNew (.int .i64 0) (.int .i64 y) 26
      have HC := H
      obtain ⟨hb_4, c4_0_0, c4_0_1, c4_1_0, c4_1_1, hT_4⟩ := HC
      go_wp2_with fail
      refine (radd_at _ A1).mono ?_
      rintro e w5 ⟨rfl, hq⟩
      clear hb_3 c3_0_0 c3_0_1 hT_3 hb_4 c4_0_0 c4_0_1 c4_1_0 c4_1_1 hT_4
      replace H := Kp.call hq H
      clear hq
      replace H := H.consNew (.int .i64 0) (.int .i64 1) 26
      have HC := H
      obtain ⟨hb_5, c5_0_0, c5_0_1, c5_1_0, c5_1_1, c5_2_0, c5_2_1, hT_5⟩ := HC
      go_wp2_with fail
      refine (rmul_at _ A2).mono ?_
      rintro e w6 ⟨rfl, hq⟩
      clear hb_5 c5_0_0 c5_0_1 c5_1_0 c5_1_1 c5_2_0 c5_2_1 hT_5
      replace H := Kp.call hq H
      clear hq
      replace H := H.consNew (.int .i64 0) (.int .i64 y) 26
      have HC := H
      obtain ⟨hb_6, c6_0_0, c6_0_1, c6_1_0, c6_1_1, c6_2_0, c6_2_1, c6_3_0, c6_3_1, hT_6⟩ := HC
      go_wp2_with fail
      have gx0 : ∀ X, (gro (w6.alloc (.cells #[.int .i64 0, .int .i64 y] 26)) X).cell? ⟨w6.heap.size, 0, none⟩ = some (.int .i64 0) := fun X => (KpL.gro H.2 X).1
      have gy0 : ∀ X, (gro (w6.alloc (.cells #[.int .i64 0, .int .i64 y] 26)) X).cell? ⟨w6.heap.size, 1, none⟩ = some (.int .i64 y) := fun X => (KpL.gro H.2 X).2.1
      have gx1 : ∀ X, (gro (w6.alloc (.cells #[.int .i64 0, .int .i64 y] 26)) X).cell? ⟨w5.heap.size, 0, none⟩ = some (.int .i64 0) := fun X => (KpL.gro H.2 X).2.2.1
      have gy1 : ∀ X, (gro (w6.alloc (.cells #[.int .i64 0, .int .i64 y] 26)) X).cell? ⟨w5.heap.size, 1, none⟩ = some (.int .i64 1) := fun X => (KpL.gro H.2 X).2.2.2.1
      have gx2 : ∀ X, (gro (w6.alloc (.cells #[.int .i64 0, .int .i64 y] 26)) X).cell? ⟨w3.heap.size, 0, none⟩ = some (.int .i64 0) := fun X => (KpL.gro H.2 X).2.2.2.2.1
      have gy2 : ∀ X, (gro (w6.alloc (.cells #[.int .i64 0, .int .i64 y] 26)) X).cell? ⟨w3.heap.size, 1, none⟩ = some (.int .i64 y) := fun X => (KpL.gro H.2 X).2.2.2.2.2.1
      have gx3 : ∀ X, (gro (w6.alloc (.cells #[.int .i64 0, .int .i64 y] 26)) X).cell? ⟨w1.heap.size, 0, none⟩ = some (.int .i64 0) := fun X => (KpL.gro H.2 X).2.2.2.2.2.2.1
      have gy3 : ∀ X, (gro (w6.alloc (.cells #[.int .i64 0, .int .i64 y] 26)) X).cell? ⟨w1.heap.size, 1, none⟩ = some (.int .i64 y) := fun X => (KpL.gro H.2 X).2.2.2.2.2.2.2.1
      refine wp_region_grow_lit (by kernel_rfl) (by kernel_rfl) ?_
      repeat (go_big_quiet_step ((first | (go_at_call 20; exact grow_call _ (ratok_at _ _ _ hn)) | (go_at_call 30; exact grow_call _ (rless_at _ l1)) | (go_at_call 30; exact grow_call _ (rless_at _ l2)))))
      refine wpQuiet_nil ?_
      rintro _ ⟨X, rfl⟩
      clear hb_6 c6_0_0 c6_0_1 c6_1_0 c6_1_1 c6_2_0 c6_2_1 c6_3_0 c6_3_1 hT_6
      clear gx0 gy0 gx1 gy1 gx2 gy2 gx3 gy3
      replace H := Kp.call X.h H
      have HC := H
      obtain ⟨hb_7, c7_0_0, c7_0_1, c7_1_0, c7_1_1, c7_2_0, c7_2_1, c7_3_0, c7_3_1, hT_7⟩ := HC
      go_wp2_with fail
      go_ret
      exact ⟨rfl, H.1⟩
    · have A1 := add_neg hv
      have A2 := mul_m1 hv
      have hn := okneg hv
      have q1 : -x * y < x * y := by rw [Int.neg_mul]; have := Int.mul_pos hx (ok_pos hv); omega
      have l1 := less_f hv hn (show ¬ x * y < -x * y by omega)
      have l2 := less_t hn hv q1
      have x0 : (x == 0) = false := by simp; omega
      have x1 : (x != 0) = true := by simp; omega
      replace H := H.consNew (.int .i64 (-x)) (.int .i64 y) 26
      have HC := H
      obtain ⟨hb_4, c4_0_0, c4_0_1, c4_1_0, c4_1_1, hT_4⟩ := HC
      go_wp2_with fail
      refine (radd_at _ A1).mono ?_
      rintro e w5 ⟨rfl, hq⟩
      clear hb_3 c3_0_0 c3_0_1 hT_3 hb_4 c4_0_0 c4_0_1 c4_1_0 c4_1_1 hT_4
      replace H := Kp.call hq H
      clear hq
      replace H := H.consNew (.int .i64 0) (.int .i64 1) 26
      have HC := H
      obtain ⟨hb_5, c5_0_0, c5_0_1, c5_1_0, c5_1_1, c5_2_0, c5_2_1, hT_5⟩ := HC
      go_wp2_with fail
      refine (rmul_at _ A2).mono ?_
      rintro e w6 ⟨rfl, hq⟩
      clear hb_5 c5_0_0 c5_0_1 c5_1_0 c5_1_1 c5_2_0 c5_2_1 hT_5
      replace H := Kp.call hq H
      clear hq
      replace H := H.consNew (.int .i64 (-x)) (.int .i64 y) 26
      have HC := H
      obtain ⟨hb_6, c6_0_0, c6_0_1, c6_1_0, c6_1_1, c6_2_0, c6_2_1, c6_3_0, c6_3_1, hT_6⟩ := HC
      go_wp2_with fail
      have gx0 : ∀ X, (gro (w6.alloc (.cells #[.int .i64 (-x), .int .i64 y] 26)) X).cell? ⟨w6.heap.size, 0, none⟩ = some (.int .i64 (-x)) := fun X => (KpL.gro H.2 X).1
      have gy0 : ∀ X, (gro (w6.alloc (.cells #[.int .i64 (-x), .int .i64 y] 26)) X).cell? ⟨w6.heap.size, 1, none⟩ = some (.int .i64 y) := fun X => (KpL.gro H.2 X).2.1
      have gx1 : ∀ X, (gro (w6.alloc (.cells #[.int .i64 (-x), .int .i64 y] 26)) X).cell? ⟨w5.heap.size, 0, none⟩ = some (.int .i64 0) := fun X => (KpL.gro H.2 X).2.2.1
      have gy1 : ∀ X, (gro (w6.alloc (.cells #[.int .i64 (-x), .int .i64 y] 26)) X).cell? ⟨w5.heap.size, 1, none⟩ = some (.int .i64 1) := fun X => (KpL.gro H.2 X).2.2.2.1
      have gx2 : ∀ X, (gro (w6.alloc (.cells #[.int .i64 (-x), .int .i64 y] 26)) X).cell? ⟨w3.heap.size, 0, none⟩ = some (.int .i64 (-x)) := fun X => (KpL.gro H.2 X).2.2.2.2.1
      have gy2 : ∀ X, (gro (w6.alloc (.cells #[.int .i64 (-x), .int .i64 y] 26)) X).cell? ⟨w3.heap.size, 1, none⟩ = some (.int .i64 y) := fun X => (KpL.gro H.2 X).2.2.2.2.2.1
      have gx3 : ∀ X, (gro (w6.alloc (.cells #[.int .i64 (-x), .int .i64 y] 26)) X).cell? ⟨w1.heap.size, 0, none⟩ = some (.int .i64 x) := fun X => (KpL.gro H.2 X).2.2.2.2.2.2.1
      have gy3 : ∀ X, (gro (w6.alloc (.cells #[.int .i64 (-x), .int .i64 y] 26)) X).cell? ⟨w1.heap.size, 1, none⟩ = some (.int .i64 y) := fun X => (KpL.gro H.2 X).2.2.2.2.2.2.2.1
      refine wp_region_grow_lit (by kernel_rfl) (by kernel_rfl) ?_
      repeat (go_big_quiet_step ((first | (go_at_call 20; exact grow_call _ (ratok_at _ _ _ hn)) | (go_at_call 30; exact grow_call _ (rless_at _ l1)) | (go_at_call 30; exact grow_call _ (rless_at _ l2)))))
      refine wpQuiet_nil ?_
      rintro _ ⟨X, rfl⟩
      clear hb_6 c6_0_0 c6_0_1 c6_1_0 c6_1_1 c6_2_0 c6_2_1 c6_3_0 c6_3_1 hT_6
      clear gx0 gy0 gx1 gy1 gx2 gy2 gx3 gy3
      replace H := Kp.call X.h H
      have HC := H
      obtain ⟨hb_7, c7_0_0, c7_0_1, c7_1_0, c7_1_1, c7_2_0, c7_2_1, c7_3_0, c7_3_1, hT_7⟩ := HC
      go_wp2_with fail
      go_ret
      exact ⟨rfl, H.1⟩
end Go.Proofs.Ythhmhdiiffmkkaa
