/- The law FnRatAdd: the walk. -/
import Derived.Test.YthhmhdiiffmkkaaLawK
namespace Go.Proofs.Ythhmhdiiffmkkaa
set_option linter.unusedVariables false
set_option linter.unusedSimpArgs false
open Go.RowKit
set_option maxRecDepth 100000 in
set_option maxHeartbeats 8000000 in
theorem walk_RatAdd (a0 : Option Addr) (len0 cap0 : Nat) (w : World) (hby : Bytes w.heap.size w a0 len0) (hlc : len0 ≤ cap0) (hc : cap0 ≤ 9223372036854775807) :
    Calls Try.prog 4 #[.slice a0 len0 cap0] w fun e w' => e = .returned (.bool true) ∧ Below w.heap.size w w' := by
  by_cases hbig : 1048576 < len0
  · go_enter Try.func4, Try.ntmps4
    go_wp2
    go_ret
    exact ⟨rfl, Below.refl _ _⟩
  have H : Kp [] w w := Kp.new0 w
  go_enter Try.func4, Try.ntmps4
  go_wp2_with fail
  refine (drawRatAdd_any w.heap.size w a0 len0 cap0 (Nat.le_refl _) hby hlc hc).mono ?_
  rintro e w1 ⟨x, y, u, v, rfl, hq⟩
  replace H := Kp.call hq H
  clear hq
  replace H := H.consNew (.int .i64 x) (.int .i64 y) 26
  replace H := H.newpair (World.size_alloc _ _) (.int .i64 u) (.int .i64 v) 26
  have HC := H
  obtain ⟨hb_1, c1_0_0, c1_0_1, c1_1_0, c1_1_1, hT_1⟩ := HC
  clear hby
  rcases addR_cases x y u v with hA | ⟨P, Q, hA⟩
  · cases hv : okB x y
    · go_wp2_with fail
      refine (radd_at _ hA).mono ?_
      rintro e w2 ⟨rfl, hq⟩
      clear hb_1 c1_0_0 c1_0_1 c1_1_0 c1_1_1 hT_1
      replace H := Kp.call hq H
      clear hq
      replace H := H.consNew (.int .i64 0) (.int .i64 0) 26
      have HC := H
      obtain ⟨hb_2, c2_0_0, c2_0_1, c2_1_0, c2_1_1, c2_2_0, c2_2_1, hT_2⟩ := HC
      go_wp2_with fail
      refine (sadd_at _ hA).mono ?_
      rintro e w3 ⟨rfl, hq⟩
      clear hb_2 c2_0_0 c2_0_1 c2_1_0 c2_1_1 c2_2_0 c2_2_1 hT_2
      replace H := Kp.call hq H
      clear hq
      replace H := H.consNew (.int .i64 0) (.int .i64 0) 26
      have HC := H
      obtain ⟨hb_3, c3_0_0, c3_0_1, c3_1_0, c3_1_1, c3_2_0, c3_2_1, c3_3_0, c3_3_1, hT_3⟩ := HC
      go_wp2_with fail
      refine (radd_at _ ((addR_comm x y u v).trans hA)).mono ?_
      rintro e w4 ⟨rfl, hq⟩
      clear hb_3 c3_0_0 c3_0_1 c3_1_0 c3_1_1 c3_2_0 c3_2_1 c3_3_0 c3_3_1 hT_3
      replace H := Kp.call hq H
      clear hq
      replace H := H.consNew (.int .i64 0) (.int .i64 0) 26
      have HC := H
      obtain ⟨hb_4, c4_0_0, c4_0_1, c4_1_0, c4_1_1, c4_2_0, c4_2_1, c4_3_0, c4_3_1, c4_4_0, c4_4_1, hT_4⟩ := HC
      go_wp2_with fail
      have gx0 : ∀ X, (gro (w4.alloc (.cells #[.int .i64 0, .int .i64 0] 26)) X).cell? ⟨w4.heap.size, 0, none⟩ = some (.int .i64 0) := fun X => (KpL.gro H.2 X).1
      have gy0 : ∀ X, (gro (w4.alloc (.cells #[.int .i64 0, .int .i64 0] 26)) X).cell? ⟨w4.heap.size, 1, none⟩ = some (.int .i64 0) := fun X => (KpL.gro H.2 X).2.1
      have gx1 : ∀ X, (gro (w4.alloc (.cells #[.int .i64 0, .int .i64 0] 26)) X).cell? ⟨w3.heap.size, 0, none⟩ = some (.int .i64 0) := fun X => (KpL.gro H.2 X).2.2.1
      have gy1 : ∀ X, (gro (w4.alloc (.cells #[.int .i64 0, .int .i64 0] 26)) X).cell? ⟨w3.heap.size, 1, none⟩ = some (.int .i64 0) := fun X => (KpL.gro H.2 X).2.2.2.1
      have gx2 : ∀ X, (gro (w4.alloc (.cells #[.int .i64 0, .int .i64 0] 26)) X).cell? ⟨w2.heap.size, 0, none⟩ = some (.int .i64 0) := fun X => (KpL.gro H.2 X).2.2.2.2.1
      have gy2 : ∀ X, (gro (w4.alloc (.cells #[.int .i64 0, .int .i64 0] 26)) X).cell? ⟨w2.heap.size, 1, none⟩ = some (.int .i64 0) := fun X => (KpL.gro H.2 X).2.2.2.2.2.1
      have gx3 : ∀ X, (gro (w4.alloc (.cells #[.int .i64 0, .int .i64 0] 26)) X).cell? ⟨w1.heap.size + 1, 0, none⟩ = some (.int .i64 u) := fun X => (KpL.gro H.2 X).2.2.2.2.2.2.1
      have gy3 : ∀ X, (gro (w4.alloc (.cells #[.int .i64 0, .int .i64 0] 26)) X).cell? ⟨w1.heap.size + 1, 1, none⟩ = some (.int .i64 v) := fun X => (KpL.gro H.2 X).2.2.2.2.2.2.2.1
      have gx4 : ∀ X, (gro (w4.alloc (.cells #[.int .i64 0, .int .i64 0] 26)) X).cell? ⟨w1.heap.size, 0, none⟩ = some (.int .i64 x) := fun X => (KpL.gro H.2 X).2.2.2.2.2.2.2.2.1
      have gy4 : ∀ X, (gro (w4.alloc (.cells #[.int .i64 0, .int .i64 0] 26)) X).cell? ⟨w1.heap.size, 1, none⟩ = some (.int .i64 y) := fun X => (KpL.gro H.2 X).2.2.2.2.2.2.2.2.2.1
      refine wp_region_grow_lit (by kernel_rfl) (by kernel_rfl) ?_
      repeat (go_big_quiet_step ((first | (go_at_call 20; exact grow_call _ (ratok_at _ _ _ hv)) | (go_at_call 24; exact grow_call _ (sok_at _ _ _ hv)))))
      refine wpQuiet_nil ?_
      rintro _ ⟨X, rfl⟩
      clear hb_4 c4_0_0 c4_0_1 c4_1_0 c4_1_1 c4_2_0 c4_2_1 c4_3_0 c4_3_1 c4_4_0 c4_4_1 hT_4
      clear gx0 gy0 gx1 gy1 gx2 gy2 gx3 gy3 gx4 gy4
      replace H : Kp _ w (gro (w4.alloc (.cells #[.int .i64 0, .int .i64 0] 26)) X) := Kp.call (w1 := gro (w4.alloc (.cells #[.int .i64 0, .int .i64 0] 26)) X) X.h H
      have HC := H
      obtain ⟨hb_5, c5_0_0, c5_0_1, c5_1_0, c5_1_1, c5_2_0, c5_2_1, c5_3_0, c5_3_1, c5_4_0, c5_4_1, hT_5⟩ := HC
      go_wp2_with fail
      go_ret
      exact ⟨rfl, H.1⟩
    · go_wp2_with fail
      refine (radd_at _ hA).mono ?_
      rintro e w2 ⟨rfl, hq⟩
      clear hb_1 c1_0_0 c1_0_1 c1_1_0 c1_1_1 hT_1
      replace H := Kp.call hq H
      clear hq
      replace H := H.consNew (.int .i64 0) (.int .i64 0) 26
      have HC := H
      obtain ⟨hb_2, c2_0_0, c2_0_1, c2_1_0, c2_1_1, c2_2_0, c2_2_1, hT_2⟩ := HC
      go_wp2_with fail
      refine (sadd_at _ hA).mono ?_
      rintro e w3 ⟨rfl, hq⟩
      clear hb_2 c2_0_0 c2_0_1 c2_1_0 c2_1_1 c2_2_0 c2_2_1 hT_2
      replace H := Kp.call hq H
      clear hq
      replace H := H.consNew (.int .i64 0) (.int .i64 0) 26
      have HC := H
      obtain ⟨hb_3, c3_0_0, c3_0_1, c3_1_0, c3_1_1, c3_2_0, c3_2_1, c3_3_0, c3_3_1, hT_3⟩ := HC
      go_wp2_with fail
      refine (radd_at _ ((addR_comm x y u v).trans hA)).mono ?_
      rintro e w4 ⟨rfl, hq⟩
      clear hb_3 c3_0_0 c3_0_1 c3_1_0 c3_1_1 c3_2_0 c3_2_1 c3_3_0 c3_3_1 hT_3
      replace H := Kp.call hq H
      clear hq
      replace H := H.consNew (.int .i64 0) (.int .i64 0) 26
      have HC := H
      obtain ⟨hb_4, c4_0_0, c4_0_1, c4_1_0, c4_1_1, c4_2_0, c4_2_1, c4_3_0, c4_3_1, c4_4_0, c4_4_1, hT_4⟩ := HC
      go_wp2_with fail
      have gx0 : ∀ X, (gro (w4.alloc (.cells #[.int .i64 0, .int .i64 0] 26)) X).cell? ⟨w4.heap.size, 0, none⟩ = some (.int .i64 0) := fun X => (KpL.gro H.2 X).1
      have gy0 : ∀ X, (gro (w4.alloc (.cells #[.int .i64 0, .int .i64 0] 26)) X).cell? ⟨w4.heap.size, 1, none⟩ = some (.int .i64 0) := fun X => (KpL.gro H.2 X).2.1
      have gx1 : ∀ X, (gro (w4.alloc (.cells #[.int .i64 0, .int .i64 0] 26)) X).cell? ⟨w3.heap.size, 0, none⟩ = some (.int .i64 0) := fun X => (KpL.gro H.2 X).2.2.1
      have gy1 : ∀ X, (gro (w4.alloc (.cells #[.int .i64 0, .int .i64 0] 26)) X).cell? ⟨w3.heap.size, 1, none⟩ = some (.int .i64 0) := fun X => (KpL.gro H.2 X).2.2.2.1
      have gx2 : ∀ X, (gro (w4.alloc (.cells #[.int .i64 0, .int .i64 0] 26)) X).cell? ⟨w2.heap.size, 0, none⟩ = some (.int .i64 0) := fun X => (KpL.gro H.2 X).2.2.2.2.1
      have gy2 : ∀ X, (gro (w4.alloc (.cells #[.int .i64 0, .int .i64 0] 26)) X).cell? ⟨w2.heap.size, 1, none⟩ = some (.int .i64 0) := fun X => (KpL.gro H.2 X).2.2.2.2.2.1
      have gx3 : ∀ X, (gro (w4.alloc (.cells #[.int .i64 0, .int .i64 0] 26)) X).cell? ⟨w1.heap.size + 1, 0, none⟩ = some (.int .i64 u) := fun X => (KpL.gro H.2 X).2.2.2.2.2.2.1
      have gy3 : ∀ X, (gro (w4.alloc (.cells #[.int .i64 0, .int .i64 0] 26)) X).cell? ⟨w1.heap.size + 1, 1, none⟩ = some (.int .i64 v) := fun X => (KpL.gro H.2 X).2.2.2.2.2.2.2.1
      have gx4 : ∀ X, (gro (w4.alloc (.cells #[.int .i64 0, .int .i64 0] 26)) X).cell? ⟨w1.heap.size, 0, none⟩ = some (.int .i64 x) := fun X => (KpL.gro H.2 X).2.2.2.2.2.2.2.2.1
      have gy4 : ∀ X, (gro (w4.alloc (.cells #[.int .i64 0, .int .i64 0] 26)) X).cell? ⟨w1.heap.size, 1, none⟩ = some (.int .i64 y) := fun X => (KpL.gro H.2 X).2.2.2.2.2.2.2.2.2.1
      refine wp_region_grow_lit (by kernel_rfl) (by kernel_rfl) ?_
      repeat (go_big_quiet_step ((first | (go_at_call 20; exact grow_call _ (ratok_at _ _ _ hv)) | (go_at_call 24; exact grow_call _ (sok_at _ _ _ hv)))))
      refine wpQuiet_nil ?_
      rintro _ ⟨X, rfl⟩
      clear hb_4 c4_0_0 c4_0_1 c4_1_0 c4_1_1 c4_2_0 c4_2_1 c4_3_0 c4_3_1 c4_4_0 c4_4_1 hT_4
      clear gx0 gy0 gx1 gy1 gx2 gy2 gx3 gy3 gx4 gy4
      replace H : Kp _ w (gro (w4.alloc (.cells #[.int .i64 0, .int .i64 0] 26)) X) := Kp.call (w1 := gro (w4.alloc (.cells #[.int .i64 0, .int .i64 0] 26)) X) X.h H
      have HC := H
      obtain ⟨hb_5, c5_0_0, c5_0_1, c5_1_0, c5_1_1, c5_2_0, c5_2_1, c5_3_0, c5_3_1, c5_4_0, c5_4_1, hT_5⟩ := HC
      go_wp2_with fail
      go_ret
      exact ⟨rfl, H.1⟩
  · obtain ⟨hv, hu, hP, _⟩ := addR_spec hA
    obtain ⟨b1, b2, b3, b4⟩ := ok_b hu
    go_wp2_with fail
    refine (radd_at _ hA).mono ?_
    rintro e w2 ⟨rfl, hq⟩
    clear hb_1 c1_0_0 c1_0_1 c1_1_0 c1_1_1 hT_1
    replace H := Kp.call hq H
    clear hq
    replace H := H.consNew (.int .i64 P) (.int .i64 Q) 26
    have HC := H
    obtain ⟨hb_2, c2_0_0, c2_0_1, c2_1_0, c2_1_1, c2_2_0, c2_2_1, hT_2⟩ := HC
    go_wp2_with fail
    refine (sadd_at _ hA).mono ?_
    rintro e w3 ⟨rfl, hq⟩
    clear hb_2 c2_0_0 c2_0_1 c2_1_0 c2_1_1 c2_2_0 c2_2_1 hT_2
    replace H := Kp.call hq H
    clear hq
    replace H := H.consNew (.int .i64 P) (.int .i64 Q) 26
    have HC := H
    obtain ⟨hb_3, c3_0_0, c3_0_1, c3_1_0, c3_1_1, c3_2_0, c3_2_1, c3_3_0, c3_3_1, hT_3⟩ := HC
    go_wp2_with fail
    refine (radd_at _ ((addR_comm x y u v).trans hA)).mono ?_
    rintro e w4 ⟨rfl, hq⟩
    clear hb_3 c3_0_0 c3_0_1 c3_1_0 c3_1_1 c3_2_0 c3_2_1 c3_3_0 c3_3_1 hT_3
    replace H := Kp.call hq H
    clear hq
    replace H := H.consNew (.int .i64 P) (.int .i64 Q) 26
    have HC := H
    obtain ⟨hb_4, c4_0_0, c4_0_1, c4_1_0, c4_1_1, c4_2_0, c4_2_1, c4_3_0, c4_3_1, c4_4_0, c4_4_1, hT_4⟩ := HC
    go_wp2_with fail
    have gx0 : ∀ X, (gro (w4.alloc (.cells #[.int .i64 P, .int .i64 Q] 26)) X).cell? ⟨w4.heap.size, 0, none⟩ = some (.int .i64 P) := fun X => (KpL.gro H.2 X).1
    have gy0 : ∀ X, (gro (w4.alloc (.cells #[.int .i64 P, .int .i64 Q] 26)) X).cell? ⟨w4.heap.size, 1, none⟩ = some (.int .i64 Q) := fun X => (KpL.gro H.2 X).2.1
    have gx1 : ∀ X, (gro (w4.alloc (.cells #[.int .i64 P, .int .i64 Q] 26)) X).cell? ⟨w3.heap.size, 0, none⟩ = some (.int .i64 P) := fun X => (KpL.gro H.2 X).2.2.1
    have gy1 : ∀ X, (gro (w4.alloc (.cells #[.int .i64 P, .int .i64 Q] 26)) X).cell? ⟨w3.heap.size, 1, none⟩ = some (.int .i64 Q) := fun X => (KpL.gro H.2 X).2.2.2.1
    have gx2 : ∀ X, (gro (w4.alloc (.cells #[.int .i64 P, .int .i64 Q] 26)) X).cell? ⟨w2.heap.size, 0, none⟩ = some (.int .i64 P) := fun X => (KpL.gro H.2 X).2.2.2.2.1
    have gy2 : ∀ X, (gro (w4.alloc (.cells #[.int .i64 P, .int .i64 Q] 26)) X).cell? ⟨w2.heap.size, 1, none⟩ = some (.int .i64 Q) := fun X => (KpL.gro H.2 X).2.2.2.2.2.1
    have gx3 : ∀ X, (gro (w4.alloc (.cells #[.int .i64 P, .int .i64 Q] 26)) X).cell? ⟨w1.heap.size + 1, 0, none⟩ = some (.int .i64 u) := fun X => (KpL.gro H.2 X).2.2.2.2.2.2.1
    have gy3 : ∀ X, (gro (w4.alloc (.cells #[.int .i64 P, .int .i64 Q] 26)) X).cell? ⟨w1.heap.size + 1, 1, none⟩ = some (.int .i64 v) := fun X => (KpL.gro H.2 X).2.2.2.2.2.2.2.1
    have gx4 : ∀ X, (gro (w4.alloc (.cells #[.int .i64 P, .int .i64 Q] 26)) X).cell? ⟨w1.heap.size, 0, none⟩ = some (.int .i64 x) := fun X => (KpL.gro H.2 X).2.2.2.2.2.2.2.2.1
    have gy4 : ∀ X, (gro (w4.alloc (.cells #[.int .i64 P, .int .i64 Q] 26)) X).cell? ⟨w1.heap.size, 1, none⟩ = some (.int .i64 y) := fun X => (KpL.gro H.2 X).2.2.2.2.2.2.2.2.2.1
    refine wp_region_grow_lit (by kernel_rfl) (by kernel_rfl) ?_
    repeat (go_big_quiet_step ((first | (go_at_call 20; exact grow_call _ (ratok_at _ _ _ hv)) | (go_at_call 24; exact grow_call _ (sok_at _ _ _ hv)))))
    refine wpQuiet_nil ?_
    rintro _ ⟨X, rfl⟩
    clear hb_4 c4_0_0 c4_0_1 c4_1_0 c4_1_1 c4_2_0 c4_2_1 c4_3_0 c4_3_1 c4_4_0 c4_4_1 hT_4
    clear gx0 gy0 gx1 gy1 gx2 gy2 gx3 gy3 gx4 gy4
    replace H : Kp _ w (gro (w4.alloc (.cells #[.int .i64 P, .int .i64 Q] 26)) X) := Kp.call (w1 := gro (w4.alloc (.cells #[.int .i64 P, .int .i64 Q] 26)) X) X.h H
    have HC := H
    obtain ⟨hb_5, c5_0_0, c5_0_1, c5_1_0, c5_1_1, c5_2_0, c5_2_1, c5_3_0, c5_3_1, c5_4_0, c5_4_1, hT_5⟩ := HC
    replace H := H.consNew (.int .i64 0) (.int .i64 1) 26
    have HC := H
    obtain ⟨hb_6, c6_0_0, c6_0_1, c6_1_0, c6_1_1, c6_2_0, c6_2_1, c6_3_0, c6_3_1, c6_4_0, c6_4_1, c6_5_0, c6_5_1, hT_6⟩ := HC
    go_wp2_with fail
    refine (radd_at _ (add_zero' hv)).mono ?_
    rintro e w7 ⟨rfl, hq⟩
    clear hb_5 c5_0_0 c5_0_1 c5_1_0 c5_1_1 c5_2_0 c5_2_1 c5_3_0 c5_3_1 c5_4_0 c5_4_1 hT_5 hb_6 c6_0_0 c6_0_1 c6_1_0 c6_1_1 c6_2_0 c6_2_1 c6_3_0 c6_3_1 c6_4_0 c6_4_1 c6_5_0 c6_5_1 hT_6
    replace H := Kp.call hq H
    clear hq
    replace H := H.consNew (.int .i64 x) (.int .i64 y) 26
    have HC := H
    obtain ⟨hb_7, c7_0_0, c7_0_1, c7_1_0, c7_1_1, c7_2_0, c7_2_1, c7_3_0, c7_3_1, c7_4_0, c7_4_1, c7_5_0, c7_5_1, c7_6_0, c7_6_1, hT_7⟩ := HC
    go_wp2_with fail
    refine (radd_at _ (add_back hA)).mono ?_
    rintro e w8 ⟨rfl, hq⟩
    clear hb_7 c7_0_0 c7_0_1 c7_1_0 c7_1_1 c7_2_0 c7_2_1 c7_3_0 c7_3_1 c7_4_0 c7_4_1 c7_5_0 c7_5_1 c7_6_0 c7_6_1 hT_7
    replace H := Kp.call hq H
    clear hq
    replace H := H.consNew (.int .i64 x) (.int .i64 y) 26
    have HC := H
    obtain ⟨hb_8, c8_0_0, c8_0_1, c8_1_0, c8_1_1, c8_2_0, c8_2_1, c8_3_0, c8_3_1, c8_4_0, c8_4_1, c8_5_0, c8_5_1, c8_6_0, c8_6_1, c8_7_0, c8_7_1, hT_8⟩ := HC
    go_wp2_with fail
    refine (ratok_at _ _ _ hP).mono ?_
    rintro e w9 ⟨rfl, hq⟩
    clear hb_8 c8_0_0 c8_0_1 c8_1_0 c8_1_1 c8_2_0 c8_2_1 c8_3_0 c8_3_1 c8_4_0 c8_4_1 c8_5_0 c8_5_1 c8_6_0 c8_6_1 c8_7_0 c8_7_1 hT_8
    replace H := Kp.call hq H
    clear hq
    have HC := H
    obtain ⟨hb_9, c9_0_0, c9_0_1, c9_1_0, c9_1_1, c9_2_0, c9_2_1, c9_3_0, c9_3_1, c9_4_0, c9_4_1, c9_5_0, c9_5_1, c9_6_0, c9_6_1, c9_7_0, c9_7_1, hT_9⟩ := HC
    go_wp2_with fail
    go_ret
    exact ⟨rfl, H.1⟩
end Go.Proofs.Ythhmhdiiffmkkaa
