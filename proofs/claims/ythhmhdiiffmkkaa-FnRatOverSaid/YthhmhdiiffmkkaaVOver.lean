/- The law FnRatOver: the walk. -/
import Derived.Test.YthhmhdiiffmkkaaLawK
namespace Go.Proofs.Ythhmhdiiffmkkaa
set_option linter.unusedVariables false
set_option linter.unusedSimpArgs false
open Go.RowKit
set_option maxHeartbeats 8000000 in
theorem walk_RatOver (a0 : Option Addr) (len0 cap0 : Nat) (w : World) (hby : Bytes w.heap.size w a0 len0) (hlc : len0 ≤ cap0) (hc : cap0 ≤ 9223372036854775807) :
    Calls Try.prog 10 #[.slice a0 len0 cap0] w fun e w' => e = .returned (.bool true) ∧ Below w.heap.size w w' := by
  by_cases hbig : 1048576 < len0
  · go_enter Try.func10, Try.ntmps10
    go_wp2
    go_ret
    exact ⟨rfl, Below.refl _ _⟩
  have H : Kp [] w w := Kp.new0 w
  go_enter Try.func10, Try.ntmps10
  go_wp2_with fail
  refine (drawone_any w.heap.size w a0 len0 cap0 (Nat.le_refl _) hby hlc hc).mono ?_
  rintro e w1 ⟨x, y, rfl, hq⟩
  replace H := Kp.call hq H
  clear hq
  replace H := H.consNew (.int .i64 x) (.int .i64 y) 26
  have HC := H
  obtain ⟨hb_1, c1_0_0, c1_0_1, hT_1⟩ := HC
  clear hby
  cases hv : okB x y
  · go_wp2_with fail
    refine (ratok_at x y _ hv).mono ?_
    rintro e w2 ⟨rfl, hq⟩
    clear hb_1 c1_0_0 c1_0_1 hT_1
    replace H := Kp.call hq H
    clear hq
    have HC := H
    obtain ⟨hb_2, c2_0_0, c2_0_1, hT_2⟩ := HC
    go_wp2_with fail
    refine (sok_at x y _ hv).mono ?_
    rintro e w3 ⟨rfl, hq⟩
    clear hb_2 c2_0_0 c2_0_1 hT_2
    replace H := Kp.call hq H
    clear hq
    have HC := H
    obtain ⟨hb_3, c3_0_0, c3_0_1, hT_3⟩ := HC
    go_wp2_with fail
    refine (sok_at x y _ hv).mono ?_
    rintro e w4 ⟨rfl, hq⟩
    clear hb_3 c3_0_0 c3_0_1 hT_3
    replace H := Kp.call hq H
    clear hq
    have HC := H
    obtain ⟨hb_4, c4_0_0, c4_0_1, hT_4⟩ := HC
    go_wp2_with fail
    go_ret
    exact ⟨rfl, H.1⟩
  · obtain ⟨b1, b2, b3, b4⟩ := ok_b hv
    rcases (show x < 0 ∨ x = 0 ∨ 0 < x by omega) with hx | rfl | hx
    · have x0 : (x == 0) = false := by simp; omega
      obtain ⟨A1, A2, A3⟩ := over_neg hv hx
      go_wp2_with fail
      refine (ratok_at x y _ hv).mono ?_
      rintro e w2 ⟨rfl, hq⟩
      clear hb_1 c1_0_0 c1_0_1 hT_1
      replace H := Kp.call hq H
      clear hq
      have HC := H
      obtain ⟨hb_2, c2_0_0, c2_0_1, hT_2⟩ := HC
      go_wp2_with fail
      refine (sok_at x y _ hv).mono ?_
      rintro e w3 ⟨rfl, hq⟩
      clear hb_2 c2_0_0 c2_0_1 hT_2
      replace H := Kp.call hq H
      clear hq
      have HC := H
      obtain ⟨hb_3, c3_0_0, c3_0_1, hT_3⟩ := HC
      go_wp2_with fail
      refine (rof_at _ A1).mono ?_
      rintro e w4 ⟨rfl, hq⟩
      clear hb_3 c3_0_0 c3_0_1 hT_3
      replace H := Kp.call hq H
      clear hq
      replace H := H.consNew (.int .i64 (-y)) (.int .i64 (-x)) 26
      have HC := H
      obtain ⟨hb_4, c4_0_0, c4_0_1, c4_1_0, c4_1_1, hT_4⟩ := HC
      go_wp2_with fail
      refine (rmul_at _ A3).mono ?_
      rintro e w5 ⟨rfl, hq⟩
      clear hb_4 c4_0_0 c4_0_1 c4_1_0 c4_1_1 hT_4
      replace H := Kp.call hq H
      clear hq
      replace H := H.consNew (.int .i64 1) (.int .i64 1) 26
      have HC := H
      obtain ⟨hb_5, c5_0_0, c5_0_1, c5_1_0, c5_1_1, c5_2_0, c5_2_1, hT_5⟩ := HC
      go_wp2_with fail
      refine (ratok_at _ _ _ A2).mono ?_
      rintro e w6 ⟨rfl, hq⟩
      clear hb_5 c5_0_0 c5_0_1 c5_1_0 c5_1_1 c5_2_0 c5_2_1 hT_5
      replace H := Kp.call hq H
      clear hq
      have HC := H
      obtain ⟨hb_6, c6_0_0, c6_0_1, c6_1_0, c6_1_1, c6_2_0, c6_2_1, hT_6⟩ := HC
      go_wp2_with fail
      go_ret
      exact ⟨rfl, H.1⟩
    · go_wp2_with fail
      refine (ratok_at 0 y _ hv).mono ?_
      rintro e w2 ⟨rfl, hq⟩
      clear hb_1 c1_0_0 c1_0_1 hT_1
      replace H := Kp.call hq H
      clear hq
      have HC := H
      obtain ⟨hb_2, c2_0_0, c2_0_1, hT_2⟩ := HC
      go_wp2_with fail
      refine (sok_at 0 y _ hv).mono ?_
      rintro e w3 ⟨rfl, hq⟩
      clear hb_2 c2_0_0 c2_0_1 hT_2
      replace H := Kp.call hq H
      clear hq
      have HC := H
      obtain ⟨hb_3, c3_0_0, c3_0_1, hT_3⟩ := HC
      go_wp2_with fail
      refine (sok_at 0 y _ hv).mono ?_
      rintro e w4 ⟨rfl, hq⟩
      clear hb_3 c3_0_0 c3_0_1 hT_3
      replace H := Kp.call hq H
      clear hq
      have HC := H
      obtain ⟨hb_4, c4_0_0, c4_0_1, hT_4⟩ := HC
      go_wp2_with fail
      go_ret
      exact ⟨rfl, H.1⟩
    · have x0 : (x == 0) = false := by simp; omega
      obtain ⟨A1, A2, A3⟩ := over_pos hv hx
      go_wp2_with fail
      refine (ratok_at x y _ hv).mono ?_
      rintro e w2 ⟨rfl, hq⟩
      clear hb_1 c1_0_0 c1_0_1 hT_1
      replace H := Kp.call hq H
      clear hq
      have HC := H
      obtain ⟨hb_2, c2_0_0, c2_0_1, hT_2⟩ := HC
      go_wp2_with fail
      refine (sok_at x y _ hv).mono ?_
      rintro e w3 ⟨rfl, hq⟩
      clear hb_2 c2_0_0 c2_0_1 hT_2
      replace H := Kp.call hq H
      clear hq
      have HC := H
      obtain ⟨hb_3, c3_0_0, c3_0_1, hT_3⟩ := HC
      go_wp2_with fail
      refine (rof_at _ A1).mono ?_
      rintro e w4 ⟨rfl, hq⟩
      clear hb_3 c3_0_0 c3_0_1 hT_3
      replace H := Kp.call hq H
      clear hq
      replace H := H.consNew (.int .i64 y) (.int .i64 x) 26
      have HC := H
      obtain ⟨hb_4, c4_0_0, c4_0_1, c4_1_0, c4_1_1, hT_4⟩ := HC
      go_wp2_with fail
      refine (rmul_at _ A3).mono ?_
      rintro e w5 ⟨rfl, hq⟩
      clear hb_4 c4_0_0 c4_0_1 c4_1_0 c4_1_1 hT_4
      replace H := Kp.call hq H
      clear hq
      replace H := H.consNew (.int .i64 1) (.int .i64 1) 26
      have HC := H
      obtain ⟨hb_5, c5_0_0, c5_0_1, c5_1_0, c5_1_1, c5_2_0, c5_2_1, hT_5⟩ := HC
      go_wp2_with fail
      refine (ratok_at _ _ _ A2).mono ?_
      rintro e w6 ⟨rfl, hq⟩
      clear hb_5 c5_0_0 c5_0_1 c5_1_0 c5_1_1 c5_2_0 c5_2_1 hT_5
      replace H := Kp.call hq H
      clear hq
      have HC := H
      obtain ⟨hb_6, c6_0_0, c6_0_1, c6_1_0, c6_1_1, c6_2_0, c6_2_1, hT_6⟩ := HC
      go_wp2_with fail
      go_ret
      exact ⟨rfl, H.1⟩
end Go.Proofs.Ythhmhdiiffmkkaa
