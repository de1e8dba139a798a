/- The law FnRatBent: the walk. -/
import Derived.Test.YthhmhdiiffmkkaaDoorLawK
namespace Go.Proofs.YthhmhdiiffmkkaaDoor
set_option linter.unusedVariables false
set_option linter.unusedSimpArgs false
open Go.RowKit
/-- what is no fraction has no text -/
theorem rattext_bad (n d : Int) (w : World) (h : okB n d = false) :
    Calls Tryd.prog 8 #[.agg #[.int .i64 n, .int .i64 d]] w fun e w' => e = .returned (.string ⟨#[]⟩) ∧ Below w.heap.size w w' := by
  go_enter Tryd.func8, Tryd.ntmps8
  go_wp2_with fail
  refine (valid_at n d _ h).mono ?_
  rintro e w1 ⟨rfl, hb⟩
  go_wp2_with fail
  go_ret
  exact ⟨rfl, btr (bal (Below.refl _ _) _) hb⟩
theorem add_bad1 {a b c d : Int} (h : okB a b = false) : addR a b c d = (0, 0, false) := by unfold addR; rw [if_neg (by simp [h])]
theorem mul_bad2 {a b c d : Int} (h : okB c d = false) : mulR a b c d = (0, 0, false) := by unfold mulR; rw [if_neg (by simp [h])]
theorem mid_bad1 {a b c d : Int} (h : okB a b = false) : midR a b c d = (0, 0, false) := by unfold midR; rw [add_bad1 h]; rfl
set_option maxRecDepth 100000 in
set_option maxHeartbeats 8000000 in
theorem walk_RatBent (a0 : Option Addr) (len0 cap0 : Nat) (w : World) (hby : Bytes w.heap.size w a0 len0) (hlc : len0 ≤ cap0) (hc : cap0 ≤ 9223372036854775807) :
    Calls Tryd.prog 4 #[.slice a0 len0 cap0] w fun e w' => e = .returned (.bool true) ∧ Below w.heap.size w w' := by
  by_cases hbig : 1048576 < len0
  · go_enter Tryd.func4, Tryd.ntmps4
    go_wp2
    go_ret
    exact ⟨rfl, Below.refl _ _⟩
  have H : Kp [] w w := Kp.new0 w
  go_enter Tryd.func4, Tryd.ntmps4
  go_wp2_with fail
  refine (drawone_any w.heap.size w a0 len0 cap0 (Nat.le_refl _) hby hlc hc).mono ?_
  rintro e w1 ⟨x, y, rfl, hq⟩
  replace H := Kp.call hq H
  clear hq
  replace H := H.consNew (.int .i64 x) (.int .i64 y) 24
  have HC := H
  obtain ⟨hb_1, c1_0_0, c1_0_1, hT_1⟩ := HC
  clear hby
  cases hv : okB x y
  · go_wp2_with fail
    refine (ratok_at x y _ hv).mono ?_
    rintro e w2 ⟨rfl, hq⟩
    clear hb_1 c1_0_0 c1_0_1 hT_1
    replace H := Kp.call hq H
    clear hq
    have HC := H
    obtain ⟨hb_2, c2_0_0, c2_0_1, hT_2⟩ := HC
    go_wp2_with fail
    refine (sok_at x y _ hv).mono ?_
    rintro e w3 ⟨rfl, hq⟩
    clear hb_2 c2_0_0 c2_0_1 hT_2
    replace H := Kp.call hq H
    clear hq
    have HC := H
    obtain ⟨hb_3, c3_0_0, c3_0_1, hT_3⟩ := HC
    replace H := H.consNew (.int .i64 1) (.int .i64 1) 24
    have HC := H
    obtain ⟨hb_4, c4_0_0, c4_0_1, c4_1_0, c4_1_1, hT_4⟩ := HC
    go_wp2_with fail
    refine (radd_at _ (add_bad1 hv)).mono ?_
    rintro e w5 ⟨rfl, hq⟩
    clear hb_3 c3_0_0 c3_0_1 hT_3 hb_4 c4_0_0 c4_0_1 c4_1_0 c4_1_1 hT_4
    replace H := Kp.call hq H
    clear hq
    replace H := H.consNew (.int .i64 0) (.int .i64 0) 24
    have HC := H
    obtain ⟨hb_5, c5_0_0, c5_0_1, c5_1_0, c5_1_1, c5_2_0, c5_2_1, hT_5⟩ := HC
    go_wp2_with fail
    refine (rmul_at _ (mul_bad2 hv)).mono ?_
    rintro e w6 ⟨rfl, hq⟩
    clear hb_5 c5_0_0 c5_0_1 c5_1_0 c5_1_1 c5_2_0 c5_2_1 hT_5
    replace H := Kp.call hq H
    clear hq
    replace H := H.consNew (.int .i64 0) (.int .i64 0) 24
    have HC := H
    obtain ⟨hb_6, c6_0_0, c6_0_1, c6_1_0, c6_1_1, c6_2_0, c6_2_1, c6_3_0, c6_3_1, hT_6⟩ := HC
    go_wp2_with fail
    refine (rmid_at _ (mid_bad1 hv)).mono ?_
    rintro e w7 ⟨rfl, hq⟩
    clear hb_6 c6_0_0 c6_0_1 c6_1_0 c6_1_1 c6_2_0 c6_2_1 c6_3_0 c6_3_1 hT_6
    replace H := Kp.call hq H
    clear hq
    replace H := H.consNew (.int .i64 0) (.int .i64 0) 24
    have HC := H
    obtain ⟨hb_7, c7_0_0, c7_0_1, c7_1_0, c7_1_1, c7_2_0, c7_2_1, c7_3_0, c7_3_1, c7_4_0, c7_4_1, hT_7⟩ := HC
    replace H := H.consNew (.int .i64 0) (.int .i64 0) 24
    have HC := H
    obtain ⟨hb_8, c8_0_0, c8_0_1, c8_1_0, c8_1_1, c8_2_0, c8_2_1, c8_3_0, c8_3_1, c8_4_0, c8_4_1, c8_5_0, c8_5_1, hT_8⟩ := HC
    go_wp2_with fail
    refine (rless_at _ (less_bad1 hv)).mono ?_
    rintro e w9 ⟨rfl, hq⟩
    clear hb_7 c7_0_0 c7_0_1 c7_1_0 c7_1_1 c7_2_0 c7_2_1 c7_3_0 c7_3_1 c7_4_0 c7_4_1 hT_7 hb_8 c8_0_0 c8_0_1 c8_1_0 c8_1_1 c8_2_0 c8_2_1 c8_3_0 c8_3_1 c8_4_0 c8_4_1 c8_5_0 c8_5_1 hT_8
    replace H := Kp.call hq H
    clear hq
    have HC := H
    obtain ⟨hb_9, c9_0_0, c9_0_1, c9_1_0, c9_1_1, c9_2_0, c9_2_1, c9_3_0, c9_3_1, c9_4_0, c9_4_1, c9_5_0, c9_5_1, hT_9⟩ := HC
    go_wp2_with fail
    refine (rless_at _ (less_bad2 hv)).mono ?_
    rintro e w10 ⟨rfl, hq⟩
    clear hb_9 c9_0_0 c9_0_1 c9_1_0 c9_1_1 c9_2_0 c9_2_1 c9_3_0 c9_3_1 c9_4_0 c9_4_1 c9_5_0 c9_5_1 hT_9
    replace H := Kp.call hq H
    clear hq
    have HC := H
    obtain ⟨hb_10, c10_0_0, c10_0_1, c10_1_0, c10_1_1, c10_2_0, c10_2_1, c10_3_0, c10_3_1, c10_4_0, c10_4_1, c10_5_0, c10_5_1, hT_10⟩ := HC
    go_wp2_with fail
    refine (rattext_bad _ _ _ hv).mono ?_
    rintro e w11 ⟨rfl, hq⟩
    clear hb_10 c10_0_0 c10_0_1 c10_1_0 c10_1_1 c10_2_0 c10_2_1 c10_3_0 c10_3_1 c10_4_0 c10_4_1 c10_5_0 c10_5_1 hT_10
    replace H := Kp.call hq H
    clear hq
    have HC := H
    obtain ⟨hb_11, c11_0_0, c11_0_1, c11_1_0, c11_1_1, c11_2_0, c11_2_1, c11_3_0, c11_3_1, c11_4_0, c11_4_1, c11_5_0, c11_5_1, hT_11⟩ := HC
    go_wp2_with fail
    go_ret
    exact ⟨rfl, H.1⟩
  · go_wp2_with fail
    refine (ratok_at x y _ hv).mono ?_
    rintro e w2 ⟨rfl, hq⟩
    clear hb_1 c1_0_0 c1_0_1 hT_1
    replace H := Kp.call hq H
    clear hq
    have HC := H
    obtain ⟨hb_2, c2_0_0, c2_0_1, hT_2⟩ := HC
    go_wp2_with fail
    refine (sok_at x y _ hv).mono ?_
    rintro e w3 ⟨rfl, hq⟩
    clear hb_2 c2_0_0 c2_0_1 hT_2
    replace H := Kp.call hq H
    clear hq
    have HC := H
    obtain ⟨hb_3, c3_0_0, c3_0_1, hT_3⟩ := HC
    go_wp2_with fail
    refine (sok_at x y _ hv).mono ?_
    rintro e w4 ⟨rfl, hq⟩
    clear hb_3 c3_0_0 c3_0_1 hT_3
    replace H := Kp.call hq H
    clear hq
    have HC := H
    obtain ⟨hb_4, c4_0_0, c4_0_1, hT_4⟩ := HC
    go_wp2_with fail
    go_ret
    exact ⟨rfl, H.1⟩
end Go.Proofs.YthhmhdiiffmkkaaDoor
