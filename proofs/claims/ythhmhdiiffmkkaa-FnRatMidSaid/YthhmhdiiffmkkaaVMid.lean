/- The law FnRatMid: the walk. -/
import Derived.Test.YthhmhdiiffmkkaaLawK
namespace Go.Proofs.Ythhmhdiiffmkkaa
set_option linter.unusedVariables false
set_option linter.unusedSimpArgs false
open Go.RowKit
set_option maxHeartbeats 8000000 in
theorem walk_RatMid (a0 : Option Addr) (len0 cap0 : Nat) (w : World) (hby : Bytes w.heap.size w a0 len0) (hlc : len0 ≤ cap0) (hc : cap0 ≤ 9223372036854775807) :
    Calls Try.prog 7 #[.slice a0 len0 cap0] w fun e w' => e = .returned (.bool true) ∧ Below w.heap.size w w' := by
  by_cases hbig : 1048576 < len0
  · go_enter Try.func7, Try.ntmps7
    go_wp2
    go_ret
    exact ⟨rfl, Below.refl _ _⟩
  have H : Kp [] w w := Kp.new0 w
  go_enter Try.func7, Try.ntmps7
  go_wp2_with fail
  refine (drawRatMid_any w.heap.size w a0 len0 cap0 (Nat.le_refl _) hby hlc hc).mono ?_
  rintro e w1 ⟨x, y, u, v, rfl, hq⟩
  replace H := Kp.call hq H
  clear hq
  replace H := H.consNew (.int .i64 x) (.int .i64 y) 26
  replace H := H.newpair (World.size_alloc _ _) (.int .i64 u) (.int .i64 v) 26
  have HC := H
  obtain ⟨hb_1, c1_0_0, c1_0_1, c1_1_0, c1_1_1, hT_1⟩ := HC
  clear hby
  rcases midR_cases x y u v with hA | ⟨M, N, hA⟩
  · go_wp2_with fail
    refine (rmid_at _ hA).mono ?_
    rintro e w2 ⟨rfl, hq⟩
    clear hb_1 c1_0_0 c1_0_1 c1_1_0 c1_1_1 hT_1
    replace H := Kp.call hq H
    clear hq
    replace H := H.consNew (.int .i64 0) (.int .i64 0) 26
    have HC := H
    obtain ⟨hb_2, c2_0_0, c2_0_1, c2_1_0, c2_1_1, c2_2_0, c2_2_1, hT_2⟩ := HC
    go_wp2_with fail
    refine (smid_at _ hA).mono ?_
    rintro e w3 ⟨rfl, hq⟩
    clear hb_2 c2_0_0 c2_0_1 c2_1_0 c2_1_1 c2_2_0 c2_2_1 hT_2
    replace H := Kp.call hq H
    clear hq
    replace H := H.consNew (.int .i64 0) (.int .i64 0) 26
    have HC := H
    obtain ⟨hb_3, c3_0_0, c3_0_1, c3_1_0, c3_1_1, c3_2_0, c3_2_1, c3_3_0, c3_3_1, hT_3⟩ := HC
    go_wp2_with fail
    refine (rmid_at _ ((midR_comm x y u v).trans hA)).mono ?_
    rintro e w4 ⟨rfl, hq⟩
    clear hb_3 c3_0_0 c3_0_1 c3_1_0 c3_1_1 c3_2_0 c3_2_1 c3_3_0 c3_3_1 hT_3
    replace H := Kp.call hq H
    clear hq
    replace H := H.consNew (.int .i64 0) (.int .i64 0) 26
    have HC := H
    obtain ⟨hb_4, c4_0_0, c4_0_1, c4_1_0, c4_1_1, c4_2_0, c4_2_1, c4_3_0, c4_3_1, c4_4_0, c4_4_1, hT_4⟩ := HC
    go_wp2_with fail
    go_ret
    exact ⟨rfl, H.1⟩
  · obtain ⟨k1, k2, k3, _⟩ := mid_spec hA
    go_wp2_with fail
    refine (rmid_at _ hA).mono ?_
    rintro e w2 ⟨rfl, hq⟩
    clear hb_1 c1_0_0 c1_0_1 c1_1_0 c1_1_1 hT_1
    replace H := Kp.call hq H
    clear hq
    replace H := H.consNew (.int .i64 M) (.int .i64 N) 26
    have HC := H
    obtain ⟨hb_2, c2_0_0, c2_0_1, c2_1_0, c2_1_1, c2_2_0, c2_2_1, hT_2⟩ := HC
    go_wp2_with fail
    refine (smid_at _ hA).mono ?_
    rintro e w3 ⟨rfl, hq⟩
    clear hb_2 c2_0_0 c2_0_1 c2_1_0 c2_1_1 c2_2_0 c2_2_1 hT_2
    replace H := Kp.call hq H
    clear hq
    replace H := H.consNew (.int .i64 M) (.int .i64 N) 26
    have HC := H
    obtain ⟨hb_3, c3_0_0, c3_0_1, c3_1_0, c3_1_1, c3_2_0, c3_2_1, c3_3_0, c3_3_1, hT_3⟩ := HC
    go_wp2_with fail
    refine (rmid_at _ ((midR_comm x y u v).trans hA)).mono ?_
    rintro e w4 ⟨rfl, hq⟩
    clear hb_3 c3_0_0 c3_0_1 c3_1_0 c3_1_1 c3_2_0 c3_2_1 c3_3_0 c3_3_1 hT_3
    replace H := Kp.call hq H
    clear hq
    replace H := H.consNew (.int .i64 M) (.int .i64 N) 26
    have HC := H
    obtain ⟨hb_4, c4_0_0, c4_0_1, c4_1_0, c4_1_1, c4_2_0, c4_2_1, c4_3_0, c4_3_1, c4_4_0, c4_4_1, hT_4⟩ := HC
    rcases less_tri k1 k2 with ⟨l1, l2, hn⟩ | ⟨l1, l2, hn⟩ | ⟨l1, l2, rfl, rfl⟩
    · obtain ⟨l3, l4⟩ := mid_less hA l1
      by_cases hxu : x = u
      · subst hxu
        have hyv : (y == v) = false := by simp; intro h; exact hn ⟨rfl, h⟩
        clear hn
        go_wp2_with fail
        refine (rless_at _ l1).mono ?_
        rintro e w5 ⟨rfl, hq⟩
        clear hb_4 c4_0_0 c4_0_1 c4_1_0 c4_1_1 c4_2_0 c4_2_1 c4_3_0 c4_3_1 c4_4_0 c4_4_1 hT_4
        replace H := Kp.call hq H
        clear hq
        have HC := H
        obtain ⟨hb_5, c5_0_0, c5_0_1, c5_1_0, c5_1_1, c5_2_0, c5_2_1, c5_3_0, c5_3_1, c5_4_0, c5_4_1, hT_5⟩ := HC
        go_wp2_with fail
        refine (rless_at _ l3).mono ?_
        rintro e w6 ⟨rfl, hq⟩
        clear hb_5 c5_0_0 c5_0_1 c5_1_0 c5_1_1 c5_2_0 c5_2_1 c5_3_0 c5_3_1 c5_4_0 c5_4_1 hT_5
        replace H := Kp.call hq H
        clear hq
        have HC := H
        obtain ⟨hb_6, c6_0_0, c6_0_1, c6_1_0, c6_1_1, c6_2_0, c6_2_1, c6_3_0, c6_3_1, c6_4_0, c6_4_1, hT_6⟩ := HC
        go_wp2_with fail
        refine (rless_at _ l4).mono ?_
        rintro e w7 ⟨rfl, hq⟩
        clear hb_6 c6_0_0 c6_0_1 c6_1_0 c6_1_1 c6_2_0 c6_2_1 c6_3_0 c6_3_1 c6_4_0 c6_4_1 hT_6
        replace H := Kp.call hq H
        clear hq
        have HC := H
        obtain ⟨hb_7, c7_0_0, c7_0_1, c7_1_0, c7_1_1, c7_2_0, c7_2_1, c7_3_0, c7_3_1, c7_4_0, c7_4_1, hT_7⟩ := HC
        go_wp2_with fail
        go_ret
        exact ⟨rfl, H.1⟩
      · have hxu' : (x == u) = false := by simpa using hxu
        clear hn
        go_wp2_with fail
        refine (rless_at _ l1).mono ?_
        rintro e w5 ⟨rfl, hq⟩
        clear hb_4 c4_0_0 c4_0_1 c4_1_0 c4_1_1 c4_2_0 c4_2_1 c4_3_0 c4_3_1 c4_4_0 c4_4_1 hT_4
        replace H := Kp.call hq H
        clear hq
        have HC := H
        obtain ⟨hb_5, c5_0_0, c5_0_1, c5_1_0, c5_1_1, c5_2_0, c5_2_1, c5_3_0, c5_3_1, c5_4_0, c5_4_1, hT_5⟩ := HC
        go_wp2_with fail
        refine (rless_at _ l3).mono ?_
        rintro e w6 ⟨rfl, hq⟩
        clear hb_5 c5_0_0 c5_0_1 c5_1_0 c5_1_1 c5_2_0 c5_2_1 c5_3_0 c5_3_1 c5_4_0 c5_4_1 hT_5
        replace H := Kp.call hq H
        clear hq
        have HC := H
        obtain ⟨hb_6, c6_0_0, c6_0_1, c6_1_0, c6_1_1, c6_2_0, c6_2_1, c6_3_0, c6_3_1, c6_4_0, c6_4_1, hT_6⟩ := HC
        go_wp2_with fail
        refine (rless_at _ l4).mono ?_
        rintro e w7 ⟨rfl, hq⟩
        clear hb_6 c6_0_0 c6_0_1 c6_1_0 c6_1_1 c6_2_0 c6_2_1 c6_3_0 c6_3_1 c6_4_0 c6_4_1 hT_6
        replace H := Kp.call hq H
        clear hq
        have HC := H
        obtain ⟨hb_7, c7_0_0, c7_0_1, c7_1_0, c7_1_1, c7_2_0, c7_2_1, c7_3_0, c7_3_1, c7_4_0, c7_4_1, hT_7⟩ := HC
        go_wp2_with fail
        go_ret
        exact ⟨rfl, H.1⟩
    · obtain ⟨l3, l4⟩ := mid_less ((midR_comm x y u v).trans hA) l2
      by_cases hxu : x = u
      · subst hxu
        have hyv : (y == v) = false := by simp; intro h; exact hn ⟨rfl, h⟩
        clear hn
        go_wp2_with fail
        refine (rless_at _ l1).mono ?_
        rintro e w5 ⟨rfl, hq⟩
        clear hb_4 c4_0_0 c4_0_1 c4_1_0 c4_1_1 c4_2_0 c4_2_1 c4_3_0 c4_3_1 c4_4_0 c4_4_1 hT_4
        replace H := Kp.call hq H
        clear hq
        have HC := H
        obtain ⟨hb_5, c5_0_0, c5_0_1, c5_1_0, c5_1_1, c5_2_0, c5_2_1, c5_3_0, c5_3_1, c5_4_0, c5_4_1, hT_5⟩ := HC
        go_wp2_with fail
        refine (rless_at _ l2).mono ?_
        rintro e w6 ⟨rfl, hq⟩
        clear hb_5 c5_0_0 c5_0_1 c5_1_0 c5_1_1 c5_2_0 c5_2_1 c5_3_0 c5_3_1 c5_4_0 c5_4_1 hT_5
        replace H := Kp.call hq H
        clear hq
        have HC := H
        obtain ⟨hb_6, c6_0_0, c6_0_1, c6_1_0, c6_1_1, c6_2_0, c6_2_1, c6_3_0, c6_3_1, c6_4_0, c6_4_1, hT_6⟩ := HC
        go_wp2_with fail
        refine (rless_at _ l3).mono ?_
        rintro e w7 ⟨rfl, hq⟩
        clear hb_6 c6_0_0 c6_0_1 c6_1_0 c6_1_1 c6_2_0 c6_2_1 c6_3_0 c6_3_1 c6_4_0 c6_4_1 hT_6
        replace H := Kp.call hq H
        clear hq
        have HC := H
        obtain ⟨hb_7, c7_0_0, c7_0_1, c7_1_0, c7_1_1, c7_2_0, c7_2_1, c7_3_0, c7_3_1, c7_4_0, c7_4_1, hT_7⟩ := HC
        go_wp2_with fail
        refine (rless_at _ l4).mono ?_
        rintro e w8 ⟨rfl, hq⟩
        clear hb_7 c7_0_0 c7_0_1 c7_1_0 c7_1_1 c7_2_0 c7_2_1 c7_3_0 c7_3_1 c7_4_0 c7_4_1 hT_7
        replace H := Kp.call hq H
        clear hq
        have HC := H
        obtain ⟨hb_8, c8_0_0, c8_0_1, c8_1_0, c8_1_1, c8_2_0, c8_2_1, c8_3_0, c8_3_1, c8_4_0, c8_4_1, hT_8⟩ := HC
        go_wp2_with fail
        go_ret
        exact ⟨rfl, H.1⟩
      · have hxu' : (x == u) = false := by simpa using hxu
        clear hn
        go_wp2_with fail
        refine (rless_at _ l1).mono ?_
        rintro e w5 ⟨rfl, hq⟩
        clear hb_4 c4_0_0 c4_0_1 c4_1_0 c4_1_1 c4_2_0 c4_2_1 c4_3_0 c4_3_1 c4_4_0 c4_4_1 hT_4
        replace H := Kp.call hq H
        clear hq
        have HC := H
        obtain ⟨hb_5, c5_0_0, c5_0_1, c5_1_0, c5_1_1, c5_2_0, c5_2_1, c5_3_0, c5_3_1, c5_4_0, c5_4_1, hT_5⟩ := HC
        go_wp2_with fail
        refine (rless_at _ l2).mono ?_
        rintro e w6 ⟨rfl, hq⟩
        clear hb_5 c5_0_0 c5_0_1 c5_1_0 c5_1_1 c5_2_0 c5_2_1 c5_3_0 c5_3_1 c5_4_0 c5_4_1 hT_5
        replace H := Kp.call hq H
        clear hq
        have HC := H
        obtain ⟨hb_6, c6_0_0, c6_0_1, c6_1_0, c6_1_1, c6_2_0, c6_2_1, c6_3_0, c6_3_1, c6_4_0, c6_4_1, hT_6⟩ := HC
        go_wp2_with fail
        refine (rless_at _ l3).mono ?_
        rintro e w7 ⟨rfl, hq⟩
        clear hb_6 c6_0_0 c6_0_1 c6_1_0 c6_1_1 c6_2_0 c6_2_1 c6_3_0 c6_3_1 c6_4_0 c6_4_1 hT_6
        replace H := Kp.call hq H
        clear hq
        have HC := H
        obtain ⟨hb_7, c7_0_0, c7_0_1, c7_1_0, c7_1_1, c7_2_0, c7_2_1, c7_3_0, c7_3_1, c7_4_0, c7_4_1, hT_7⟩ := HC
        go_wp2_with fail
        refine (rless_at _ l4).mono ?_
        rintro e w8 ⟨rfl, hq⟩
        clear hb_7 c7_0_0 c7_0_1 c7_1_0 c7_1_1 c7_2_0 c7_2_1 c7_3_0 c7_3_1 c7_4_0 c7_4_1 hT_7
        replace H := Kp.call hq H
        clear hq
        have HC := H
        obtain ⟨hb_8, c8_0_0, c8_0_1, c8_1_0, c8_1_1, c8_2_0, c8_2_1, c8_3_0, c8_3_1, c8_4_0, c8_4_1, hT_8⟩ := HC
        go_wp2_with fail
        go_ret
        exact ⟨rfl, H.1⟩
    · obtain ⟨rfl, rfl⟩ := mid_same hA
      go_wp2_with fail
      go_ret
      exact ⟨rfl, H.1⟩
end Go.Proofs.Ythhmhdiiffmkkaa
