/- The law FnRatMul: the walk. -/
import Derived.Test.YthhmhdiiffmkkaaLawK
namespace Go.Proofs.Ythhmhdiiffmkkaa
set_option linter.unusedVariables false
set_option linter.unusedSimpArgs false
open Go.RowKit
set_option maxRecDepth 100000 in
set_option maxHeartbeats 8000000 in
theorem walk_RatMul (a0 : Option Addr) (len0 cap0 : Nat) (a1 : Option Addr) (len1 cap1 : Nat) (w : World) (hby : Bytes w.heap.size w a0 len0) (hlc : len0 ≤ cap0) (hc : cap0 ≤ 9223372036854775807) (hby1 : Bytes w.heap.size w a1 len1) (hlc1 : len1 ≤ cap1) (hc1 : cap1 ≤ 9223372036854775807) :
    Calls Try.prog 5 #[.slice a0 len0 cap0, .slice a1 len1 cap1] w fun e w' => e = .returned (.bool true) ∧ Below w.heap.size w w' := by
  by_cases hbig : 1048576 < len0
  · go_enter Try.func5, Try.ntmps5
    go_wp2
    go_ret
    exact ⟨rfl, Below.refl _ _⟩
  by_cases hbig1 : 1048576 < len1
  · go_enter Try.func5, Try.ntmps5
    go_wp2
    go_ret
    exact ⟨rfl, Below.refl _ _⟩
  have H : Kp [] w w := Kp.new0 w
  go_enter Try.func5, Try.ntmps5
  go_wp2_with fail
  refine (drawRatMul_any w.heap.size w a0 len0 cap0 (Nat.le_refl _) hby hlc hc).mono ?_
  rintro e w1 ⟨x, y, u, v, rfl, hq⟩
  replace H := Kp.call hq H
  clear hq
  replace H := H.consNew (.int .i64 x) (.int .i64 y) 26
  replace H := H.newpair (World.size_alloc _ _) (.int .i64 u) (.int .i64 v) 26
  have HC := H
  obtain ⟨hb_1, c1_0_0, c1_0_1, c1_1_0, c1_1_1, hT_1⟩ := HC
  clear hby
  go_wp2_with fail
  refine (drawone_any w.heap.size _ a1 len1 cap1 H.1.size (hby1.below H.1) hlc1 hc1).mono ?_
  rintro e w2 ⟨p, q, rfl, hq⟩
  clear hb_1 c1_0_0 c1_0_1 c1_1_0 c1_1_1 hT_1
  replace H := Kp.call hq H
  clear hq
  replace H := H.consNew (.int .i64 p) (.int .i64 q) 26
  have HC := H
  obtain ⟨hb_2, c2_0_0, c2_0_1, c2_1_0, c2_1_1, c2_2_0, c2_2_1, hT_2⟩ := HC
  clear hby1
  rcases mulR_cases x y u v with hA | ⟨P, Q, hA⟩
  · go_wp2_with fail
    refine (rmul_at _ hA).mono ?_
    rintro e w3 ⟨rfl, hq⟩
    clear hb_2 c2_0_0 c2_0_1 c2_1_0 c2_1_1 c2_2_0 c2_2_1 hT_2
    replace H := Kp.call hq H
    clear hq
    replace H := H.consNew (.int .i64 0) (.int .i64 0) 26
    have HC := H
    obtain ⟨hb_3, c3_0_0, c3_0_1, c3_1_0, c3_1_1, c3_2_0, c3_2_1, c3_3_0, c3_3_1, hT_3⟩ := HC
    go_wp2_with fail
    refine (smul_at _ hA).mono ?_
    rintro e w4 ⟨rfl, hq⟩
    clear hb_3 c3_0_0 c3_0_1 c3_1_0 c3_1_1 c3_2_0 c3_2_1 c3_3_0 c3_3_1 hT_3
    replace H := Kp.call hq H
    clear hq
    replace H := H.consNew (.int .i64 0) (.int .i64 0) 26
    have HC := H
    obtain ⟨hb_4, c4_0_0, c4_0_1, c4_1_0, c4_1_1, c4_2_0, c4_2_1, c4_3_0, c4_3_1, c4_4_0, c4_4_1, hT_4⟩ := HC
    go_wp2_with fail
    refine (rmul_at _ ((mulR_comm x y u v).trans hA)).mono ?_
    rintro e w5 ⟨rfl, hq⟩
    clear hb_4 c4_0_0 c4_0_1 c4_1_0 c4_1_1 c4_2_0 c4_2_1 c4_3_0 c4_3_1 c4_4_0 c4_4_1 hT_4
    replace H := Kp.call hq H
    clear hq
    replace H := H.consNew (.int .i64 0) (.int .i64 0) 26
    have HC := H
    obtain ⟨hb_5, c5_0_0, c5_0_1, c5_1_0, c5_1_1, c5_2_0, c5_2_1, c5_3_0, c5_3_1, c5_4_0, c5_4_1, c5_5_0, c5_5_1, hT_5⟩ := HC
    go_wp2_with fail
    go_ret
    exact ⟨rfl, H.1⟩
  · obtain ⟨hv, hu, hP, _⟩ := mulR_spec hA
    obtain ⟨S, T, s3, hS⟩ : ∃ S T s3, addR u v p q = (S, T, s3) := ⟨_, _, _, rfl⟩
    obtain ⟨l1, l2, l3, hL⟩ : ∃ l1 l2 l3, mulR x y S T = (l1, l2, l3) := ⟨_, _, _, rfl⟩
    obtain ⟨U, V, u3, hU⟩ : ∃ U V u3, mulR x y p q = (U, V, u3) := ⟨_, _, _, rfl⟩
    obtain ⟨r1, r2, r3, hR⟩ : ∃ r1 r2 r3, addR P Q U V = (r1, r2, r3) := ⟨_, _, _, rfl⟩
    have E : s3 = true → u3 = true → l1 = r1 ∧ l2 = r2 := by
      rintro rfl rfl
      have e := distrib (R1 := 0) (R2 := 0) (R3 := 0) (R4 := 0) hA hS hU
      rw [hL, hR] at e
      simp only [Prod.mk.injEq] at e
      exact ⟨e.1, e.2.1⟩
    go_wp2_with fail
    refine (rmul_at _ hA).mono ?_
    rintro e w3 ⟨rfl, hq⟩
    clear hb_2 c2_0_0 c2_0_1 c2_1_0 c2_1_1 c2_2_0 c2_2_1 hT_2
    replace H := Kp.call hq H
    clear hq
    replace H := H.consNew (.int .i64 P) (.int .i64 Q) 26
    have HC := H
    obtain ⟨hb_3, c3_0_0, c3_0_1, c3_1_0, c3_1_1, c3_2_0, c3_2_1, c3_3_0, c3_3_1, hT_3⟩ := HC
    go_wp2_with fail
    refine (smul_at _ hA).mono ?_
    rintro e w4 ⟨rfl, hq⟩
    clear hb_3 c3_0_0 c3_0_1 c3_1_0 c3_1_1 c3_2_0 c3_2_1 c3_3_0 c3_3_1 hT_3
    replace H := Kp.call hq H
    clear hq
    replace H := H.consNew (.int .i64 P) (.int .i64 Q) 26
    have HC := H
    obtain ⟨hb_4, c4_0_0, c4_0_1, c4_1_0, c4_1_1, c4_2_0, c4_2_1, c4_3_0, c4_3_1, c4_4_0, c4_4_1, hT_4⟩ := HC
    go_wp2_with fail
    refine (rmul_at _ ((mulR_comm x y u v).trans hA)).mono ?_
    rintro e w5 ⟨rfl, hq⟩
    clear hb_4 c4_0_0 c4_0_1 c4_1_0 c4_1_1 c4_2_0 c4_2_1 c4_3_0 c4_3_1 c4_4_0 c4_4_1 hT_4
    replace H := Kp.call hq H
    clear hq
    replace H := H.consNew (.int .i64 P) (.int .i64 Q) 26
    have HC := H
    obtain ⟨hb_5, c5_0_0, c5_0_1, c5_1_0, c5_1_1, c5_2_0, c5_2_1, c5_3_0, c5_3_1, c5_4_0, c5_4_1, c5_5_0, c5_5_1, hT_5⟩ := HC
    go_wp2_with fail
    refine (rmul_at _ (mul_one' hv)).mono ?_
    rintro e w6 ⟨rfl, hq⟩
    clear hb_5 c5_0_0 c5_0_1 c5_1_0 c5_1_1 c5_2_0 c5_2_1 c5_3_0 c5_3_1 c5_4_0 c5_4_1 c5_5_0 c5_5_1 hT_5
    replace H := Kp.call hq H
    clear hq
    replace H := H.consNew (.int .i64 x) (.int .i64 y) 26
    have HC := H
    obtain ⟨hb_6, c6_0_0, c6_0_1, c6_1_0, c6_1_1, c6_2_0, c6_2_1, c6_3_0, c6_3_1, c6_4_0, c6_4_1, c6_5_0, c6_5_1, c6_6_0, c6_6_1, hT_6⟩ := HC
    go_wp2_with fail
    refine (rmul_at _ (mul_zero' hv)).mono ?_
    rintro e w7 ⟨rfl, hq⟩
    clear hb_6 c6_0_0 c6_0_1 c6_1_0 c6_1_1 c6_2_0 c6_2_1 c6_3_0 c6_3_1 c6_4_0 c6_4_1 c6_5_0 c6_5_1 c6_6_0 c6_6_1 hT_6
    replace H := Kp.call hq H
    clear hq
    replace H := H.consNew (.int .i64 0) (.int .i64 1) 26
    have HC := H
    obtain ⟨hb_7, c7_0_0, c7_0_1, c7_1_0, c7_1_1, c7_2_0, c7_2_1, c7_3_0, c7_3_1, c7_4_0, c7_4_1, c7_5_0, c7_5_1, c7_6_0, c7_6_1, c7_7_0, c7_7_1, hT_7⟩ := HC
    go_wp2_with fail
    refine (radd_at _ hS).mono ?_
    rintro e w8 ⟨rfl, hq⟩
    clear hb_7 c7_0_0 c7_0_1 c7_1_0 c7_1_1 c7_2_0 c7_2_1 c7_3_0 c7_3_1 c7_4_0 c7_4_1 c7_5_0 c7_5_1 c7_6_0 c7_6_1 c7_7_0 c7_7_1 hT_7
    replace H := Kp.call hq H
    clear hq
    replace H := H.consNew (.int .i64 S) (.int .i64 T) 26
    have HC := H
    obtain ⟨hb_8, c8_0_0, c8_0_1, c8_1_0, c8_1_1, c8_2_0, c8_2_1, c8_3_0, c8_3_1, c8_4_0, c8_4_1, c8_5_0, c8_5_1, c8_6_0, c8_6_1, c8_7_0, c8_7_1, c8_8_0, c8_8_1, hT_8⟩ := HC
    go_wp2_with fail
    refine (rmul_at _ hL).mono ?_
    rintro e w9 ⟨rfl, hq⟩
    clear hb_8 c8_0_0 c8_0_1 c8_1_0 c8_1_1 c8_2_0 c8_2_1 c8_3_0 c8_3_1 c8_4_0 c8_4_1 c8_5_0 c8_5_1 c8_6_0 c8_6_1 c8_7_0 c8_7_1 c8_8_0 c8_8_1 hT_8
    replace H := Kp.call hq H
    clear hq
    replace H := H.consNew (.int .i64 l1) (.int .i64 l2) 26
    have HC := H
    obtain ⟨hb_9, c9_0_0, c9_0_1, c9_1_0, c9_1_1, c9_2_0, c9_2_1, c9_3_0, c9_3_1, c9_4_0, c9_4_1, c9_5_0, c9_5_1, c9_6_0, c9_6_1, c9_7_0, c9_7_1, c9_8_0, c9_8_1, c9_9_0, c9_9_1, hT_9⟩ := HC
    go_wp2_with fail
    refine (rmul_at _ hU).mono ?_
    rintro e w10 ⟨rfl, hq⟩
    clear hb_9 c9_0_0 c9_0_1 c9_1_0 c9_1_1 c9_2_0 c9_2_1 c9_3_0 c9_3_1 c9_4_0 c9_4_1 c9_5_0 c9_5_1 c9_6_0 c9_6_1 c9_7_0 c9_7_1 c9_8_0 c9_8_1 c9_9_0 c9_9_1 hT_9
    replace H := Kp.call hq H
    clear hq
    replace H := H.consNew (.int .i64 U) (.int .i64 V) 26
    have HC := H
    obtain ⟨hb_10, c10_0_0, c10_0_1, c10_1_0, c10_1_1, c10_2_0, c10_2_1, c10_3_0, c10_3_1, c10_4_0, c10_4_1, c10_5_0, c10_5_1, c10_6_0, c10_6_1, c10_7_0, c10_7_1, c10_8_0, c10_8_1, c10_9_0, c10_9_1, c10_10_0, c10_10_1, hT_10⟩ := HC
    go_wp2_with fail
    refine (radd_at _ hR).mono ?_
    rintro e w11 ⟨rfl, hq⟩
    clear hb_10 c10_0_0 c10_0_1 c10_1_0 c10_1_1 c10_2_0 c10_2_1 c10_3_0 c10_3_1 c10_4_0 c10_4_1 c10_5_0 c10_5_1 c10_6_0 c10_6_1 c10_7_0 c10_7_1 c10_8_0 c10_8_1 c10_9_0 c10_9_1 c10_10_0 c10_10_1 hT_10
    replace H := Kp.call hq H
    clear hq
    replace H := H.consNew (.int .i64 r1) (.int .i64 r2) 26
    have HC := H
    obtain ⟨hb_11, c11_0_0, c11_0_1, c11_1_0, c11_1_1, c11_2_0, c11_2_1, c11_3_0, c11_3_1, c11_4_0, c11_4_1, c11_5_0, c11_5_1, c11_6_0, c11_6_1, c11_7_0, c11_7_1, c11_8_0, c11_8_1, c11_9_0, c11_9_1, c11_10_0, c11_10_1, c11_11_0, c11_11_1, hT_11⟩ := HC
    clear hA hS hL hU hR
    cases s3
    · clear E
      go_wp2_with fail
      go_ret
      exact ⟨rfl, H.1⟩
    · cases l3
      · clear E
        go_wp2_with fail
        go_ret
        exact ⟨rfl, H.1⟩
      · cases u3
        · clear E
          go_wp2_with fail
          go_ret
          exact ⟨rfl, H.1⟩
        · obtain ⟨rfl, rfl⟩ := E rfl rfl
          cases r3
          · go_wp2_with fail
            go_ret
            exact ⟨rfl, H.1⟩
          · go_wp2_with fail
            go_ret
            exact ⟨rfl, H.1⟩
end Go.Proofs.Ythhmhdiiffmkkaa
