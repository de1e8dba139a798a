/- The law FnRatLess: the walk. -/
import Derived.Test.YthhmhdiiffmkkaaLawK
namespace Go.Proofs.Ythhmhdiiffmkkaa
set_option linter.unusedVariables false
set_option linter.unusedSimpArgs false
open Go.RowKit
set_option maxHeartbeats 8000000 in
theorem walk_RatLess (a0 : Option Addr) (len0 cap0 : Nat) (a1 : Option Addr) (len1 cap1 : Nat) (w : World) (hby : Bytes w.heap.size w a0 len0) (hlc : len0 ≤ cap0) (hc : cap0 ≤ 9223372036854775807) (hby1 : Bytes w.heap.size w a1 len1) (hlc1 : len1 ≤ cap1) (hc1 : cap1 ≤ 9223372036854775807) :
    Calls Try.prog 6 #[.slice a0 len0 cap0, .slice a1 len1 cap1] w fun e w' => e = .returned (.bool true) ∧ Below w.heap.size w w' := by
  by_cases hbig : 1048576 < len0
  · go_enter Try.func6, Try.ntmps6
    go_wp2
    go_ret
    exact ⟨rfl, Below.refl _ _⟩
  by_cases hbig1 : 1048576 < len1
  · go_enter Try.func6, Try.ntmps6
    go_wp2
    go_ret
    exact ⟨rfl, Below.refl _ _⟩
  have H : Kp [] w w := Kp.new0 w
  go_enter Try.func6, Try.ntmps6
  go_wp2_with fail
  refine (drawRatLess_any w.heap.size w a0 len0 cap0 (Nat.le_refl _) hby hlc hc).mono ?_
  rintro e w1 ⟨x, y, u, v, rfl, hq⟩
  replace H := Kp.call hq H
  clear hq
  replace H := H.consNew (.int .i64 x) (.int .i64 y) 26
  replace H := H.newpair (World.size_alloc _ _) (.int .i64 u) (.int .i64 v) 26
  have HC := H
  obtain ⟨hb_1, c1_0_0, c1_0_1, c1_1_0, c1_1_1, hT_1⟩ := HC
  clear hby
  go_wp2_with fail
  refine (drawone_any w.heap.size _ a1 len1 cap1 H.1.size (hby1.below H.1) hlc1 hc1).mono ?_
  rintro e w2 ⟨p, q, rfl, hq⟩
  clear hb_1 c1_0_0 c1_0_1 c1_1_0 c1_1_1 hT_1
  replace H := Kp.call hq H
  clear hq
  replace H := H.consNew (.int .i64 p) (.int .i64 q) 26
  have HC := H
  obtain ⟨hb_2, c2_0_0, c2_0_1, c2_1_0, c2_1_1, c2_2_0, c2_2_1, hT_2⟩ := HC
  clear hby1
  cases hv : okB x y
  · have l1 : lessB x y u v = false := less_bad1 hv
    have l2 : lessB u v x y = false := less_bad2 hv
    go_wp2_with fail
    refine (rless_at _ l1).mono ?_
    rintro e w3 ⟨rfl, hq⟩
    clear hb_2 c2_0_0 c2_0_1 c2_1_0 c2_1_1 c2_2_0 c2_2_1 hT_2
    replace H := Kp.call hq H
    clear hq
    have HC := H
    obtain ⟨hb_3, c3_0_0, c3_0_1, c3_1_0, c3_1_1, c3_2_0, c3_2_1, hT_3⟩ := HC
    go_wp2_with fail
    refine (rless_at _ l2).mono ?_
    rintro e w4 ⟨rfl, hq⟩
    clear hb_3 c3_0_0 c3_0_1 c3_1_0 c3_1_1 c3_2_0 c3_2_1 hT_3
    replace H := Kp.call hq H
    clear hq
    have HC := H
    obtain ⟨hb_4, c4_0_0, c4_0_1, c4_1_0, c4_1_1, c4_2_0, c4_2_1, hT_4⟩ := HC
    go_wp2_with fail
    refine (sless_at _ l1).mono ?_
    rintro e w5 ⟨rfl, hq⟩
    clear hb_4 c4_0_0 c4_0_1 c4_1_0 c4_1_1 c4_2_0 c4_2_1 hT_4
    replace H := Kp.call hq H
    clear hq
    have HC := H
    obtain ⟨hb_5, c5_0_0, c5_0_1, c5_1_0, c5_1_1, c5_2_0, c5_2_1, hT_5⟩ := HC
    go_wp2_with fail
    refine (sless_at _ l2).mono ?_
    rintro e w6 ⟨rfl, hq⟩
    clear hb_5 c5_0_0 c5_0_1 c5_1_0 c5_1_1 c5_2_0 c5_2_1 hT_5
    replace H := Kp.call hq H
    clear hq
    have HC := H
    obtain ⟨hb_6, c6_0_0, c6_0_1, c6_1_0, c6_1_1, c6_2_0, c6_2_1, hT_6⟩ := HC
    go_wp2_with fail
    refine (sok_at _ _ _ hv).mono ?_
    rintro e w7 ⟨rfl, hq⟩
    clear hb_6 c6_0_0 c6_0_1 c6_1_0 c6_1_1 c6_2_0 c6_2_1 hT_6
    replace H := Kp.call hq H
    clear hq
    have HC := H
    obtain ⟨hb_7, c7_0_0, c7_0_1, c7_1_0, c7_1_1, c7_2_0, c7_2_1, hT_7⟩ := HC
    go_wp2_with fail
    go_ret
    exact ⟨rfl, H.1⟩
  · cases hu : okB u v
    · have l1 : lessB x y u v = false := less_bad2 hu
      have l2 : lessB u v x y = false := less_bad1 hu
      go_wp2_with fail
      refine (rless_at _ l1).mono ?_
      rintro e w3 ⟨rfl, hq⟩
      clear hb_2 c2_0_0 c2_0_1 c2_1_0 c2_1_1 c2_2_0 c2_2_1 hT_2
      replace H := Kp.call hq H
      clear hq
      have HC := H
      obtain ⟨hb_3, c3_0_0, c3_0_1, c3_1_0, c3_1_1, c3_2_0, c3_2_1, hT_3⟩ := HC
      go_wp2_with fail
      refine (rless_at _ l2).mono ?_
      rintro e w4 ⟨rfl, hq⟩
      clear hb_3 c3_0_0 c3_0_1 c3_1_0 c3_1_1 c3_2_0 c3_2_1 hT_3
      replace H := Kp.call hq H
      clear hq
      have HC := H
      obtain ⟨hb_4, c4_0_0, c4_0_1, c4_1_0, c4_1_1, c4_2_0, c4_2_1, hT_4⟩ := HC
      go_wp2_with fail
      refine (sless_at _ l1).mono ?_
      rintro e w5 ⟨rfl, hq⟩
      clear hb_4 c4_0_0 c4_0_1 c4_1_0 c4_1_1 c4_2_0 c4_2_1 hT_4
      replace H := Kp.call hq H
      clear hq
      have HC := H
      obtain ⟨hb_5, c5_0_0, c5_0_1, c5_1_0, c5_1_1, c5_2_0, c5_2_1, hT_5⟩ := HC
      go_wp2_with fail
      refine (sless_at _ l2).mono ?_
      rintro e w6 ⟨rfl, hq⟩
      clear hb_5 c5_0_0 c5_0_1 c5_1_0 c5_1_1 c5_2_0 c5_2_1 hT_5
      replace H := Kp.call hq H
      clear hq
      have HC := H
      obtain ⟨hb_6, c6_0_0, c6_0_1, c6_1_0, c6_1_1, c6_2_0, c6_2_1, hT_6⟩ := HC
      go_wp2_with fail
      refine (sok_at _ _ _ hv).mono ?_
      rintro e w7 ⟨rfl, hq⟩
      clear hb_6 c6_0_0 c6_0_1 c6_1_0 c6_1_1 c6_2_0 c6_2_1 hT_6
      replace H := Kp.call hq H
      clear hq
      have HC := H
      obtain ⟨hb_7, c7_0_0, c7_0_1, c7_1_0, c7_1_1, c7_2_0, c7_2_1, hT_7⟩ := HC
      go_wp2_with fail
      refine (sok_at _ _ _ hu).mono ?_
      rintro e w8 ⟨rfl, hq⟩
      clear hb_7 c7_0_0 c7_0_1 c7_1_0 c7_1_1 c7_2_0 c7_2_1 hT_7
      replace H := Kp.call hq H
      clear hq
      have HC := H
      obtain ⟨hb_8, c8_0_0, c8_0_1, c8_1_0, c8_1_1, c8_2_0, c8_2_1, hT_8⟩ := HC
      go_wp2_with fail
      go_ret
      exact ⟨rfl, H.1⟩
    · obtain ⟨P, Q, p3, hP⟩ : ∃ P Q p3, addR x y p q = (P, Q, p3) := ⟨_, _, _, rfl⟩
      obtain ⟨R, S, r3, hR⟩ : ∃ R S r3, addR u v p q = (R, S, r3) := ⟨_, _, _, rfl⟩
      have E : p3 = true → r3 = true → lessB P Q R S = lessB x y u v := by
        rintro rfl rfl
        exact less_add hP hR
      rcases less_tri hv hu with ⟨l1, l2, hn⟩ | ⟨l1, l2, hn⟩ | ⟨l1, l2, rfl, rfl⟩
      · by_cases hxu : x = u
        · subst hxu
          have hyv : (y == v) = false := by simp; intro h; exact hn ⟨rfl, h⟩
          clear hn
          go_wp2_with fail
          refine (rless_at _ l1).mono ?_
          rintro e w3 ⟨rfl, hq⟩
          clear hb_2 c2_0_0 c2_0_1 c2_1_0 c2_1_1 c2_2_0 c2_2_1 hT_2
          replace H := Kp.call hq H
          clear hq
          have HC := H
          obtain ⟨hb_3, c3_0_0, c3_0_1, c3_1_0, c3_1_1, c3_2_0, c3_2_1, hT_3⟩ := HC
          go_wp2_with fail
          refine (rless_at _ l2).mono ?_
          rintro e w4 ⟨rfl, hq⟩
          clear hb_3 c3_0_0 c3_0_1 c3_1_0 c3_1_1 c3_2_0 c3_2_1 hT_3
          replace H := Kp.call hq H
          clear hq
          have HC := H
          obtain ⟨hb_4, c4_0_0, c4_0_1, c4_1_0, c4_1_1, c4_2_0, c4_2_1, hT_4⟩ := HC
          go_wp2_with fail
          refine (sless_at _ l1).mono ?_
          rintro e w5 ⟨rfl, hq⟩
          clear hb_4 c4_0_0 c4_0_1 c4_1_0 c4_1_1 c4_2_0 c4_2_1 hT_4
          replace H := Kp.call hq H
          clear hq
          have HC := H
          obtain ⟨hb_5, c5_0_0, c5_0_1, c5_1_0, c5_1_1, c5_2_0, c5_2_1, hT_5⟩ := HC
          go_wp2_with fail
          refine (sless_at _ l2).mono ?_
          rintro e w6 ⟨rfl, hq⟩
          clear hb_5 c5_0_0 c5_0_1 c5_1_0 c5_1_1 c5_2_0 c5_2_1 hT_5
          replace H := Kp.call hq H
          clear hq
          have HC := H
          obtain ⟨hb_6, c6_0_0, c6_0_1, c6_1_0, c6_1_1, c6_2_0, c6_2_1, hT_6⟩ := HC
          go_wp2_with fail
          refine (sok_at _ _ _ hv).mono ?_
          rintro e w7 ⟨rfl, hq⟩
          clear hb_6 c6_0_0 c6_0_1 c6_1_0 c6_1_1 c6_2_0 c6_2_1 hT_6
          replace H := Kp.call hq H
          clear hq
          have HC := H
          obtain ⟨hb_7, c7_0_0, c7_0_1, c7_1_0, c7_1_1, c7_2_0, c7_2_1, hT_7⟩ := HC
          go_wp2_with fail
          refine (sok_at _ _ _ hu).mono ?_
          rintro e w8 ⟨rfl, hq⟩
          clear hb_7 c7_0_0 c7_0_1 c7_1_0 c7_1_1 c7_2_0 c7_2_1 hT_7
          replace H := Kp.call hq H
          clear hq
          have HC := H
          obtain ⟨hb_8, c8_0_0, c8_0_1, c8_1_0, c8_1_1, c8_2_0, c8_2_1, hT_8⟩ := HC
          go_wp2_with fail
          refine (radd_at _ hP).mono ?_
          rintro e w9 ⟨rfl, hq⟩
          clear hb_8 c8_0_0 c8_0_1 c8_1_0 c8_1_1 c8_2_0 c8_2_1 hT_8
          replace H := Kp.call hq H
          clear hq
          replace H := H.consNew (.int .i64 P) (.int .i64 Q) 26
          have HC := H
          obtain ⟨hb_9, c9_0_0, c9_0_1, c9_1_0, c9_1_1, c9_2_0, c9_2_1, c9_3_0, c9_3_1, hT_9⟩ := HC
          go_wp2_with fail
          refine (radd_at _ hR).mono ?_
          rintro e w10 ⟨rfl, hq⟩
          clear hb_9 c9_0_0 c9_0_1 c9_1_0 c9_1_1 c9_2_0 c9_2_1 c9_3_0 c9_3_1 hT_9
          replace H := Kp.call hq H
          clear hq
          replace H := H.consNew (.int .i64 R) (.int .i64 S) 26
          have HC := H
          obtain ⟨hb_10, c10_0_0, c10_0_1, c10_1_0, c10_1_1, c10_2_0, c10_2_1, c10_3_0, c10_3_1, c10_4_0, c10_4_1, hT_10⟩ := HC
          clear hP hR
          cases p3
          · clear E
            go_wp2_with fail
            go_ret
            exact ⟨rfl, H.1⟩
          · cases r3
            · clear E
              go_wp2_with fail
              go_ret
              exact ⟨rfl, H.1⟩
            · have l5 := (E rfl rfl).trans l1
              clear E
              go_wp2_with fail
              refine (rless_at _ l5).mono ?_
              rintro e w11 ⟨rfl, hq⟩
              clear hb_10 c10_0_0 c10_0_1 c10_1_0 c10_1_1 c10_2_0 c10_2_1 c10_3_0 c10_3_1 c10_4_0 c10_4_1 hT_10
              replace H := Kp.call hq H
              clear hq
              have HC := H
              obtain ⟨hb_11, c11_0_0, c11_0_1, c11_1_0, c11_1_1, c11_2_0, c11_2_1, c11_3_0, c11_3_1, c11_4_0, c11_4_1, hT_11⟩ := HC
              go_wp2_with fail
              go_ret
              exact ⟨rfl, H.1⟩
        · have hxu' : (x == u) = false := by simpa using hxu
          clear hn
          go_wp2_with fail
          refine (rless_at _ l1).mono ?_
          rintro e w3 ⟨rfl, hq⟩
          clear hb_2 c2_0_0 c2_0_1 c2_1_0 c2_1_1 c2_2_0 c2_2_1 hT_2
          replace H := Kp.call hq H
          clear hq
          have HC := H
          obtain ⟨hb_3, c3_0_0, c3_0_1, c3_1_0, c3_1_1, c3_2_0, c3_2_1, hT_3⟩ := HC
          go_wp2_with fail
          refine (rless_at _ l2).mono ?_
          rintro e w4 ⟨rfl, hq⟩
          clear hb_3 c3_0_0 c3_0_1 c3_1_0 c3_1_1 c3_2_0 c3_2_1 hT_3
          replace H := Kp.call hq H
          clear hq
          have HC := H
          obtain ⟨hb_4, c4_0_0, c4_0_1, c4_1_0, c4_1_1, c4_2_0, c4_2_1, hT_4⟩ := HC
          go_wp2_with fail
          refine (sless_at _ l1).mono ?_
          rintro e w5 ⟨rfl, hq⟩
          clear hb_4 c4_0_0 c4_0_1 c4_1_0 c4_1_1 c4_2_0 c4_2_1 hT_4
          replace H := Kp.call hq H
          clear hq
          have HC := H
          obtain ⟨hb_5, c5_0_0, c5_0_1, c5_1_0, c5_1_1, c5_2_0, c5_2_1, hT_5⟩ := HC
          go_wp2_with fail
          refine (sless_at _ l2).mono ?_
          rintro e w6 ⟨rfl, hq⟩
          clear hb_5 c5_0_0 c5_0_1 c5_1_0 c5_1_1 c5_2_0 c5_2_1 hT_5
          replace H := Kp.call hq H
          clear hq
          have HC := H
          obtain ⟨hb_6, c6_0_0, c6_0_1, c6_1_0, c6_1_1, c6_2_0, c6_2_1, hT_6⟩ := HC
          go_wp2_with fail
          refine (sok_at _ _ _ hv).mono ?_
          rintro e w7 ⟨rfl, hq⟩
          clear hb_6 c6_0_0 c6_0_1 c6_1_0 c6_1_1 c6_2_0 c6_2_1 hT_6
          replace H := Kp.call hq H
          clear hq
          have HC := H
          obtain ⟨hb_7, c7_0_0, c7_0_1, c7_1_0, c7_1_1, c7_2_0, c7_2_1, hT_7⟩ := HC
          go_wp2_with fail
          refine (sok_at _ _ _ hu).mono ?_
          rintro e w8 ⟨rfl, hq⟩
          clear hb_7 c7_0_0 c7_0_1 c7_1_0 c7_1_1 c7_2_0 c7_2_1 hT_7
          replace H := Kp.call hq H
          clear hq
          have HC := H
          obtain ⟨hb_8, c8_0_0, c8_0_1, c8_1_0, c8_1_1, c8_2_0, c8_2_1, hT_8⟩ := HC
          go_wp2_with fail
          refine (radd_at _ hP).mono ?_
          rintro e w9 ⟨rfl, hq⟩
          clear hb_8 c8_0_0 c8_0_1 c8_1_0 c8_1_1 c8_2_0 c8_2_1 hT_8
          replace H := Kp.call hq H
          clear hq
          replace H := H.consNew (.int .i64 P) (.int .i64 Q) 26
          have HC := H
          obtain ⟨hb_9, c9_0_0, c9_0_1, c9_1_0, c9_1_1, c9_2_0, c9_2_1, c9_3_0, c9_3_1, hT_9⟩ := HC
          go_wp2_with fail
          refine (radd_at _ hR).mono ?_
          rintro e w10 ⟨rfl, hq⟩
          clear hb_9 c9_0_0 c9_0_1 c9_1_0 c9_1_1 c9_2_0 c9_2_1 c9_3_0 c9_3_1 hT_9
          replace H := Kp.call hq H
          clear hq
          replace H := H.consNew (.int .i64 R) (.int .i64 S) 26
          have HC := H
          obtain ⟨hb_10, c10_0_0, c10_0_1, c10_1_0, c10_1_1, c10_2_0, c10_2_1, c10_3_0, c10_3_1, c10_4_0, c10_4_1, hT_10⟩ := HC
          clear hP hR
          cases p3
          · clear E
            go_wp2_with fail
            go_ret
            exact ⟨rfl, H.1⟩
          · cases r3
            · clear E
              go_wp2_with fail
              go_ret
              exact ⟨rfl, H.1⟩
            · have l5 := (E rfl rfl).trans l1
              clear E
              go_wp2_with fail
              refine (rless_at _ l5).mono ?_
              rintro e w11 ⟨rfl, hq⟩
              clear hb_10 c10_0_0 c10_0_1 c10_1_0 c10_1_1 c10_2_0 c10_2_1 c10_3_0 c10_3_1 c10_4_0 c10_4_1 hT_10
              replace H := Kp.call hq H
              clear hq
              have HC := H
              obtain ⟨hb_11, c11_0_0, c11_0_1, c11_1_0, c11_1_1, c11_2_0, c11_2_1, c11_3_0, c11_3_1, c11_4_0, c11_4_1, hT_11⟩ := HC
              go_wp2_with fail
              go_ret
              exact ⟨rfl, H.1⟩
      · by_cases hxu : x = u
        · subst hxu
          have hyv : (y == v) = false := by simp; intro h; exact hn ⟨rfl, h⟩
          clear hn
          go_wp2_with fail
          refine (rless_at _ l1).mono ?_
          rintro e w3 ⟨rfl, hq⟩
          clear hb_2 c2_0_0 c2_0_1 c2_1_0 c2_1_1 c2_2_0 c2_2_1 hT_2
          replace H := Kp.call hq H
          clear hq
          have HC := H
          obtain ⟨hb_3, c3_0_0, c3_0_1, c3_1_0, c3_1_1, c3_2_0, c3_2_1, hT_3⟩ := HC
          go_wp2_with fail
          refine (rless_at _ l2).mono ?_
          rintro e w4 ⟨rfl, hq⟩
          clear hb_3 c3_0_0 c3_0_1 c3_1_0 c3_1_1 c3_2_0 c3_2_1 hT_3
          replace H := Kp.call hq H
          clear hq
          have HC := H
          obtain ⟨hb_4, c4_0_0, c4_0_1, c4_1_0, c4_1_1, c4_2_0, c4_2_1, hT_4⟩ := HC
          go_wp2_with fail
          refine (sless_at _ l1).mono ?_
          rintro e w5 ⟨rfl, hq⟩
          clear hb_4 c4_0_0 c4_0_1 c4_1_0 c4_1_1 c4_2_0 c4_2_1 hT_4
          replace H := Kp.call hq H
          clear hq
          have HC := H
          obtain ⟨hb_5, c5_0_0, c5_0_1, c5_1_0, c5_1_1, c5_2_0, c5_2_1, hT_5⟩ := HC
          go_wp2_with fail
          refine (sless_at _ l2).mono ?_
          rintro e w6 ⟨rfl, hq⟩
          clear hb_5 c5_0_0 c5_0_1 c5_1_0 c5_1_1 c5_2_0 c5_2_1 hT_5
          replace H := Kp.call hq H
          clear hq
          have HC := H
          obtain ⟨hb_6, c6_0_0, c6_0_1, c6_1_0, c6_1_1, c6_2_0, c6_2_1, hT_6⟩ := HC
          go_wp2_with fail
          refine (sok_at _ _ _ hv).mono ?_
          rintro e w7 ⟨rfl, hq⟩
          clear hb_6 c6_0_0 c6_0_1 c6_1_0 c6_1_1 c6_2_0 c6_2_1 hT_6
          replace H := Kp.call hq H
          clear hq
          have HC := H
          obtain ⟨hb_7, c7_0_0, c7_0_1, c7_1_0, c7_1_1, c7_2_0, c7_2_1, hT_7⟩ := HC
          go_wp2_with fail
          refine (sok_at _ _ _ hu).mono ?_
          rintro e w8 ⟨rfl, hq⟩
          clear hb_7 c7_0_0 c7_0_1 c7_1_0 c7_1_1 c7_2_0 c7_2_1 hT_7
          replace H := Kp.call hq H
          clear hq
          have HC := H
          obtain ⟨hb_8, c8_0_0, c8_0_1, c8_1_0, c8_1_1, c8_2_0, c8_2_1, hT_8⟩ := HC
          go_wp2_with fail
          refine (radd_at _ hP).mono ?_
          rintro e w9 ⟨rfl, hq⟩
          clear hb_8 c8_0_0 c8_0_1 c8_1_0 c8_1_1 c8_2_0 c8_2_1 hT_8
          replace H := Kp.call hq H
          clear hq
          replace H := H.consNew (.int .i64 P) (.int .i64 Q) 26
          have HC := H
          obtain ⟨hb_9, c9_0_0, c9_0_1, c9_1_0, c9_1_1, c9_2_0, c9_2_1, c9_3_0, c9_3_1, hT_9⟩ := HC
          go_wp2_with fail
          refine (radd_at _ hR).mono ?_
          rintro e w10 ⟨rfl, hq⟩
          clear hb_9 c9_0_0 c9_0_1 c9_1_0 c9_1_1 c9_2_0 c9_2_1 c9_3_0 c9_3_1 hT_9
          replace H := Kp.call hq H
          clear hq
          replace H := H.consNew (.int .i64 R) (.int .i64 S) 26
          have HC := H
          obtain ⟨hb_10, c10_0_0, c10_0_1, c10_1_0, c10_1_1, c10_2_0, c10_2_1, c10_3_0, c10_3_1, c10_4_0, c10_4_1, hT_10⟩ := HC
          clear hP hR
          cases p3
          · clear E
            go_wp2_with fail
            go_ret
            exact ⟨rfl, H.1⟩
          · cases r3
            · clear E
              go_wp2_with fail
              go_ret
              exact ⟨rfl, H.1⟩
            · have l5 := (E rfl rfl).trans l1
              clear E
              go_wp2_with fail
              refine (rless_at _ l5).mono ?_
              rintro e w11 ⟨rfl, hq⟩
              clear hb_10 c10_0_0 c10_0_1 c10_1_0 c10_1_1 c10_2_0 c10_2_1 c10_3_0 c10_3_1 c10_4_0 c10_4_1 hT_10
              replace H := Kp.call hq H
              clear hq
              have HC := H
              obtain ⟨hb_11, c11_0_0, c11_0_1, c11_1_0, c11_1_1, c11_2_0, c11_2_1, c11_3_0, c11_3_1, c11_4_0, c11_4_1, hT_11⟩ := HC
              go_wp2_with fail
              go_ret
              exact ⟨rfl, H.1⟩
        · have hxu' : (x == u) = false := by simpa using hxu
          clear hn
          go_wp2_with fail
          refine (rless_at _ l1).mono ?_
          rintro e w3 ⟨rfl, hq⟩
          clear hb_2 c2_0_0 c2_0_1 c2_1_0 c2_1_1 c2_2_0 c2_2_1 hT_2
          replace H := Kp.call hq H
          clear hq
          have HC := H
          obtain ⟨hb_3, c3_0_0, c3_0_1, c3_1_0, c3_1_1, c3_2_0, c3_2_1, hT_3⟩ := HC
          go_wp2_with fail
          refine (rless_at _ l2).mono ?_
          rintro e w4 ⟨rfl, hq⟩
          clear hb_3 c3_0_0 c3_0_1 c3_1_0 c3_1_1 c3_2_0 c3_2_1 hT_3
          replace H := Kp.call hq H
          clear hq
          have HC := H
          obtain ⟨hb_4, c4_0_0, c4_0_1, c4_1_0, c4_1_1, c4_2_0, c4_2_1, hT_4⟩ := HC
          go_wp2_with fail
          refine (sless_at _ l1).mono ?_
          rintro e w5 ⟨rfl, hq⟩
          clear hb_4 c4_0_0 c4_0_1 c4_1_0 c4_1_1 c4_2_0 c4_2_1 hT_4
          replace H := Kp.call hq H
          clear hq
          have HC := H
          obtain ⟨hb_5, c5_0_0, c5_0_1, c5_1_0, c5_1_1, c5_2_0, c5_2_1, hT_5⟩ := HC
          go_wp2_with fail
          refine (sless_at _ l2).mono ?_
          rintro e w6 ⟨rfl, hq⟩
          clear hb_5 c5_0_0 c5_0_1 c5_1_0 c5_1_1 c5_2_0 c5_2_1 hT_5
          replace H := Kp.call hq H
          clear hq
          have HC := H
          obtain ⟨hb_6, c6_0_0, c6_0_1, c6_1_0, c6_1_1, c6_2_0, c6_2_1, hT_6⟩ := HC
          go_wp2_with fail
          refine (sok_at _ _ _ hv).mono ?_
          rintro e w7 ⟨rfl, hq⟩
          clear hb_6 c6_0_0 c6_0_1 c6_1_0 c6_1_1 c6_2_0 c6_2_1 hT_6
          replace H := Kp.call hq H
          clear hq
          have HC := H
          obtain ⟨hb_7, c7_0_0, c7_0_1, c7_1_0, c7_1_1, c7_2_0, c7_2_1, hT_7⟩ := HC
          go_wp2_with fail
          refine (sok_at _ _ _ hu).mono ?_
          rintro e w8 ⟨rfl, hq⟩
          clear hb_7 c7_0_0 c7_0_1 c7_1_0 c7_1_1 c7_2_0 c7_2_1 hT_7
          replace H := Kp.call hq H
          clear hq
          have HC := H
          obtain ⟨hb_8, c8_0_0, c8_0_1, c8_1_0, c8_1_1, c8_2_0, c8_2_1, hT_8⟩ := HC
          go_wp2_with fail
          refine (radd_at _ hP).mono ?_
          rintro e w9 ⟨rfl, hq⟩
          clear hb_8 c8_0_0 c8_0_1 c8_1_0 c8_1_1 c8_2_0 c8_2_1 hT_8
          replace H := Kp.call hq H
          clear hq
          replace H := H.consNew (.int .i64 P) (.int .i64 Q) 26
          have HC := H
          obtain ⟨hb_9, c9_0_0, c9_0_1, c9_1_0, c9_1_1, c9_2_0, c9_2_1, c9_3_0, c9_3_1, hT_9⟩ := HC
          go_wp2_with fail
          refine (radd_at _ hR).mono ?_
          rintro e w10 ⟨rfl, hq⟩
          clear hb_9 c9_0_0 c9_0_1 c9_1_0 c9_1_1 c9_2_0 c9_2_1 c9_3_0 c9_3_1 hT_9
          replace H := Kp.call hq H
          clear hq
          replace H := H.consNew (.int .i64 R) (.int .i64 S) 26
          have HC := H
          obtain ⟨hb_10, c10_0_0, c10_0_1, c10_1_0, c10_1_1, c10_2_0, c10_2_1, c10_3_0, c10_3_1, c10_4_0, c10_4_1, hT_10⟩ := HC
          clear hP hR
          cases p3
          · clear E
            go_wp2_with fail
            go_ret
            exact ⟨rfl, H.1⟩
          · cases r3
            · clear E
              go_wp2_with fail
              go_ret
              exact ⟨rfl, H.1⟩
            · have l5 := (E rfl rfl).trans l1
              clear E
              go_wp2_with fail
              refine (rless_at _ l5).mono ?_
              rintro e w11 ⟨rfl, hq⟩
              clear hb_10 c10_0_0 c10_0_1 c10_1_0 c10_1_1 c10_2_0 c10_2_1 c10_3_0 c10_3_1 c10_4_0 c10_4_1 hT_10
              replace H := Kp.call hq H
              clear hq
              have HC := H
              obtain ⟨hb_11, c11_0_0, c11_0_1, c11_1_0, c11_1_1, c11_2_0, c11_2_1, c11_3_0, c11_3_1, c11_4_0, c11_4_1, hT_11⟩ := HC
              go_wp2_with fail
              go_ret
              exact ⟨rfl, H.1⟩
      · go_wp2_with fail
        refine (rless_at _ l1).mono ?_
        rintro e w3 ⟨rfl, hq⟩
        clear hb_2 c2_0_0 c2_0_1 c2_1_0 c2_1_1 c2_2_0 c2_2_1 hT_2
        replace H := Kp.call hq H
        clear hq
        have HC := H
        obtain ⟨hb_3, c3_0_0, c3_0_1, c3_1_0, c3_1_1, c3_2_0, c3_2_1, hT_3⟩ := HC
        go_wp2_with fail
        refine (rless_at _ l2).mono ?_
        rintro e w4 ⟨rfl, hq⟩
        clear hb_3 c3_0_0 c3_0_1 c3_1_0 c3_1_1 c3_2_0 c3_2_1 hT_3
        replace H := Kp.call hq H
        clear hq
        have HC := H
        obtain ⟨hb_4, c4_0_0, c4_0_1, c4_1_0, c4_1_1, c4_2_0, c4_2_1, hT_4⟩ := HC
        go_wp2_with fail
        refine (sless_at _ l1).mono ?_
        rintro e w5 ⟨rfl, hq⟩
        clear hb_4 c4_0_0 c4_0_1 c4_1_0 c4_1_1 c4_2_0 c4_2_1 hT_4
        replace H := Kp.call hq H
        clear hq
        have HC := H
        obtain ⟨hb_5, c5_0_0, c5_0_1, c5_1_0, c5_1_1, c5_2_0, c5_2_1, hT_5⟩ := HC
        go_wp2_with fail
        refine (sless_at _ l2).mono ?_
        rintro e w6 ⟨rfl, hq⟩
        clear hb_5 c5_0_0 c5_0_1 c5_1_0 c5_1_1 c5_2_0 c5_2_1 hT_5
        replace H := Kp.call hq H
        clear hq
        have HC := H
        obtain ⟨hb_6, c6_0_0, c6_0_1, c6_1_0, c6_1_1, c6_2_0, c6_2_1, hT_6⟩ := HC
        go_wp2_with fail
        refine (sok_at _ _ _ hv).mono ?_
        rintro e w7 ⟨rfl, hq⟩
        clear hb_6 c6_0_0 c6_0_1 c6_1_0 c6_1_1 c6_2_0 c6_2_1 hT_6
        replace H := Kp.call hq H
        clear hq
        have HC := H
        obtain ⟨hb_7, c7_0_0, c7_0_1, c7_1_0, c7_1_1, c7_2_0, c7_2_1, hT_7⟩ := HC
        go_wp2_with fail
        refine (sok_at _ _ _ hu).mono ?_
        rintro e w8 ⟨rfl, hq⟩
        clear hb_7 c7_0_0 c7_0_1 c7_1_0 c7_1_1 c7_2_0 c7_2_1 hT_7
        replace H := Kp.call hq H
        clear hq
        have HC := H
        obtain ⟨hb_8, c8_0_0, c8_0_1, c8_1_0, c8_1_1, c8_2_0, c8_2_1, hT_8⟩ := HC
        go_wp2_with fail
        refine (radd_at _ hP).mono ?_
        rintro e w9 ⟨rfl, hq⟩
        clear hb_8 c8_0_0 c8_0_1 c8_1_0 c8_1_1 c8_2_0 c8_2_1 hT_8
        replace H := Kp.call hq H
        clear hq
        replace H := H.consNew (.int .i64 P) (.int .i64 Q) 26
        have HC := H
        obtain ⟨hb_9, c9_0_0, c9_0_1, c9_1_0, c9_1_1, c9_2_0, c9_2_1, c9_3_0, c9_3_1, hT_9⟩ := HC
        go_wp2_with fail
        refine (radd_at _ hR).mono ?_
        rintro e w10 ⟨rfl, hq⟩
        clear hb_9 c9_0_0 c9_0_1 c9_1_0 c9_1_1 c9_2_0 c9_2_1 c9_3_0 c9_3_1 hT_9
        replace H := Kp.call hq H
        clear hq
        replace H := H.consNew (.int .i64 R) (.int .i64 S) 26
        have HC := H
        obtain ⟨hb_10, c10_0_0, c10_0_1, c10_1_0, c10_1_1, c10_2_0, c10_2_1, c10_3_0, c10_3_1, c10_4_0, c10_4_1, hT_10⟩ := HC
        clear hP hR
        cases p3
        · clear E
          go_wp2_with fail
          go_ret
          exact ⟨rfl, H.1⟩
        · cases r3
          · clear E
            go_wp2_with fail
            go_ret
            exact ⟨rfl, H.1⟩
          · have l5 := (E rfl rfl).trans l1
            clear E
            go_wp2_with fail
            refine (rless_at _ l5).mono ?_
            rintro e w11 ⟨rfl, hq⟩
            clear hb_10 c10_0_0 c10_0_1 c10_1_0 c10_1_1 c10_2_0 c10_2_1 c10_3_0 c10_3_1 c10_4_0 c10_4_1 hT_10
            replace H := Kp.call hq H
            clear hq
            have HC := H
            obtain ⟨hb_11, c11_0_0, c11_0_1, c11_1_0, c11_1_1, c11_2_0, c11_2_1, c11_3_0, c11_3_1, c11_4_0, c11_4_1, hT_11⟩ := HC
            go_wp2_with fail
            go_ret
            exact ⟨rfl, H.1⟩
end Go.Proofs.Ythhmhdiiffmkkaa
