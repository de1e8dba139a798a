/- The law FnRatThree: the walk. -/
import Derived.Test.YthhmhdiiffmkkaaLawK
namespace Go.Proofs.Ythhmhdiiffmkkaa
set_option linter.unusedVariables false
set_option linter.unusedSimpArgs false
open Go.RowKit
set_option maxHeartbeats 8000000 in
theorem walk_RatThree (a0 : Option Addr) (len0 cap0 : Nat) (a1 : Option Addr) (len1 cap1 : Nat) (w : World) (hby : Bytes w.heap.size w a0 len0) (hlc : len0 ≤ cap0) (hc : cap0 ≤ 9223372036854775807) (hby1 : Bytes w.heap.size w a1 len1) (hlc1 : len1 ≤ cap1) (hc1 : cap1 ≤ 9223372036854775807) :
    Calls Try.prog 8 #[.slice a0 len0 cap0, .slice a1 len1 cap1] w fun e w' => e = .returned (.bool true) ∧ Below w.heap.size w w' := by
  by_cases hbig : 1048576 < len0
  · go_enter Try.func8, Try.ntmps8
    go_wp2
    go_ret
    exact ⟨rfl, Below.refl _ _⟩
  by_cases hbig1 : 1048576 < len1
  · go_enter Try.func8, Try.ntmps8
    go_wp2
    go_ret
    exact ⟨rfl, Below.refl _ _⟩
  have H : Kp [] w w := Kp.new0 w
  go_enter Try.func8, Try.ntmps8
  go_wp2_with fail
  refine (drawRatAdd_any w.heap.size w a0 len0 cap0 (Nat.le_refl _) hby hlc hc).mono ?_
  rintro e w1 ⟨x, y, u, v, rfl, hq⟩
  replace H := Kp.call hq H
  clear hq
  replace H := H.consNew (.int .i64 x) (.int .i64 y) 26
  replace H := H.newpair (World.size_alloc _ _) (.int .i64 u) (.int .i64 v) 26
  have HC := H
  obtain ⟨hb_1, c1_0_0, c1_0_1, c1_1_0, c1_1_1, hT_1⟩ := HC
  clear hby
  go_wp2_with fail
  refine (drawone_any w.heap.size _ a1 len1 cap1 H.1.size (hby1.below H.1) hlc1 hc1).mono ?_
  rintro e w2 ⟨p, q, rfl, hq⟩
  clear hb_1 c1_0_0 c1_0_1 c1_1_0 c1_1_1 hT_1
  replace H := Kp.call hq H
  clear hq
  replace H := H.consNew (.int .i64 p) (.int .i64 q) 26
  have HC := H
  obtain ⟨hb_2, c2_0_0, c2_0_1, c2_1_0, c2_1_1, c2_2_0, c2_2_1, hT_2⟩ := HC
  clear hby1
  rcases addR_cases x y u v with hA | ⟨P, Q, hA⟩
  · obtain ⟨R, S, r3, hB⟩ : ∃ R S r3, addR u v p q = (R, S, r3) := ⟨_, _, _, rfl⟩
    go_wp2_with fail
    refine (radd_at _ hA).mono ?_
    rintro e w3 ⟨rfl, hq⟩
    clear hb_2 c2_0_0 c2_0_1 c2_1_0 c2_1_1 c2_2_0 c2_2_1 hT_2
    replace H := Kp.call hq H
    clear hq
    replace H := H.consNew (.int .i64 0) (.int .i64 0) 26
    have HC := H
    obtain ⟨hb_3, c3_0_0, c3_0_1, c3_1_0, c3_1_1, c3_2_0, c3_2_1, c3_3_0, c3_3_1, hT_3⟩ := HC
    go_wp2_with fail
    refine (sadd_at _ hA).mono ?_
    rintro e w4 ⟨rfl, hq⟩
    clear hb_3 c3_0_0 c3_0_1 c3_1_0 c3_1_1 c3_2_0 c3_2_1 c3_3_0 c3_3_1 hT_3
    replace H := Kp.call hq H
    clear hq
    replace H := H.consNew (.int .i64 0) (.int .i64 0) 26
    have HC := H
    obtain ⟨hb_4, c4_0_0, c4_0_1, c4_1_0, c4_1_1, c4_2_0, c4_2_1, c4_3_0, c4_3_1, c4_4_0, c4_4_1, hT_4⟩ := HC
    go_wp2_with fail
    refine (radd_at _ hB).mono ?_
    rintro e w5 ⟨rfl, hq⟩
    clear hb_4 c4_0_0 c4_0_1 c4_1_0 c4_1_1 c4_2_0 c4_2_1 c4_3_0 c4_3_1 c4_4_0 c4_4_1 hT_4
    replace H := Kp.call hq H
    clear hq
    replace H := H.consNew (.int .i64 R) (.int .i64 S) 26
    have HC := H
    obtain ⟨hb_5, c5_0_0, c5_0_1, c5_1_0, c5_1_1, c5_2_0, c5_2_1, c5_3_0, c5_3_1, c5_4_0, c5_4_1, c5_5_0, c5_5_1, hT_5⟩ := HC
    go_wp2_with fail
    go_ret
    exact ⟨rfl, H.1⟩
  · rcases addR_cases u v p q with hB | ⟨R, S, hB⟩
    · go_wp2_with fail
      refine (radd_at _ hA).mono ?_
      rintro e w3 ⟨rfl, hq⟩
      clear hb_2 c2_0_0 c2_0_1 c2_1_0 c2_1_1 c2_2_0 c2_2_1 hT_2
      replace H := Kp.call hq H
      clear hq
      replace H := H.consNew (.int .i64 P) (.int .i64 Q) 26
      have HC := H
      obtain ⟨hb_3, c3_0_0, c3_0_1, c3_1_0, c3_1_1, c3_2_0, c3_2_1, c3_3_0, c3_3_1, hT_3⟩ := HC
      go_wp2_with fail
      refine (sadd_at _ hA).mono ?_
      rintro e w4 ⟨rfl, hq⟩
      clear hb_3 c3_0_0 c3_0_1 c3_1_0 c3_1_1 c3_2_0 c3_2_1 c3_3_0 c3_3_1 hT_3
      replace H := Kp.call hq H
      clear hq
      replace H := H.consNew (.int .i64 P) (.int .i64 Q) 26
      have HC := H
      obtain ⟨hb_4, c4_0_0, c4_0_1, c4_1_0, c4_1_1, c4_2_0, c4_2_1, c4_3_0, c4_3_1, c4_4_0, c4_4_1, hT_4⟩ := HC
      go_wp2_with fail
      refine (radd_at _ hB).mono ?_
      rintro e w5 ⟨rfl, hq⟩
      clear hb_4 c4_0_0 c4_0_1 c4_1_0 c4_1_1 c4_2_0 c4_2_1 c4_3_0 c4_3_1 c4_4_0 c4_4_1 hT_4
      replace H := Kp.call hq H
      clear hq
      replace H := H.consNew (.int .i64 0) (.int .i64 0) 26
      have HC := H
      obtain ⟨hb_5, c5_0_0, c5_0_1, c5_1_0, c5_1_1, c5_2_0, c5_2_1, c5_3_0, c5_3_1, c5_4_0, c5_4_1, c5_5_0, c5_5_1, hT_5⟩ := HC
      go_wp2_with fail
      go_ret
      exact ⟨rfl, H.1⟩
    · obtain ⟨X, Y, x3, hX⟩ : ∃ X Y x3, addR P Q p q = (X, Y, x3) := ⟨_, _, _, rfl⟩
      have hY := (add_assoc' hA hB).symm.trans hX
      go_wp2_with fail
      refine (radd_at _ hA).mono ?_
      rintro e w3 ⟨rfl, hq⟩
      clear hb_2 c2_0_0 c2_0_1 c2_1_0 c2_1_1 c2_2_0 c2_2_1 hT_2
      replace H := Kp.call hq H
      clear hq
      replace H := H.consNew (.int .i64 P) (.int .i64 Q) 26
      have HC := H
      obtain ⟨hb_3, c3_0_0, c3_0_1, c3_1_0, c3_1_1, c3_2_0, c3_2_1, c3_3_0, c3_3_1, hT_3⟩ := HC
      go_wp2_with fail
      refine (sadd_at _ hA).mono ?_
      rintro e w4 ⟨rfl, hq⟩
      clear hb_3 c3_0_0 c3_0_1 c3_1_0 c3_1_1 c3_2_0 c3_2_1 c3_3_0 c3_3_1 hT_3
      replace H := Kp.call hq H
      clear hq
      replace H := H.consNew (.int .i64 P) (.int .i64 Q) 26
      have HC := H
      obtain ⟨hb_4, c4_0_0, c4_0_1, c4_1_0, c4_1_1, c4_2_0, c4_2_1, c4_3_0, c4_3_1, c4_4_0, c4_4_1, hT_4⟩ := HC
      go_wp2_with fail
      refine (radd_at _ hB).mono ?_
      rintro e w5 ⟨rfl, hq⟩
      clear hb_4 c4_0_0 c4_0_1 c4_1_0 c4_1_1 c4_2_0 c4_2_1 c4_3_0 c4_3_1 c4_4_0 c4_4_1 hT_4
      replace H := Kp.call hq H
      clear hq
      replace H := H.consNew (.int .i64 R) (.int .i64 S) 26
      have HC := H
      obtain ⟨hb_5, c5_0_0, c5_0_1, c5_1_0, c5_1_1, c5_2_0, c5_2_1, c5_3_0, c5_3_1, c5_4_0, c5_4_1, c5_5_0, c5_5_1, hT_5⟩ := HC
      go_wp2_with fail
      refine (radd_at _ hX).mono ?_
      rintro e w6 ⟨rfl, hq⟩
      clear hb_5 c5_0_0 c5_0_1 c5_1_0 c5_1_1 c5_2_0 c5_2_1 c5_3_0 c5_3_1 c5_4_0 c5_4_1 c5_5_0 c5_5_1 hT_5
      replace H := Kp.call hq H
      clear hq
      replace H := H.consNew (.int .i64 X) (.int .i64 Y) 26
      have HC := H
      obtain ⟨hb_6, c6_0_0, c6_0_1, c6_1_0, c6_1_1, c6_2_0, c6_2_1, c6_3_0, c6_3_1, c6_4_0, c6_4_1, c6_5_0, c6_5_1, c6_6_0, c6_6_1, hT_6⟩ := HC
      go_wp2_with fail
      refine (radd_at _ hY).mono ?_
      rintro e w7 ⟨rfl, hq⟩
      clear hb_6 c6_0_0 c6_0_1 c6_1_0 c6_1_1 c6_2_0 c6_2_1 c6_3_0 c6_3_1 c6_4_0 c6_4_1 c6_5_0 c6_5_1 c6_6_0 c6_6_1 hT_6
      replace H := Kp.call hq H
      clear hq
      replace H := H.consNew (.int .i64 X) (.int .i64 Y) 26
      have HC := H
      obtain ⟨hb_7, c7_0_0, c7_0_1, c7_1_0, c7_1_1, c7_2_0, c7_2_1, c7_3_0, c7_3_1, c7_4_0, c7_4_1, c7_5_0, c7_5_1, c7_6_0, c7_6_1, c7_7_0, c7_7_1, hT_7⟩ := HC
      clear hX hY hA hB
      cases l1 : lessB x y u v
      · cases x3
        · go_wp2_with fail
          refine (rless_at _ l1).mono ?_
          rintro e w8 ⟨rfl, hq⟩
          clear hb_7 c7_0_0 c7_0_1 c7_1_0 c7_1_1 c7_2_0 c7_2_1 c7_3_0 c7_3_1 c7_4_0 c7_4_1 c7_5_0 c7_5_1 c7_6_0 c7_6_1 c7_7_0 c7_7_1 hT_7
          replace H := Kp.call hq H
          clear hq
          have HC := H
          obtain ⟨hb_8, c8_0_0, c8_0_1, c8_1_0, c8_1_1, c8_2_0, c8_2_1, c8_3_0, c8_3_1, c8_4_0, c8_4_1, c8_5_0, c8_5_1, c8_6_0, c8_6_1, c8_7_0, c8_7_1, hT_8⟩ := HC
          go_wp2_with fail
          go_ret
          exact ⟨rfl, H.1⟩
        · go_wp2_with fail
          refine (rless_at _ l1).mono ?_
          rintro e w8 ⟨rfl, hq⟩
          clear hb_7 c7_0_0 c7_0_1 c7_1_0 c7_1_1 c7_2_0 c7_2_1 c7_3_0 c7_3_1 c7_4_0 c7_4_1 c7_5_0 c7_5_1 c7_6_0 c7_6_1 c7_7_0 c7_7_1 hT_7
          replace H := Kp.call hq H
          clear hq
          have HC := H
          obtain ⟨hb_8, c8_0_0, c8_0_1, c8_1_0, c8_1_1, c8_2_0, c8_2_1, c8_3_0, c8_3_1, c8_4_0, c8_4_1, c8_5_0, c8_5_1, c8_6_0, c8_6_1, c8_7_0, c8_7_1, hT_8⟩ := HC
          go_wp2_with fail
          go_ret
          exact ⟨rfl, H.1⟩
      · cases l2 : lessB u v p q
        · cases x3
          · go_wp2_with fail
            refine (rless_at _ l1).mono ?_
            rintro e w8 ⟨rfl, hq⟩
            clear hb_7 c7_0_0 c7_0_1 c7_1_0 c7_1_1 c7_2_0 c7_2_1 c7_3_0 c7_3_1 c7_4_0 c7_4_1 c7_5_0 c7_5_1 c7_6_0 c7_6_1 c7_7_0 c7_7_1 hT_7
            replace H := Kp.call hq H
            clear hq
            have HC := H
            obtain ⟨hb_8, c8_0_0, c8_0_1, c8_1_0, c8_1_1, c8_2_0, c8_2_1, c8_3_0, c8_3_1, c8_4_0, c8_4_1, c8_5_0, c8_5_1, c8_6_0, c8_6_1, c8_7_0, c8_7_1, hT_8⟩ := HC
            go_wp2_with fail
            refine (rless_at _ l2).mono ?_
            rintro e w9 ⟨rfl, hq⟩
            clear hb_8 c8_0_0 c8_0_1 c8_1_0 c8_1_1 c8_2_0 c8_2_1 c8_3_0 c8_3_1 c8_4_0 c8_4_1 c8_5_0 c8_5_1 c8_6_0 c8_6_1 c8_7_0 c8_7_1 hT_8
            replace H := Kp.call hq H
            clear hq
            have HC := H
            obtain ⟨hb_9, c9_0_0, c9_0_1, c9_1_0, c9_1_1, c9_2_0, c9_2_1, c9_3_0, c9_3_1, c9_4_0, c9_4_1, c9_5_0, c9_5_1, c9_6_0, c9_6_1, c9_7_0, c9_7_1, hT_9⟩ := HC
            go_wp2_with fail
            go_ret
            exact ⟨rfl, H.1⟩
          · go_wp2_with fail
            refine (rless_at _ l1).mono ?_
            rintro e w8 ⟨rfl, hq⟩
            clear hb_7 c7_0_0 c7_0_1 c7_1_0 c7_1_1 c7_2_0 c7_2_1 c7_3_0 c7_3_1 c7_4_0 c7_4_1 c7_5_0 c7_5_1 c7_6_0 c7_6_1 c7_7_0 c7_7_1 hT_7
            replace H := Kp.call hq H
            clear hq
            have HC := H
            obtain ⟨hb_8, c8_0_0, c8_0_1, c8_1_0, c8_1_1, c8_2_0, c8_2_1, c8_3_0, c8_3_1, c8_4_0, c8_4_1, c8_5_0, c8_5_1, c8_6_0, c8_6_1, c8_7_0, c8_7_1, hT_8⟩ := HC
            go_wp2_with fail
            refine (rless_at _ l2).mono ?_
            rintro e w9 ⟨rfl, hq⟩
            clear hb_8 c8_0_0 c8_0_1 c8_1_0 c8_1_1 c8_2_0 c8_2_1 c8_3_0 c8_3_1 c8_4_0 c8_4_1 c8_5_0 c8_5_1 c8_6_0 c8_6_1 c8_7_0 c8_7_1 hT_8
            replace H := Kp.call hq H
            clear hq
            have HC := H
            obtain ⟨hb_9, c9_0_0, c9_0_1, c9_1_0, c9_1_1, c9_2_0, c9_2_1, c9_3_0, c9_3_1, c9_4_0, c9_4_1, c9_5_0, c9_5_1, c9_6_0, c9_6_1, c9_7_0, c9_7_1, hT_9⟩ := HC
            go_wp2_with fail
            go_ret
            exact ⟨rfl, H.1⟩
        · have l3 := less_trans l1 l2
          cases x3
          · go_wp2_with fail
            refine (rless_at _ l1).mono ?_
            rintro e w8 ⟨rfl, hq⟩
            clear hb_7 c7_0_0 c7_0_1 c7_1_0 c7_1_1 c7_2_0 c7_2_1 c7_3_0 c7_3_1 c7_4_0 c7_4_1 c7_5_0 c7_5_1 c7_6_0 c7_6_1 c7_7_0 c7_7_1 hT_7
            replace H := Kp.call hq H
            clear hq
            have HC := H
            obtain ⟨hb_8, c8_0_0, c8_0_1, c8_1_0, c8_1_1, c8_2_0, c8_2_1, c8_3_0, c8_3_1, c8_4_0, c8_4_1, c8_5_0, c8_5_1, c8_6_0, c8_6_1, c8_7_0, c8_7_1, hT_8⟩ := HC
            go_wp2_with fail
            refine (rless_at _ l2).mono ?_
            rintro e w9 ⟨rfl, hq⟩
            clear hb_8 c8_0_0 c8_0_1 c8_1_0 c8_1_1 c8_2_0 c8_2_1 c8_3_0 c8_3_1 c8_4_0 c8_4_1 c8_5_0 c8_5_1 c8_6_0 c8_6_1 c8_7_0 c8_7_1 hT_8
            replace H := Kp.call hq H
            clear hq
            have HC := H
            obtain ⟨hb_9, c9_0_0, c9_0_1, c9_1_0, c9_1_1, c9_2_0, c9_2_1, c9_3_0, c9_3_1, c9_4_0, c9_4_1, c9_5_0, c9_5_1, c9_6_0, c9_6_1, c9_7_0, c9_7_1, hT_9⟩ := HC
            go_wp2_with fail
            refine (rless_at _ l3).mono ?_
            rintro e w10 ⟨rfl, hq⟩
            clear hb_9 c9_0_0 c9_0_1 c9_1_0 c9_1_1 c9_2_0 c9_2_1 c9_3_0 c9_3_1 c9_4_0 c9_4_1 c9_5_0 c9_5_1 c9_6_0 c9_6_1 c9_7_0 c9_7_1 hT_9
            replace H := Kp.call hq H
            clear hq
            have HC := H
            obtain ⟨hb_10, c10_0_0, c10_0_1, c10_1_0, c10_1_1, c10_2_0, c10_2_1, c10_3_0, c10_3_1, c10_4_0, c10_4_1, c10_5_0, c10_5_1, c10_6_0, c10_6_1, c10_7_0, c10_7_1, hT_10⟩ := HC
            go_wp2_with fail
            go_ret
            exact ⟨rfl, H.1⟩
          · go_wp2_with fail
            refine (rless_at _ l1).mono ?_
            rintro e w8 ⟨rfl, hq⟩
            clear hb_7 c7_0_0 c7_0_1 c7_1_0 c7_1_1 c7_2_0 c7_2_1 c7_3_0 c7_3_1 c7_4_0 c7_4_1 c7_5_0 c7_5_1 c7_6_0 c7_6_1 c7_7_0 c7_7_1 hT_7
            replace H := Kp.call hq H
            clear hq
            have HC := H
            obtain ⟨hb_8, c8_0_0, c8_0_1, c8_1_0, c8_1_1, c8_2_0, c8_2_1, c8_3_0, c8_3_1, c8_4_0, c8_4_1, c8_5_0, c8_5_1, c8_6_0, c8_6_1, c8_7_0, c8_7_1, hT_8⟩ := HC
            go_wp2_with fail
            refine (rless_at _ l2).mono ?_
            rintro e w9 ⟨rfl, hq⟩
            clear hb_8 c8_0_0 c8_0_1 c8_1_0 c8_1_1 c8_2_0 c8_2_1 c8_3_0 c8_3_1 c8_4_0 c8_4_1 c8_5_0 c8_5_1 c8_6_0 c8_6_1 c8_7_0 c8_7_1 hT_8
            replace H := Kp.call hq H
            clear hq
            have HC := H
            obtain ⟨hb_9, c9_0_0, c9_0_1, c9_1_0, c9_1_1, c9_2_0, c9_2_1, c9_3_0, c9_3_1, c9_4_0, c9_4_1, c9_5_0, c9_5_1, c9_6_0, c9_6_1, c9_7_0, c9_7_1, hT_9⟩ := HC
            go_wp2_with fail
            refine (rless_at _ l3).mono ?_
            rintro e w10 ⟨rfl, hq⟩
            clear hb_9 c9_0_0 c9_0_1 c9_1_0 c9_1_1 c9_2_0 c9_2_1 c9_3_0 c9_3_1 c9_4_0 c9_4_1 c9_5_0 c9_5_1 c9_6_0 c9_6_1 c9_7_0 c9_7_1 hT_9
            replace H := Kp.call hq H
            clear hq
            have HC := H
            obtain ⟨hb_10, c10_0_0, c10_0_1, c10_1_0, c10_1_1, c10_2_0, c10_2_1, c10_3_0, c10_3_1, c10_4_0, c10_4_1, c10_5_0, c10_5_1, c10_6_0, c10_6_1, c10_7_0, c10_7_1, hT_10⟩ := HC
            go_wp2_with fail
            go_ret
            exact ⟨rfl, H.1⟩
end Go.Proofs.Ythhmhdiiffmkkaa
