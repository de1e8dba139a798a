/- The law FnRatOf: the walk. -/
import Derived.Test.YthhmhdiiffmkkaaLawK
namespace Go.Proofs.Ythhmhdiiffmkkaa
set_option linter.unusedVariables false
set_option linter.unusedSimpArgs false
open Go.RowKit
set_option maxHeartbeats 8000000 in
theorem walk_RatOf (a0 : Option Addr) (len0 cap0 : Nat) (w : World) (hby : Bytes w.heap.size w a0 len0) (hlc : len0 ≤ cap0) (hc : cap0 ≤ 9223372036854775807) :
    Calls Try.prog 3 #[.slice a0 len0 cap0] w fun e w' => e = .returned (.bool true) ∧ Below w.heap.size w w' := by
  by_cases hbig : 1048576 < len0
  · go_enter Try.func3, Try.ntmps3
    go_wp2
    go_ret
    exact ⟨rfl, Below.refl _ _⟩
  have H : Kp [] w w := Kp.new0 w
  go_enter Try.func3, Try.ntmps3
  go_wp2_with fail
  refine (drawints_any w.heap.size w a0 len0 cap0 (Nat.le_refl _) hby hlc hc).mono ?_
  rintro e w1 ⟨n, d, rfl, hq⟩
  replace H := Kp.call hq H
  clear hq
  have HC := H
  obtain ⟨hb_1, hT_1⟩ := HC
  clear hby
  rcases ofR_cases n d with hA | ⟨N, D, hA⟩
  · go_wp2_with fail
    refine (rof_at _ hA).mono ?_
    rintro e w2 ⟨rfl, hq⟩
    clear hb_1 hT_1
    replace H := Kp.call hq H
    clear hq
    replace H := H.consNew (.int .i64 0) (.int .i64 0) 26
    have HC := H
    obtain ⟨hb_2, c2_0_0, c2_0_1, hT_2⟩ := HC
    go_wp2_with fail
    refine (sof_at _ hA).mono ?_
    rintro e w3 ⟨rfl, hq⟩
    clear hb_2 c2_0_0 c2_0_1 hT_2
    replace H := Kp.call hq H
    clear hq
    replace H := H.consNew (.int .i64 0) (.int .i64 0) 26
    have HC := H
    obtain ⟨hb_3, c3_0_0, c3_0_1, c3_1_0, c3_1_1, hT_3⟩ := HC
    go_wp2_with fail
    go_ret
    exact ⟨rfl, H.1⟩
  · obtain ⟨⟨n1, n2⟩, ⟨d1, d2⟩, hv, he, hB⟩ := ofR_spec hA
    obtain ⟨b1, b2, b3, b4⟩ := ok_b hv
    obtain ⟨q1, q2⟩ := mul_bd9 (x := N) (y := d) ⟨b1, b2⟩ ⟨d1, d2⟩
    obtain ⟨q3, q4⟩ := mul_bd9 (x := n) (y := D) ⟨n1, n2⟩ (by omega)
    obtain ⟨C1, C2, c3, hC⟩ : ∃ C1 C2 c3, ofR (3 * n) (3 * d) = (C1, C2, c3) := ⟨_, _, _, rfl⟩
    have E : c3 = true → C1 = N ∧ C2 = D := fun h => ofR_three hA (by rw [hC, h])
    go_wp2_with fail
    refine (rof_at _ hA).mono ?_
    rintro e w2 ⟨rfl, hq⟩
    clear hb_1 hT_1
    replace H := Kp.call hq H
    clear hq
    replace H := H.consNew (.int .i64 N) (.int .i64 D) 26
    have HC := H
    obtain ⟨hb_2, c2_0_0, c2_0_1, hT_2⟩ := HC
    go_wp2_with fail
    refine (sof_at _ hA).mono ?_
    rintro e w3 ⟨rfl, hq⟩
    clear hb_2 c2_0_0 c2_0_1 hT_2
    replace H := Kp.call hq H
    clear hq
    replace H := H.consNew (.int .i64 N) (.int .i64 D) 26
    have HC := H
    obtain ⟨hb_3, c3_0_0, c3_0_1, c3_1_0, c3_1_1, hT_3⟩ := HC
    go_wp2_with fail
    refine (ratok_at _ _ _ hv).mono ?_
    rintro e w4 ⟨rfl, hq⟩
    clear hb_3 c3_0_0 c3_0_1 c3_1_0 c3_1_1 hT_3
    replace H := Kp.call hq H
    clear hq
    have HC := H
    obtain ⟨hb_4, c4_0_0, c4_0_1, c4_1_0, c4_1_1, hT_4⟩ := HC
    have he' : (N * d != n * D) = false := by simp [he]
    have he2 : (N * d == n * D) = true := by simp [he]
    go_wp2_with fail
    refine (rof_at _ hB).mono ?_
    rintro e w5 ⟨rfl, hq⟩
    clear hb_4 c4_0_0 c4_0_1 c4_1_0 c4_1_1 hT_4
    replace H := Kp.call hq H
    clear hq
    replace H := H.consNew (.int .i64 N) (.int .i64 D) 26
    have HC := H
    obtain ⟨hb_5, c5_0_0, c5_0_1, c5_1_0, c5_1_1, c5_2_0, c5_2_1, hT_5⟩ := HC
    go_wp2_with fail
    refine (rof_at _ hC).mono ?_
    rintro e w6 ⟨rfl, hq⟩
    clear hb_5 c5_0_0 c5_0_1 c5_1_0 c5_1_1 c5_2_0 c5_2_1 hT_5
    replace H := Kp.call hq H
    clear hq
    replace H := H.consNew (.int .i64 C1) (.int .i64 C2) 26
    have HC := H
    obtain ⟨hb_6, c6_0_0, c6_0_1, c6_1_0, c6_1_1, c6_2_0, c6_2_1, c6_3_0, c6_3_1, hT_6⟩ := HC
    clear hA hB hC
    cases c3
    · clear E
      go_wp2_with fail
      go_ret
      exact ⟨rfl, H.1⟩
    · obtain ⟨rfl, rfl⟩ := E rfl
      go_wp2_with fail
      go_ret
      exact ⟨rfl, H.1⟩
end Go.Proofs.Ythhmhdiiffmkkaa
