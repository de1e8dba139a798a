/- Contracts of the methods of a fraction: valid, wide, narrow, plus, times, less; and of the model's RatOk and l1Least. -/
import Derived.Test.YtbdmofmoegmigaaRatA
namespace Go.Proofs.Ytbdmofmoegmigaa
set_option linter.unusedVariables false
set_option linter.unusedSimpArgs false
open Go.RowKit

theorem inB_iff {n : Int} : inB n = true ↔ -1000000000 ≤ n ∧ n ≤ 1000000000 := by unfold inB; exact decide_eq_true_iff
theorem inB_no {n : Int} (h : ¬ inB n = true) : n < -1000000000 ∨ 1000000000 < n := by unfold inB at h; simp at h; omega
theorem okB_no1 {n d : Int} (h : ¬ inB n = true) : okB n d = false := by
  unfold okB; unfold inB at h; simp at h ⊢; omega
theorem okB_no2 {n d : Int} (h : ¬ inB d = true) : okB n d = false := by
  unfold okB; unfold inB at h; simp at h ⊢; omega
theorem okB_no3 {n d : Int} (h : ¬ 0 < d) : okB n d = false := by
  unfold okB; simp; omega
theorem gcd_natAbs (n d : Int) : Int.gcd (n.natAbs : Int) d = Int.gcd n d := by
  simp [Int.gcd_eq_natAbs_gcd_natAbs]
theorem okB_eq {n d : Int} (h1 : inB n = true) (h2 : inB d = true) (h3 : 0 < d) : (((Int.gcd (n.natAbs : Int) d : Nat) : Int) == 1) = okB n d := by
  rw [gcd_natAbs]; unfold okB; have a := inB_iff.1 h1; have b := inB_iff.1 h2
  rw [Bool.eq_iff_iff]; simp; omega

theorem valid_any (n d : Int) (w : World) :
    Calls Try.prog 118 #[.agg #[.int .i64 n, .int .i64 d]] w fun e w' => e = .returned (.bool (okB n d)) ∧ Below w.heap.size w w' := by
  by_cases h1 : inB n = true
  · by_cases h2 : inB d = true
    · obtain ⟨b11, b12⟩ := inB_iff.1 h1
      obtain ⟨b21, b22⟩ := inB_iff.1 h2
      by_cases h3 : 0 < d
      · go_enter Try.func118, Try.ntmps118
        go_wp2
        go_region
        go_wp2_with (first | (go_at_call 144; refine (range_any _ _).mono ?_; rintro e w' ⟨rfl, rfl⟩) | (go_at_call 146; refine (abs_any _ _ (by omega) (by omega)).mono ?_; rintro e w' ⟨rfl, rfl⟩) | (go_at_call 145; refine (gcd_any _ _ _ (by omega) (by omega) (by omega) (by omega)).mono ?_; rintro e w' ⟨rfl, nq, rfl⟩))
        go_ret
        exact ⟨ret_bool (okB_eq h1 h2 h3), bdn (bal (Below.refl _ _) _) _⟩
      · go_enter Try.func118, Try.ntmps118
        go_wp2
        go_region
        go_wp2_with (first | (go_at_call 144; refine (range_any _ _).mono ?_; rintro e w' ⟨rfl, rfl⟩))
        go_ret
        exact ⟨ret_bool (okB_no3 (by omega)).symm, (bal (Below.refl _ _) _).drew⟩
    · have h2' : inB d = false := by simpa using h2
      go_enter Try.func118, Try.ntmps118
      go_wp2
      go_region
      go_wp2_with (first | (go_at_call 144; refine (range_any _ _).mono ?_; rintro e w' ⟨rfl, rfl⟩))
      go_ret
      exact ⟨ret_bool (okB_no2 h2).symm, (bal (Below.refl _ _) _).drew⟩
  · have h1' : inB n = false := by simpa using h1
    go_enter Try.func118, Try.ntmps118
    go_wp2
    go_region
    go_wp2_with (first | (go_at_call 144; refine (range_any _ _).mono ?_; rintro e w' ⟨rfl, rfl⟩))
    go_ret
    exact ⟨ret_bool (okB_no1 h1).symm, (bal (Below.refl _ _) _).drew⟩

theorem wide_any (n d : Int) (w : World) :
    Calls Try.prog 129 #[.agg #[.int .i64 n, .int .i64 d]] w fun e w' => e = .returned (.agg #[.int .i64 n, .int .i64 d]) ∧ Below w.heap.size w w' := by
  go_enter Try.func129, Try.ntmps129
  go_wp2
  refine bodyPost_ret (v := .agg #[.int .i64 n, .int .i64 d]) (by simp [results, Try.results129, go_sem]) rfl ⟨rfl, ?_⟩
  exact bal (bal (Below.refl _ _) _) _

theorem plus_any (a b c d : Int) (w : World) (ha : -1000000000 ≤ a ∧ a ≤ 1000000000) (hc : -1000000000 ≤ c ∧ c ≤ 1000000000) (hb : 1 ≤ b ∧ b ≤ 1000000000) (hd : 1 ≤ d ∧ d ≤ 1000000000) :
    Calls Try.prog 153 #[.agg #[.int .i64 a, .int .i64 b], .agg #[.int .i64 c, .int .i64 d]] w fun e w' => e = .returned (.agg #[.int .i64 (a * d + c * b), .int .i64 (b * d)]) ∧ Below w.heap.size w w' := by
  obtain ⟨p1, p2⟩ := mul_bd9 ha (y := d) (by omega)
  obtain ⟨p3, p4⟩ := mul_bd9 hc (y := b) (by omega)
  obtain ⟨p5, p6⟩ := mul_bd9 (x := b) (y := d) (by omega) (by omega)
  go_enter Try.func153, Try.ntmps153
  go_wp2
  refine bodyPost_ret (v := .agg #[.int .i64 (a * d + c * b), .int .i64 (b * d)]) (by simp [results, Try.results153, go_sem]) rfl ⟨rfl, ?_⟩
  exact bal (bal (bal (Below.refl _ _) _) _) _

theorem times_any (a b c d : Int) (w : World) (ha : -1000000000 ≤ a ∧ a ≤ 1000000000) (hc : -1000000000 ≤ c ∧ c ≤ 1000000000) (hb : 1 ≤ b ∧ b ≤ 1000000000) (hd : 1 ≤ d ∧ d ≤ 1000000000) :
    Calls Try.prog 151 #[.agg #[.int .i64 a, .int .i64 b], .agg #[.int .i64 c, .int .i64 d]] w fun e w' => e = .returned (.agg #[.int .i64 (a * c), .int .i64 (b * d)]) ∧ Below w.heap.size w w' := by
  obtain ⟨p1, p2⟩ := mul_bd9 ha hc
  obtain ⟨p5, p6⟩ := mul_bd9 (x := b) (y := d) (by omega) (by omega)
  go_enter Try.func151, Try.ntmps151
  go_wp2
  refine bodyPost_ret (v := .agg #[.int .i64 (a * c), .int .i64 (b * d)]) (by simp [results, Try.results151, go_sem]) rfl ⟨rfl, ?_⟩
  exact bal (bal (bal (Below.refl _ _) _) _) _

theorem wless_any (a b c d : Int) (w : World) (ha : -1000000000 ≤ a ∧ a ≤ 1000000000) (hc : -1000000000 ≤ c ∧ c ≤ 1000000000) (hb : 1 ≤ b ∧ b ≤ 1000000000) (hd : 1 ≤ d ∧ d ≤ 1000000000) :
    Calls Try.prog 130 #[.agg #[.int .i64 a, .int .i64 b], .agg #[.int .i64 c, .int .i64 d]] w fun e w' => e = .returned (.bool (decide (a * d < c * b))) ∧ Below w.heap.size w w' := by
  obtain ⟨p1, p2⟩ := mul_bd9 ha (y := d) (by omega)
  obtain ⟨p3, p4⟩ := mul_bd9 hc (y := b) (by omega)
  go_enter Try.func130, Try.ntmps130
  go_wp2
  go_ret
  exact ⟨rfl, bal (bal (Below.refl _ _) _) _⟩

end Go.Proofs.Ytbdmofmoegmigaa
