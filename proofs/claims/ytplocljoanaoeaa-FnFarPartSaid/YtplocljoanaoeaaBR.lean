/- Several texts in one: RatA, RatB, RatC, RatD, RatE, RatF, RatG, RatH, RatI. -/
import Derived.Test.YtplocljoanaoeaaBase
import Derived.Test.YtplocljoanaoeaaBM
import Derived.WalkKit
import Derived.WalkLawsBesides
import Derived.WalkSpells
import Derived.RegionTactic
import Derived.Deep.QuietTactic
import Derived.BigQuiet
import Derived.LoopTactic
import Derived.Outline
import Derived.Deep.RegionHeld3
namespace Go.Proofs.Ytplocljoanaoeaa
set_option linter.unusedVariables false
set_option linter.unusedSimpArgs false
open Go.RowKit

theorem gcd_any (a b : Int) (w : World) (ha : 0 ≤ a) (ha' : a ≤ 4000000000000000000) (hb : 0 ≤ b) (hb' : b ≤ 4000000000000000000) :
    Calls Try.prog 90 #[.int .i64 a, .int .i64 b] w fun e w' => e = .returned (.int .i64 (Int.gcd a b)) ∧ ∃ n, w' = w.drewN n := by
  go_enter Try.func90, Try.ntmps90
  go_wp2
  go_loopw [0, 1] (fun x y wr => ∃ p q : Int, 0 ≤ p ∧ p ≤ 4000000000000000000 ∧ 0 ≤ q ∧ q ≤ 4000000000000000000 ∧ x = .int .i64 p ∧ y = .int .i64 q ∧ Int.gcd p q = Int.gcd a b ∧ ∃ n, wr = w.drewN n) (fun _ y _ => (intOf y).toNat)
  case atStart => exact ⟨a, b, ha, ha', hb, hb', rfl, rfl, rfl, 0, rfl⟩
  case round =>
    obtain ⟨p, q, hp, hp', hq, hq', rfl, rfl, hg, n, rfl⟩ := hrel
    have HG := hid hg
    clear hg
    by_cases hz : q = 0
    · subst hz
      go_wp2
      go_ret
      refine ⟨ret_int ?_, n, rfl⟩
      have := HG.out
      rw [Int.gcd_zero] at this
      omega
    · have hq0 : 0 < q := by omega
      go_wp2
      have hm0 := Int.emod_nonneg p (show q ≠ 0 by omega)
      have hm1 := Int.emod_lt_of_pos p hq0
      go_region
      all_goals
        go_roundw
        case rel => (repeat apply Exists.intro); exact ⟨⟨q, p % q, by omega, by omega, by omega, by omega, rfl, rfl, (gcd_emod' p q).trans HG.out, n + 1, rfl⟩, rfl⟩
        case measure => simp [intOf]; omega

theorem lgcd_any (a b : Int) (w : World) (ha : 0 ≤ a) (ha' : a ≤ 4000000000000000000) (hb : 0 ≤ b) (hb' : b ≤ 4000000000000000000) :
    Calls Try.prog 107 #[.int .i64 a, .int .i64 b] w fun e w' => e = .returned (.int .i64 (Int.gcd a b)) ∧ ∃ n, w' = w.drewN n := by
  go_enter Try.func107, Try.ntmps107
  go_wp2
  go_loopw [0, 1] (fun x y wr => ∃ p q : Int, 0 ≤ p ∧ p ≤ 4000000000000000000 ∧ 0 ≤ q ∧ q ≤ 4000000000000000000 ∧ x = .int .i64 p ∧ y = .int .i64 q ∧ Int.gcd p q = Int.gcd a b ∧ ∃ n, wr = w.drewN n) (fun _ y _ => (intOf y).toNat)
  case atStart => exact ⟨a, b, ha, ha', hb, hb', rfl, rfl, rfl, 0, rfl⟩
  case round =>
    obtain ⟨p, q, hp, hp', hq, hq', rfl, rfl, hg, n, rfl⟩ := hrel
    have HG := hid hg
    clear hg
    by_cases hz : q = 0
    · subst hz
      go_wp2
      go_ret
      refine ⟨ret_int ?_, n, rfl⟩
      have := HG.out
      rw [Int.gcd_zero] at this
      omega
    · have hq0 : 0 < q := by omega
      go_wp2
      have hm0 := Int.emod_nonneg p (show q ≠ 0 by omega)
      have hm1 := Int.emod_lt_of_pos p hq0
      go_region
      all_goals
        go_roundw
        case rel => (repeat apply Exists.intro); exact ⟨⟨q, p % q, by omega, by omega, by omega, by omega, rfl, rfl, (gcd_emod' p q).trans HG.out, n + 1, rfl⟩, rfl⟩
        case measure => simp [intOf]; omega

theorem abs_any (a : Int) (w : World) (ha : -4000000000000000000 ≤ a) (ha' : a ≤ 4000000000000000000) :
    Calls Try.prog 91 #[.int .i64 a] w fun e w' => e = .returned (.int .i64 (a.natAbs : Int)) ∧ w' = w := by
  by_cases h : a < 0
  · go_enter Try.func91, Try.ntmps91
    go_wp2
    go_ret
    exact ⟨ret_int (by omega), rfl⟩
  · go_enter Try.func91, Try.ntmps91
    go_wp2
    go_ret
    exact ⟨ret_int (by omega), rfl⟩

def inB (n : Int) : Bool := decide (-1000000000 ≤ n ∧ n ≤ 1000000000)
theorem range_any (n : Int) (w : World) :
    Calls Try.prog 89 #[.int .i64 n] w fun e w' => e = .returned (.bool (inB n)) ∧ w' = w := by
  by_cases h : -1000000000 ≤ n
  · by_cases h2 : n ≤ 1000000000
    · go_enter Try.func89, Try.ntmps89
      go_wp2
      go_ret
      exact ⟨ret_bool (by simp [inB]; omega), rfl⟩
    · go_enter Try.func89, Try.ntmps89
      go_wp2
      go_ret
      exact ⟨ret_bool (by simp [inB]; omega), rfl⟩
  · go_enter Try.func89, Try.ntmps89
    go_wp2
    go_ret
    exact ⟨ret_bool (by simp [inB]; omega), rfl⟩

def labs (n : Int) : Int := if n < -1000000000 ∨ n > 1000000000 then 1000000001 else n.natAbs
theorem labs_any (n : Int) (w : World) :
    Calls Try.prog 92 #[.int .i64 n] w fun e w' => e = .returned (.int .i64 (labs n)) ∧ w' = w := by
  by_cases h : n < -1000000000
  · go_enter Try.func92, Try.ntmps92
    go_wp2
    go_ret
    exact ⟨ret_int (by simp [labs]; omega), rfl⟩
  · by_cases h2 : n > 1000000000
    · go_enter Try.func92, Try.ntmps92
      go_wp2
      go_ret
      exact ⟨ret_int (by simp [labs]; omega), rfl⟩
    · by_cases h3 : n < 0
      · go_enter Try.func92, Try.ntmps92
        go_wp2
        go_ret
        exact ⟨ret_int (by simp [labs]; omega), rfl⟩
      · go_enter Try.func92, Try.ntmps92
        go_wp2
        go_ret
        exact ⟨ret_int (by simp [labs]; omega), rfl⟩
end Go.Proofs.Ytplocljoanaoeaa

namespace Go.Proofs.Ytplocljoanaoeaa
set_option linter.unusedVariables false
set_option linter.unusedSimpArgs false
open Go.RowKit

theorem inB_iff {n : Int} : inB n = true ↔ -1000000000 ≤ n ∧ n ≤ 1000000000 := by unfold inB; exact decide_eq_true_iff
theorem inB_no {n : Int} (h : ¬ inB n = true) : n < -1000000000 ∨ 1000000000 < n := by unfold inB at h; simp at h; omega
theorem okB_no1 {n d : Int} (h : ¬ inB n = true) : okB n d = false := by
  unfold okB; unfold inB at h; simp at h ⊢; omega
theorem okB_no2 {n d : Int} (h : ¬ inB d = true) : okB n d = false := by
  unfold okB; unfold inB at h; simp at h ⊢; omega
theorem okB_no3 {n d : Int} (h : ¬ 0 < d) : okB n d = false := by
  unfold okB; simp; omega
theorem gcd_natAbs (n d : Int) : Int.gcd (n.natAbs : Int) d = Int.gcd n d := by
  simp [Int.gcd_eq_natAbs_gcd_natAbs]
theorem okB_eq {n d : Int} (h1 : inB n = true) (h2 : inB d = true) (h3 : 0 < d) : (((Int.gcd (n.natAbs : Int) d : Nat) : Int) == 1) = okB n d := by
  rw [gcd_natAbs]; unfold okB; have a := inB_iff.1 h1; have b := inB_iff.1 h2
  rw [Bool.eq_iff_iff]; simp; omega

theorem valid_any (n d : Int) (w : World) :
    Calls Try.prog 59 #[.agg #[.int .i64 n, .int .i64 d]] w fun e w' => e = .returned (.bool (okB n d)) ∧ Below w.heap.size w w' := by
  by_cases h1 : inB n = true
  · by_cases h2 : inB d = true
    · obtain ⟨b11, b12⟩ := inB_iff.1 h1
      obtain ⟨b21, b22⟩ := inB_iff.1 h2
      by_cases h3 : 0 < d
      · go_enter Try.func59, Try.ntmps59
        go_wp2
        go_region
        go_wp2_with (first | (go_at_call 89; refine (range_any _ _).mono ?_; rintro e w' ⟨rfl, rfl⟩) | (go_at_call 91; refine (abs_any _ _ (by omega) (by omega)).mono ?_; rintro e w' ⟨rfl, rfl⟩) | (go_at_call 90; refine (gcd_any _ _ _ (by omega) (by omega) (by omega) (by omega)).mono ?_; rintro e w' ⟨rfl, nq, rfl⟩))
        go_ret
        exact ⟨ret_bool (okB_eq h1 h2 h3), bdn (bal (Below.refl _ _) _) _⟩
      · go_enter Try.func59, Try.ntmps59
        go_wp2
        go_region
        go_wp2_with (first | (go_at_call 89; refine (range_any _ _).mono ?_; rintro e w' ⟨rfl, rfl⟩))
        go_ret
        exact ⟨ret_bool (okB_no3 (by omega)).symm, (bal (Below.refl _ _) _).drew⟩
    · have h2' : inB d = false := by simpa using h2
      go_enter Try.func59, Try.ntmps59
      go_wp2
      go_region
      go_wp2_with (first | (go_at_call 89; refine (range_any _ _).mono ?_; rintro e w' ⟨rfl, rfl⟩))
      go_ret
      exact ⟨ret_bool (okB_no2 h2).symm, (bal (Below.refl _ _) _).drew⟩
  · have h1' : inB n = false := by simpa using h1
    go_enter Try.func59, Try.ntmps59
    go_wp2
    go_region
    go_wp2_with (first | (go_at_call 89; refine (range_any _ _).mono ?_; rintro e w' ⟨rfl, rfl⟩))
    go_ret
    exact ⟨ret_bool (okB_no1 h1).symm, (bal (Below.refl _ _) _).drew⟩

theorem wide_any (n d : Int) (w : World) :
    Calls Try.prog 80 #[.agg #[.int .i64 n, .int .i64 d]] w fun e w' => e = .returned (.agg #[.int .i64 n, .int .i64 d]) ∧ Below w.heap.size w w' := by
  go_enter Try.func80, Try.ntmps80
  go_wp2
  refine bodyPost_ret (v := .agg #[.int .i64 n, .int .i64 d]) (by simp [results, Try.results80, go_sem]) rfl ⟨rfl, ?_⟩
  exact bal (bal (Below.refl _ _) _) _

theorem plus_any (a b c d : Int) (w : World) (ha : -1000000000 ≤ a ∧ a ≤ 1000000000) (hc : -1000000000 ≤ c ∧ c ≤ 1000000000) (hb : 1 ≤ b ∧ b ≤ 1000000000) (hd : 1 ≤ d ∧ d ≤ 1000000000) :
    Calls Try.prog 106 #[.agg #[.int .i64 a, .int .i64 b], .agg #[.int .i64 c, .int .i64 d]] w fun e w' => e = .returned (.agg #[.int .i64 (a * d + c * b), .int .i64 (b * d)]) ∧ Below w.heap.size w w' := by
  obtain ⟨p1, p2⟩ := mul_bd9 ha (y := d) (by omega)
  obtain ⟨p3, p4⟩ := mul_bd9 hc (y := b) (by omega)
  obtain ⟨p5, p6⟩ := mul_bd9 (x := b) (y := d) (by omega) (by omega)
  go_enter Try.func106, Try.ntmps106
  go_wp2
  refine bodyPost_ret (v := .agg #[.int .i64 (a * d + c * b), .int .i64 (b * d)]) (by simp [results, Try.results106, go_sem]) rfl ⟨rfl, ?_⟩
  exact bal (bal (bal (Below.refl _ _) _) _) _

theorem times_any (a b c d : Int) (w : World) (ha : -1000000000 ≤ a ∧ a ≤ 1000000000) (hc : -1000000000 ≤ c ∧ c ≤ 1000000000) (hb : 1 ≤ b ∧ b ≤ 1000000000) (hd : 1 ≤ d ∧ d ≤ 1000000000) :
    Calls Try.prog 104 #[.agg #[.int .i64 a, .int .i64 b], .agg #[.int .i64 c, .int .i64 d]] w fun e w' => e = .returned (.agg #[.int .i64 (a * c), .int .i64 (b * d)]) ∧ Below w.heap.size w w' := by
  obtain ⟨p1, p2⟩ := mul_bd9 ha hc
  obtain ⟨p5, p6⟩ := mul_bd9 (x := b) (y := d) (by omega) (by omega)
  go_enter Try.func104, Try.ntmps104
  go_wp2
  refine bodyPost_ret (v := .agg #[.int .i64 (a * c), .int .i64 (b * d)]) (by simp [results, Try.results104, go_sem]) rfl ⟨rfl, ?_⟩
  exact bal (bal (bal (Below.refl _ _) _) _) _

theorem wless_any (a b c d : Int) (w : World) (ha : -1000000000 ≤ a ∧ a ≤ 1000000000) (hc : -1000000000 ≤ c ∧ c ≤ 1000000000) (hb : 1 ≤ b ∧ b ≤ 1000000000) (hd : 1 ≤ d ∧ d ≤ 1000000000) :
    Calls Try.prog 81 #[.agg #[.int .i64 a, .int .i64 b], .agg #[.int .i64 c, .int .i64 d]] w fun e w' => e = .returned (.bool (decide (a * d < c * b))) ∧ Below w.heap.size w w' := by
  obtain ⟨p1, p2⟩ := mul_bd9 ha (y := d) (by omega)
  obtain ⟨p3, p4⟩ := mul_bd9 hc (y := b) (by omega)
  go_enter Try.func81, Try.ntmps81
  go_wp2
  go_ret
  exact ⟨rfl, bal (bal (Below.refl _ _) _) _⟩

end Go.Proofs.Ytplocljoanaoeaa

namespace Go.Proofs.Ytplocljoanaoeaa
set_option linter.unusedVariables false
set_option linter.unusedSimpArgs false
open Go.RowKit
theorem least_yes {n d : Int} (h1 : inB (n.tdiv (Int.gcd (n.natAbs : Int) d : Int)) = true) (h2 : inB (d / (Int.gcd (n.natAbs : Int) d : Int)) = true) :
    leastR n d = (n.tdiv (Int.gcd (n.natAbs : Int) d : Int), d / (Int.gcd (n.natAbs : Int) d : Int), true) := by
  rw [gcd_natAbs] at *; rw [tdiv_gcd] at *
  have a := inB_iff.1 h1; have b := inB_iff.1 h2
  unfold leastR; rw [if_pos ⟨a.1, a.2, b.2⟩]
theorem least_no1 {n d : Int} (h1 : ¬ inB (n.tdiv (Int.gcd (n.natAbs : Int) d : Int)) = true) : leastR n d = (0, 0, false) := by
  rw [gcd_natAbs] at *; rw [tdiv_gcd] at *
  unfold leastR; rw [if_neg (fun h => h1 (inB_iff.2 ⟨h.1, h.2.1⟩))]
theorem least_no2 {n d : Int} (hd : 1 ≤ d) (h2 : ¬ inB (d / (Int.gcd (n.natAbs : Int) d : Int)) = true) : leastR n d = (0, 0, false) := by
  have g1 := gcd1 (n := (n.natAbs : Int)) hd
  have := (ediv_bd g1 (show 0 ≤ d by omega)).1
  rw [gcd_natAbs] at *
  unfold leastR; rw [if_neg (fun h => h2 (inB_iff.2 ⟨by omega, h.2.2⟩))]

theorem narrow_any (n d : Int) (w : World) (hn : -2000000000000000000 ≤ n ∧ n ≤ 2000000000000000000) (hd : 1 ≤ d ∧ d ≤ 1000000000000000000) :
    Calls Try.prog 105 #[.agg #[.int .i64 n, .int .i64 d]] w fun e w' => e = .returned (.tuple #[.agg #[.int .i64 (leastR n d).1, .int .i64 (leastR n d).2.1], .bool (leastR n d).2.2]) ∧ Below w.heap.size w w' := by
  obtain ⟨n1, n2⟩ := hn
  obtain ⟨d1, d2⟩ := hd
  have g1 := gcd1 (n := (n.natAbs : Int)) d1
  obtain ⟨q1, q2⟩ := tdiv_bd 2000000000000000000 g1 ⟨n1, n2⟩
  obtain ⟨q3, q4⟩ := ediv_bd g1 (show 0 ≤ d by omega)
  by_cases h1 : inB (n.tdiv (Int.gcd (n.natAbs : Int) d : Int)) = true
  · by_cases h2 : inB (d / (Int.gcd (n.natAbs : Int) d : Int)) = true
    · go_enter Try.func105, Try.ntmps105
      go_wp2
      go_quiet ((first | (go_at_call 91; exact Calls.quiet_of_same (abs_any _ _ (by omega) (by omega))) | (go_at_call 90; exact Calls.quiet_of (gcd_any _ _ _ (by omega) (by omega) (by omega) (by omega)))))
      go_wp2
      go_quiet (fail)
      go_wp2_with (first | (go_at_call 89; refine (range_any _ _).mono ?_; rintro e w' ⟨rfl, rfl⟩))
      rw [least_yes h1 h2]
      refine bodyPost_ret (v := .tuple #[.agg #[.int .i64 (n.tdiv (Int.gcd (n.natAbs : Int) d : Int)), .int .i64 (d / (Int.gcd (n.natAbs : Int) d : Int))], .bool true]) (by simp [results, Try.results105, go_sem]) rfl ⟨rfl, ?_⟩
      exact bst (bst (bdn (bal (bal (Below.refl _ _) _) _) _) (by simp) _) (by simp) _
    · have h2' : inB (d / (Int.gcd (n.natAbs : Int) d : Int)) = false := by simpa using h2
      go_enter Try.func105, Try.ntmps105
      go_wp2
      go_quiet ((first | (go_at_call 91; exact Calls.quiet_of_same (abs_any _ _ (by omega) (by omega))) | (go_at_call 90; exact Calls.quiet_of (gcd_any _ _ _ (by omega) (by omega) (by omega) (by omega)))))
      go_wp2
      go_quiet (fail)
      go_wp2_with (first | (go_at_call 89; refine (range_any _ _).mono ?_; rintro e w' ⟨rfl, rfl⟩))
      rw [least_no2 d1 h2]
      refine bodyPost_ret (v := .tuple #[.agg #[.int .i64 0, .int .i64 0], .bool false]) (by simp [results, Try.results105, go_sem]) rfl ⟨rfl, ?_⟩
      exact bst (bst (bdn (bal (bal (Below.refl _ _) _) _) _) (by simp) _) (by simp) _
  · have h1' : inB (n.tdiv (Int.gcd (n.natAbs : Int) d : Int)) = false := by simpa using h1
    go_enter Try.func105, Try.ntmps105
    go_wp2
    go_quiet ((first | (go_at_call 91; exact Calls.quiet_of_same (abs_any _ _ (by omega) (by omega))) | (go_at_call 90; exact Calls.quiet_of (gcd_any _ _ _ (by omega) (by omega) (by omega) (by omega)))))
    go_wp2
    go_quiet (fail)
    go_wp2_with (first | (go_at_call 89; refine (range_any _ _).mono ?_; rintro e w' ⟨rfl, rfl⟩))
    rw [least_no1 h1]
    refine bodyPost_ret (v := .tuple #[.agg #[.int .i64 0, .int .i64 0], .bool false]) (by simp [results, Try.results105, go_sem]) rfl ⟨rfl, ?_⟩
    exact bst (bst (bdn (bal (bal (Below.refl _ _) _) _) _) (by simp) _) (by simp) _

theorem ratok_any (n d : Int) (w : World) :
    Calls Try.prog 29 #[.agg #[.int .i64 n, .int .i64 d]] w fun e w' => e = .returned (.bool (okB n d)) ∧ Below w.heap.size w w' := by
  go_enter Try.func29, Try.ntmps29
  go_wp2_with (first | (go_at_call 59; refine (valid_any _ _ _).mono ?_; rintro e w' ⟨rfl, hb⟩))
  go_ret
  exact ⟨rfl, btr (bal (Below.refl _ _) _) hb⟩

theorem labs_le {n : Int} : labs n ≤ 1000000000 ↔ (-1000000000 ≤ n ∧ n ≤ 1000000000) := by unfold labs; split <;> omega
theorem labs_abs {n : Int} (h : labs n ≤ 1000000000) : labs n = n.natAbs := by have := labs_le.1 h; unfold labs; rw [if_neg (by omega)]
theorem labs_bd (n : Int) : 0 ≤ labs n ∧ labs n ≤ 1000000001 := by unfold labs; split <;> omega

theorem sok_eq {n d : Int} (c1 : labs n ≤ 1000000000) (c2 : 1 ≤ d) (c3 : d ≤ 1000000000) : (((Int.gcd (labs n) d : Nat) : Int) == 1) = okB n d := by
  have := labs_le.1 c1
  rw [labs_abs c1]; exact okB_eq (inB_iff.2 this) (inB_iff.2 ⟨by omega, c3⟩) (by omega)

theorem sok_any (n d : Int) (w : World) :
    Calls Try.prog 88 #[.agg #[.int .i64 n, .int .i64 d]] w fun e w' => e = .returned (.bool (okB n d)) ∧ Below w.heap.size w w' := by
  obtain ⟨l1, l2⟩ := labs_bd n
  by_cases c1 : labs n ≤ 1000000000
  · have k1 : decide (labs n ≤ 1000000000) = true := by simpa using c1
    by_cases c2 : 1 ≤ d
    · have k2 : decide (1 ≤ d) = true := by simpa using c2
      by_cases c3 : d ≤ 1000000000
      · have k3 : decide (d ≤ 1000000000) = true := by simpa using c3
        go_enter Try.func88, Try.ntmps88
        go_wp2
        go_quiet ((first | (go_at_call 92; exact Calls.quiet_of_same (labs_any _ _)) | (go_at_call 107; exact Calls.quiet_of (lgcd_any _ _ _ (by omega) (by omega) (by omega) (by omega)))))
        go_wp2
        go_ret
        exact ⟨ret_bool (sok_eq c1 c2 c3), bdn (bal (Below.refl _ _) _) _⟩
      · have k3 : decide (d ≤ 1000000000) = false := by simpa using c3
        go_enter Try.func88, Try.ntmps88
        go_wp2
        go_quiet ((first | (go_at_call 92; exact Calls.quiet_of_same (labs_any _ _)) | (go_at_call 107; exact Calls.quiet_of (lgcd_any _ _ _ (by omega) (by omega) (by omega) (by omega)))))
        go_wp2
        go_ret
        exact ⟨ret_bool (by unfold okB; simp; omega), bdn (bal (Below.refl _ _) _) _⟩
    · have k2 : decide (1 ≤ d) = false := by simpa using c2
      go_enter Try.func88, Try.ntmps88
      go_wp2
      go_quiet ((first | (go_at_call 92; exact Calls.quiet_of_same (labs_any _ _)) | (go_at_call 107; exact Calls.quiet_of (lgcd_any _ _ _ (by omega) (by omega) (by omega) (by omega)))))
      go_wp2
      go_ret
      exact ⟨ret_bool (by unfold okB; simp; omega), bdn (bal (Below.refl _ _) _) _⟩
  · have k1 : decide (labs n ≤ 1000000000) = false := by simpa using c1
    go_enter Try.func88, Try.ntmps88
    go_wp2
    go_quiet ((first | (go_at_call 92; exact Calls.quiet_of_same (labs_any _ _)) | (go_at_call 107; exact Calls.quiet_of (lgcd_any _ _ _ (by omega) (by omega) (by omega) (by omega)))))
    go_wp2
    go_ret
    exact ⟨ret_bool (by have := labs_le (n := n); unfold okB; simp; omega), bdn (bal (Below.refl _ _) _) _⟩
end Go.Proofs.Ytplocljoanaoeaa

namespace Go.Proofs.Ytplocljoanaoeaa
set_option linter.unusedVariables false
set_option linter.unusedSimpArgs false
open Go.RowKit
theorem lgcd_neg (n d : Int) (w : World) (hn : n < 0) (ha' : -4000000000000000000 ≤ n) (hb : 0 ≤ d) (hb' : d ≤ 4000000000000000000) :
    Calls Try.prog 107 #[.int .i64 (-n), .int .i64 d] w fun e w' => e = .returned (.int .i64 (Int.gcd n d)) ∧ ∃ k, w' = w.drewN k := by
  have := lgcd_any (-n) d w (by omega) (by omega) hb hb'
  rwa [Int.neg_gcd] at this
theorem two_cells {w1 : World} {b : Nat} {u v : Value} (h0 : w1.cell? ⟨b, 0, none⟩ = some u) (h1 : w1.cell? ⟨b, 1, none⟩ = some v) :
    (∀ x y, ((w1.setCell ⟨b, 0, none⟩ x).setCell ⟨b, 1, none⟩ y).cell? ⟨b, 0, none⟩ = some x) ∧ (∀ x y, ((w1.setCell ⟨b, 0, none⟩ x).setCell ⟨b, 1, none⟩ y).cell? ⟨b, 1, none⟩ = some y) := by
  refine ⟨fun x y => ?_, fun x y => ?_⟩
  · exact (World.cell?_setCell_other _ _ _ _ (by simp)).trans (World.cell?_setCell_same _ _ _ h0)
  · exact World.cell?_setCell_same _ _ _ ((World.cell?_setCell_other _ ⟨b, 0, none⟩ ⟨b, 1, none⟩ _ (by simp)).trans h1)
theorem least_pos {n d : Int} (hd : 1 ≤ d) : 1 ≤ d / (Int.gcd n d : Int) := by
  have g1 := gcd1 (n := n) hd
  have h1 : (Int.gcd n d : Int) ≤ d := Int.gcd_le_right n (by omega)
  have := Int.ediv_pos_of_pos_of_dvd (show 0 < d by omega) (show 0 ≤ (Int.gcd n d : Int) by omega) (Int.gcd_dvd_right n d)
  omega
theorem least_ok {n d : Int} (hd : 1 ≤ d) (h : okB (n.tdiv (Int.gcd n d : Int)) (d / (Int.gcd n d : Int)) = true) :
    leastR n d = (n.tdiv (Int.gcd n d : Int), d / (Int.gcd n d : Int), true) := by
  rw [tdiv_gcd] at *
  have a := okB_iff.1 h
  unfold leastR; rw [if_pos ⟨a.1, a.2.1, a.2.2.2.1⟩]
theorem least_bad {n d : Int} (hd : 1 ≤ d) (h : okB (n.tdiv (Int.gcd n d : Int)) (d / (Int.gcd n d : Int)) = false) :
    leastR n d = (0, 0, false) := by
  rw [tdiv_gcd] at *
  have p := least_pos (n := n) hd
  have g1 := gcd_pos (n := n) (show 0 < d by omega)
  have g2 := Int.gcd_ediv_gcd_ediv_gcd g1
  unfold leastR; rw [if_neg]
  intro hh
  rw [okB_iff.2 ⟨hh.1, hh.2.1, p, hh.2.2, g2⟩] at h
  cases h
theorem lleast_any (n d : Int) (w : World) (hn : -2000000000000000000 ≤ n ∧ n ≤ 2000000000000000000) (hd : 1 ≤ d ∧ d ≤ 1000000000000000000) :
    Calls Try.prog 93 #[.int .i64 n, .int .i64 d] w fun e w' => e = .returned (.tuple #[.agg #[.int .i64 (leastR n d).1, .int .i64 (leastR n d).2.1], .bool (leastR n d).2.2]) ∧ Below w.heap.size w w' := by
  obtain ⟨n1, n2⟩ := hn
  obtain ⟨d1, d2⟩ := hd
  have g1 := gcd1 (n := n) d1
  obtain ⟨q1, q2⟩ := tdiv_bd 2000000000000000000 g1 ⟨n1, n2⟩
  obtain ⟨q3, q4⟩ := ediv_bd g1 (show 0 ≤ d by omega)
  by_cases h0 : n < 0
  · cases h1 : okB (n.tdiv (Int.gcd n d : Int)) (d / (Int.gcd n d : Int))
    · rw [least_bad d1 h1]
      go_enter Try.func93, Try.ntmps93
      go_wp2_with (first | (go_at_call 107; refine (lgcd_neg _ _ _ (by omega) (by omega) (by omega) (by omega)).mono ?_; rintro e w' ⟨rfl, nq, rfl⟩))
      go_region
      go_wp2_with (first | (go_at_call 88; refine (sok_any _ _ _).mono ?_; rintro e w1 ⟨rfl, hb⟩; obtain ⟨hc, hf⟩ := bcell hb; have hz : w.heap.size + 1 < w1.heap.size := by have := hb.size; first | omega | (simp at this; omega)))
      have e0 : w1.cell? ⟨w.heap.size, 0, none⟩ = some (.int .i64 0) := by rw [hc _ _ (by simp <;> omega)]; simp [go_sem]
      have e1 : w1.cell? ⟨w.heap.size, 1, none⟩ = some (.int .i64 0) := by rw [hc _ _ (by simp <;> omega)]; simp [go_sem]
      obtain ⟨t0, t1⟩ := two_cells e0 e1
      refine bodyPost_ret (v := .tuple #[.agg #[.int .i64 0, .int .i64 0], .bool false]) (by simp [results, Try.results93, go_sem, t0, t1]) rfl ⟨rfl, ?_⟩
      exact bst (bst (btr (bal (bdn (bal (Below.refl _ _) _) _) _) hb) (by simp <;> omega) _) (by simp <;> omega) _
    · rw [least_ok d1 h1]
      go_enter Try.func93, Try.ntmps93
      go_wp2_with (first | (go_at_call 107; refine (lgcd_neg _ _ _ (by omega) (by omega) (by omega) (by omega)).mono ?_; rintro e w' ⟨rfl, nq, rfl⟩))
      go_region
      go_wp2_with (first | (go_at_call 88; refine (sok_any _ _ _).mono ?_; rintro e w1 ⟨rfl, hb⟩; obtain ⟨hc, hf⟩ := bcell hb; have hz : w.heap.size + 1 < w1.heap.size := by have := hb.size; first | omega | (simp at this; omega)))
      have e0 : w1.cell? ⟨w.heap.size, 0, none⟩ = some (.int .i64 0) := by rw [hc _ _ (by simp <;> omega)]; simp [go_sem]
      have e1 : w1.cell? ⟨w.heap.size, 1, none⟩ = some (.int .i64 0) := by rw [hc _ _ (by simp <;> omega)]; simp [go_sem]
      obtain ⟨t0, t1⟩ := two_cells e0 e1
      refine bodyPost_ret (v := .tuple #[.agg #[.int .i64 (n.tdiv (Int.gcd n d : Int)), .int .i64 (d / (Int.gcd n d : Int))], .bool true]) (by simp [results, Try.results93, go_sem, t0, t1]) rfl ⟨rfl, ?_⟩
      exact bst (bst (btr (bal (bdn (bal (Below.refl _ _) _) _) _) hb) (by simp <;> omega) _) (by simp <;> omega) _
  · cases h1 : okB (n.tdiv (Int.gcd n d : Int)) (d / (Int.gcd n d : Int))
    · rw [least_bad d1 h1]
      go_enter Try.func93, Try.ntmps93
      go_wp2_with (first | (go_at_call 107; refine (lgcd_any _ _ _ (by omega) (by omega) (by omega) (by omega)).mono ?_; rintro e w' ⟨rfl, nq, rfl⟩))
      go_region
      go_wp2_with (first | (go_at_call 88; refine (sok_any _ _ _).mono ?_; rintro e w1 ⟨rfl, hb⟩; obtain ⟨hc, hf⟩ := bcell hb; have hz : w.heap.size + 1 < w1.heap.size := by have := hb.size; first | omega | (simp at this; omega)))
      have e0 : w1.cell? ⟨w.heap.size, 0, none⟩ = some (.int .i64 0) := by rw [hc _ _ (by simp <;> omega)]; simp [go_sem]
      have e1 : w1.cell? ⟨w.heap.size, 1, none⟩ = some (.int .i64 0) := by rw [hc _ _ (by simp <;> omega)]; simp [go_sem]
      obtain ⟨t0, t1⟩ := two_cells e0 e1
      refine bodyPost_ret (v := .tuple #[.agg #[.int .i64 0, .int .i64 0], .bool false]) (by simp [results, Try.results93, go_sem, t0, t1]) rfl ⟨rfl, ?_⟩
      exact bst (bst (btr (bal (bdn (bal (Below.refl _ _) _) _) _) hb) (by simp <;> omega) _) (by simp <;> omega) _
    · rw [least_ok d1 h1]
      go_enter Try.func93, Try.ntmps93
      go_wp2_with (first | (go_at_call 107; refine (lgcd_any _ _ _ (by omega) (by omega) (by omega) (by omega)).mono ?_; rintro e w' ⟨rfl, nq, rfl⟩))
      go_region
      go_wp2_with (first | (go_at_call 88; refine (sok_any _ _ _).mono ?_; rintro e w1 ⟨rfl, hb⟩; obtain ⟨hc, hf⟩ := bcell hb; have hz : w.heap.size + 1 < w1.heap.size := by have := hb.size; first | omega | (simp at this; omega)))
      have e0 : w1.cell? ⟨w.heap.size, 0, none⟩ = some (.int .i64 0) := by rw [hc _ _ (by simp <;> omega)]; simp [go_sem]
      have e1 : w1.cell? ⟨w.heap.size, 1, none⟩ = some (.int .i64 0) := by rw [hc _ _ (by simp <;> omega)]; simp [go_sem]
      obtain ⟨t0, t1⟩ := two_cells e0 e1
      refine bodyPost_ret (v := .tuple #[.agg #[.int .i64 (n.tdiv (Int.gcd n d : Int)), .int .i64 (d / (Int.gcd n d : Int))], .bool true]) (by simp [results, Try.results93, go_sem, t0, t1]) rfl ⟨rfl, ?_⟩
      exact bst (bst (btr (bal (bdn (bal (Below.refl _ _) _) _) _) hb) (by simp <;> omega) _) (by simp <;> omega) _

theorem add_no {a b c d : Int} (h : ¬ (okB a b = true ∧ okB c d = true)) : addR a b c d = (0, 0, false) := by unfold addR; rw [if_neg h]
theorem add_yes {a b c d : Int} (h : okB a b = true) (h2 : okB c d = true) : addR a b c d = leastR (a * d + c * b) (b * d) := by unfold addR; rw [if_pos ⟨h, h2⟩]
theorem mul_no {a b c d : Int} (h : ¬ (okB a b = true ∧ okB c d = true)) : mulR a b c d = (0, 0, false) := by unfold mulR; rw [if_neg h]
theorem mul_yes {a b c d : Int} (h : okB a b = true) (h2 : okB c d = true) : mulR a b c d = leastR (a * c) (b * d) := by unfold mulR; rw [if_pos ⟨h, h2⟩]

theorem sadd_any (a b c d : Int) (w : World) :
    Calls Try.prog 110 #[.agg #[.int .i64 a, .int .i64 b], .agg #[.int .i64 c, .int .i64 d]] w fun e w' => e = .returned (.tuple #[.agg #[.int .i64 (addR a b c d).1, .int .i64 (addR a b c d).2.1], .bool (addR a b c d).2.2]) ∧ Below w.heap.size w w' := by
  cases h1 : okB a b
  · rw [add_no (by simp [h1])]
    go_enter Try.func110, Try.ntmps110
    go_wp2_with (first | (go_at_call 88; refine (sok_any _ _ _).mono ?_; rintro e w1 ⟨rfl, hb⟩; obtain ⟨hc, hf⟩ := bcell hb; have hz : w.heap.size + 2 < w1.heap.size := by have := hb.size; first | omega | (simp at this; omega)))
    have e0 : w1.cell? ⟨(w.heap.size + 1 + 1), 0, none⟩ = some (.int .i64 0) := by rw [hc _ _ (by simp <;> omega)]; simp [go_sem]
    have e1 : w1.cell? ⟨(w.heap.size + 1 + 1), 1, none⟩ = some (.int .i64 0) := by rw [hc _ _ (by simp <;> omega)]; simp [go_sem]
    obtain ⟨t0, t1⟩ := two_cells e0 e1
    refine bodyPost_ret (v := .tuple #[.agg #[.int .i64 0, .int .i64 0], .bool false]) (by simp [results, Try.results110, go_sem, t0, t1]) rfl ⟨rfl, ?_⟩
    exact bst (bst (btr (bal (bal (bal (Below.refl _ _) _) _) _) hb) (by simp <;> omega) _) (by simp <;> omega) _
  · cases h2 : okB c d
    · rw [add_no (by simp [h2])]
      go_enter Try.func110, Try.ntmps110
      go_wp2_with fail
      refine (sok_any _ _ _).mono ?_
      rintro e w1 ⟨rfl, hb⟩
      obtain ⟨hc, hf⟩ := bcell hb
      have hz : w.heap.size + 2 < w1.heap.size := by have := hb.size; first | omega | (simp at this; omega)
      go_wp2_with (first | (go_at_call 88; refine (sok_any _ _ _).mono ?_; rintro e w2 ⟨rfl, hq⟩; have hb2 := btr hb hq; obtain ⟨hc2, hf2⟩ := bcell hb2; have hz2 : w.heap.size + 2 < w2.heap.size := by have := hb2.size; first | omega | (simp at this; omega)))
      have e0 : w2.cell? ⟨(w.heap.size + 1 + 1), 0, none⟩ = some (.int .i64 0) := by rw [hc2 _ _ (by simp <;> omega)]; simp [go_sem]
      have e1 : w2.cell? ⟨(w.heap.size + 1 + 1), 1, none⟩ = some (.int .i64 0) := by rw [hc2 _ _ (by simp <;> omega)]; simp [go_sem]
      obtain ⟨t0, t1⟩ := two_cells e0 e1
      refine bodyPost_ret (v := .tuple #[.agg #[.int .i64 0, .int .i64 0], .bool false]) (by simp [results, Try.results110, go_sem, t0, t1]) rfl ⟨rfl, ?_⟩
      exact bst (bst (btr (bal (bal (bal (Below.refl _ _) _) _) _) hb2) (by simp <;> omega) _) (by simp <;> omega) _
    · rw [add_yes h1 h2]
      obtain ⟨a1, a2, b1, b2, _⟩ := okB_iff.1 h1
      obtain ⟨c1, c2, d1, d2, _⟩ := okB_iff.1 h2
      obtain ⟨p1, p2⟩ := mul_bd9 (x := a) (y := d) (by omega) (by omega)
      obtain ⟨p3, p4⟩ := mul_bd9 (x := c) (y := b) (by omega) (by omega)
      have p7 := mul_pos9 (x := b) (y := d) (by omega) (by omega)
      obtain ⟨p5, p6⟩ := mul_bd9 (x := b) (y := d) (by omega) (by omega)
      go_enter Try.func110, Try.ntmps110
      go_wp2_with fail
      refine (sok_any _ _ _).mono ?_
      rintro e w1 ⟨rfl, hb⟩
      obtain ⟨hc, hf⟩ := bcell hb
      have hz : w.heap.size + 2 < w1.heap.size := by have := hb.size; first | omega | (simp at this; omega)
      go_wp2_with (first | (go_at_call 88; refine (sok_any _ _ _).mono ?_; rintro e w2 ⟨rfl, hq⟩; have hb2 := btr hb hq; obtain ⟨hc2, hf2⟩ := bcell hb2; have hz2 : w.heap.size + 2 < w2.heap.size := by have := hb2.size; first | omega | (simp at this; omega)) | (go_at_call 93; refine (lleast_any _ _ _ (by omega) (by omega)).mono ?_; rintro e w3 ⟨rfl, hq⟩; have hb3 := btr hb2 hq; obtain ⟨hc3, hf3⟩ := bcell hb3; have hz3 : w.heap.size + 2 < w3.heap.size := by have := hb3.size; first | omega | (simp at this; omega)))
      have e0 : w3.cell? ⟨(w.heap.size + 1 + 1), 0, none⟩ = some (.int .i64 0) := by rw [hc3 _ _ (by simp <;> omega)]; simp [go_sem]
      have e1 : w3.cell? ⟨(w.heap.size + 1 + 1), 1, none⟩ = some (.int .i64 0) := by rw [hc3 _ _ (by simp <;> omega)]; simp [go_sem]
      obtain ⟨t0, t1⟩ := two_cells e0 e1
      refine bodyPost_ret (v := .tuple #[.agg #[.int .i64 (leastR (a * d + c * b) (b * d)).1, .int .i64 (leastR (a * d + c * b) (b * d)).2.1], .bool (leastR (a * d + c * b) (b * d)).2.2]) (by simp [results, Try.results110, go_sem, t0, t1]) rfl ⟨rfl, ?_⟩
      exact bst (bst (btr (bal (bal (bal (Below.refl _ _) _) _) _) hb3) (by simp <;> omega) _) (by simp <;> omega) _

theorem smul_any (a b c d : Int) (w : World) :
    Calls Try.prog 111 #[.agg #[.int .i64 a, .int .i64 b], .agg #[.int .i64 c, .int .i64 d]] w fun e w' => e = .returned (.tuple #[.agg #[.int .i64 (mulR a b c d).1, .int .i64 (mulR a b c d).2.1], .bool (mulR a b c d).2.2]) ∧ Below w.heap.size w w' := by
  cases h1 : okB a b
  · rw [mul_no (by simp [h1])]
    go_enter Try.func111, Try.ntmps111
    go_wp2_with (first | (go_at_call 88; refine (sok_any _ _ _).mono ?_; rintro e w1 ⟨rfl, hb⟩; obtain ⟨hc, hf⟩ := bcell hb; have hz : w.heap.size + 2 < w1.heap.size := by have := hb.size; first | omega | (simp at this; omega)))
    have e0 : w1.cell? ⟨(w.heap.size + 1 + 1), 0, none⟩ = some (.int .i64 0) := by rw [hc _ _ (by simp <;> omega)]; simp [go_sem]
    have e1 : w1.cell? ⟨(w.heap.size + 1 + 1), 1, none⟩ = some (.int .i64 0) := by rw [hc _ _ (by simp <;> omega)]; simp [go_sem]
    obtain ⟨t0, t1⟩ := two_cells e0 e1
    refine bodyPost_ret (v := .tuple #[.agg #[.int .i64 0, .int .i64 0], .bool false]) (by simp [results, Try.results111, go_sem, t0, t1]) rfl ⟨rfl, ?_⟩
    exact bst (bst (btr (bal (bal (bal (Below.refl _ _) _) _) _) hb) (by simp <;> omega) _) (by simp <;> omega) _
  · cases h2 : okB c d
    · rw [mul_no (by simp [h2])]
      go_enter Try.func111, Try.ntmps111
      go_wp2_with fail
      refine (sok_any _ _ _).mono ?_
      rintro e w1 ⟨rfl, hb⟩
      obtain ⟨hc, hf⟩ := bcell hb
      have hz : w.heap.size + 2 < w1.heap.size := by have := hb.size; first | omega | (simp at this; omega)
      go_wp2_with (first | (go_at_call 88; refine (sok_any _ _ _).mono ?_; rintro e w2 ⟨rfl, hq⟩; have hb2 := btr hb hq; obtain ⟨hc2, hf2⟩ := bcell hb2; have hz2 : w.heap.size + 2 < w2.heap.size := by have := hb2.size; first | omega | (simp at this; omega)))
      have e0 : w2.cell? ⟨(w.heap.size + 1 + 1), 0, none⟩ = some (.int .i64 0) := by rw [hc2 _ _ (by simp <;> omega)]; simp [go_sem]
      have e1 : w2.cell? ⟨(w.heap.size + 1 + 1), 1, none⟩ = some (.int .i64 0) := by rw [hc2 _ _ (by simp <;> omega)]; simp [go_sem]
      obtain ⟨t0, t1⟩ := two_cells e0 e1
      refine bodyPost_ret (v := .tuple #[.agg #[.int .i64 0, .int .i64 0], .bool false]) (by simp [results, Try.results111, go_sem, t0, t1]) rfl ⟨rfl, ?_⟩
      exact bst (bst (btr (bal (bal (bal (Below.refl _ _) _) _) _) hb2) (by simp <;> omega) _) (by simp <;> omega) _
    · rw [mul_yes h1 h2]
      obtain ⟨a1, a2, b1, b2, _⟩ := okB_iff.1 h1
      obtain ⟨c1, c2, d1, d2, _⟩ := okB_iff.1 h2
      obtain ⟨p1, p2⟩ := mul_bd9 (x := a) (y := c) (by omega) (by omega)
      have p7 := mul_pos9 (x := b) (y := d) (by omega) (by omega)
      obtain ⟨p5, p6⟩ := mul_bd9 (x := b) (y := d) (by omega) (by omega)
      go_enter Try.func111, Try.ntmps111
      go_wp2_with fail
      refine (sok_any _ _ _).mono ?_
      rintro e w1 ⟨rfl, hb⟩
      obtain ⟨hc, hf⟩ := bcell hb
      have hz : w.heap.size + 2 < w1.heap.size := by have := hb.size; first | omega | (simp at this; omega)
      go_wp2_with (first | (go_at_call 88; refine (sok_any _ _ _).mono ?_; rintro e w2 ⟨rfl, hq⟩; have hb2 := btr hb hq; obtain ⟨hc2, hf2⟩ := bcell hb2; have hz2 : w.heap.size + 2 < w2.heap.size := by have := hb2.size; first | omega | (simp at this; omega)) | (go_at_call 93; refine (lleast_any _ _ _ (by omega) (by omega)).mono ?_; rintro e w3 ⟨rfl, hq⟩; have hb3 := btr hb2 hq; obtain ⟨hc3, hf3⟩ := bcell hb3; have hz3 : w.heap.size + 2 < w3.heap.size := by have := hb3.size; first | omega | (simp at this; omega)))
      have e0 : w3.cell? ⟨(w.heap.size + 1 + 1), 0, none⟩ = some (.int .i64 0) := by rw [hc3 _ _ (by simp <;> omega)]; simp [go_sem]
      have e1 : w3.cell? ⟨(w.heap.size + 1 + 1), 1, none⟩ = some (.int .i64 0) := by rw [hc3 _ _ (by simp <;> omega)]; simp [go_sem]
      obtain ⟨t0, t1⟩ := two_cells e0 e1
      refine bodyPost_ret (v := .tuple #[.agg #[.int .i64 (leastR (a * c) (b * d)).1, .int .i64 (leastR (a * c) (b * d)).2.1], .bool (leastR (a * c) (b * d)).2.2]) (by simp [results, Try.results111, go_sem, t0, t1]) rfl ⟨rfl, ?_⟩
      exact bst (bst (btr (bal (bal (bal (Below.refl _ _) _) _) _) hb3) (by simp <;> omega) _) (by simp <;> omega) _
end Go.Proofs.Ytplocljoanaoeaa

namespace Go.Proofs.Ytplocljoanaoeaa
set_option linter.unusedVariables false
set_option linter.unusedSimpArgs false
open Go.RowKit
theorem and9 {p1 p2 p3 p4 p5 p6 p7 p8 p9 q : Prop} (h : p1 ∧ p2 ∧ p3 ∧ p4 ∧ p5 ∧ p6 ∧ p7 ∧ p8 ∧ p9 ∧ q) : q := h.2.2.2.2.2.2.2.2.2
theorem keep2 {a b c d : Int} {w w' : World} (h : Below (((w.alloc (.cells #[.int .i64 a, .int .i64 b] 52)).alloc (.cells #[.int .i64 c, .int .i64 d] 52)).alloc (.cells #[.int .i64 0, .int .i64 0] 52)).heap.size (((w.alloc (.cells #[.int .i64 a, .int .i64 b] 52)).alloc (.cells #[.int .i64 c, .int .i64 d] 52)).alloc (.cells #[.int .i64 0, .int .i64 0] 52)) w') :
    w'.cell? ⟨w.heap.size, 0, none⟩ = some (.int .i64 a) ∧ w'.cell? ⟨w.heap.size, 1, none⟩ = some (.int .i64 b) ∧ w'.cell? ⟨w.heap.size + 1, 0, none⟩ = some (.int .i64 c) ∧ w'.cell? ⟨w.heap.size + 1, 1, none⟩ = some (.int .i64 d)
      ∧ w'.cell? ⟨w.heap.size + 1 + 1, 0, none⟩ = some (.int .i64 0) ∧ w'.cell? ⟨w.heap.size + 1 + 1, 1, none⟩ = some (.int .i64 0) ∧ w'.frozen? ⟨w.heap.size + 1 + 1, 0, none⟩ = false ∧ w'.frozen? ⟨w.heap.size + 1 + 1, 1, none⟩ = false
      ∧ w.heap.size + 2 < w'.heap.size ∧ Below (((w.alloc (.cells #[.int .i64 a, .int .i64 b] 52)).alloc (.cells #[.int .i64 c, .int .i64 d] 52)).alloc (.cells #[.int .i64 0, .int .i64 0] 52)).heap.size (((w.alloc (.cells #[.int .i64 a, .int .i64 b] 52)).alloc (.cells #[.int .i64 c, .int .i64 d] 52)).alloc (.cells #[.int .i64 0, .int .i64 0] 52)) w' := by
  obtain ⟨hc, hf⟩ := bcell h
  refine ⟨?_, ?_, ?_, ?_, ?_, ?_, ?_, ?_, ?_, h⟩
  · rw [hc _ _ (by simp <;> omega)]; simp [go_sem]
  · rw [hc _ _ (by simp <;> omega)]; simp [go_sem]
  · rw [hc _ _ (by simp <;> omega)]; simp [go_sem]
  · rw [hc _ _ (by simp <;> omega)]; simp [go_sem]
  · rw [hc _ _ (by simp <;> omega)]; simp [go_sem]
  · rw [hc _ _ (by simp <;> omega)]; simp [go_sem]
  · rw [hf _ _ (by simp <;> omega)]; simp [go_sem]
  · rw [hf _ _ (by simp <;> omega)]; simp [go_sem]
  · have := h.size; first | omega | (simp at this; omega)

def rd (w : World) (b o : Nat) : Value := (w.cell? ⟨b, o, none⟩).getD undef
theorem rd_some {w : World} {b o : Nat} (h : (w.cell? ⟨b, o, none⟩).isSome = true) : w.cell? ⟨b, o, none⟩ = some (rd w b o) := by
  unfold rd; cases hc : w.cell? ⟨b, o, none⟩ with
  | none => rw [hc] at h; cases h
  | some u => rfl
def S2 (a b c d : Int) (w w' : World) : Prop := w'.cell? ⟨w.heap.size, 0, none⟩ = some (.int .i64 a) ∧ w'.cell? ⟨w.heap.size, 1, none⟩ = some (.int .i64 b) ∧ w'.cell? ⟨w.heap.size + 1, 0, none⟩ = some (.int .i64 c) ∧ w'.cell? ⟨w.heap.size + 1, 1, none⟩ = some (.int .i64 d)
      ∧ w'.cell? ⟨w.heap.size + 1 + 1, 0, none⟩ = some (rd w' (w.heap.size + 1 + 1) 0) ∧ w'.cell? ⟨w.heap.size + 1 + 1, 1, none⟩ = some (rd w' (w.heap.size + 1 + 1) 1) ∧ w'.frozen? ⟨w.heap.size + 1 + 1, 0, none⟩ = false ∧ w'.frozen? ⟨w.heap.size + 1 + 1, 1, none⟩ = false
      ∧ w.heap.size + 2 < w'.heap.size ∧ Below w.heap.size w w'
theorem S2.start {a b c d : Int} {w w' : World} (h : Below (((w.alloc (.cells #[.int .i64 a, .int .i64 b] 52)).alloc (.cells #[.int .i64 c, .int .i64 d] 52)).alloc (.cells #[.int .i64 0, .int .i64 0] 52)).heap.size (((w.alloc (.cells #[.int .i64 a, .int .i64 b] 52)).alloc (.cells #[.int .i64 c, .int .i64 d] 52)).alloc (.cells #[.int .i64 0, .int .i64 0] 52)) w') : S2 a b c d w w' := by
  obtain ⟨k0, k1, k2, k3, k4, k5, k6, k7, k8, _⟩ := keep2 h
  exact ⟨k0, k1, k2, k3, rd_some (by rw [k4]; rfl), rd_some (by rw [k5]; rfl), k6, k7, k8, btr (bal (bal (bal (Below.refl _ _) _) _) _) h⟩
theorem S2.call {a b c d : Int} {w w' w1 : World} (hq : Below w'.heap.size w' w1) (h : S2 a b c d w w') : S2 a b c d w w1 := by
  obtain ⟨k0, k1, k2, k3, k4, k5, k6, k7, k8, k9⟩ := h
  obtain ⟨hc, hf⟩ := bcell hq
  refine ⟨?_, ?_, ?_, ?_, rd_some ?_, rd_some ?_, ?_, ?_, ?_, btr k9 hq⟩
  · rw [hc _ _ (by omega)]; exact k0
  · rw [hc _ _ (by omega)]; exact k1
  · rw [hc _ _ (by omega)]; exact k2
  · rw [hc _ _ (by omega)]; exact k3
  · rw [hc _ _ (by omega), k4]; rfl
  · rw [hc _ _ (by omega), k5]; rfl
  · rw [hf _ _ (by omega)]; exact k6
  · rw [hf _ _ (by omega)]; exact k7
  · have := hq.size; omega
theorem S2.store {a b c d : Int} {w w' : World} (h : S2 a b c d w w') (x y : Value) : S2 a b c d w ((w'.setCell ⟨w.heap.size + 1 + 1, 0, none⟩ x).setCell ⟨w.heap.size + 1 + 1, 1, none⟩ y) := by
  obtain ⟨k0, k1, k2, k3, k4, k5, k6, k7, k8, k9⟩ := h
  obtain ⟨t0, t1⟩ := two_cells k4 k5
  refine ⟨?_, ?_, ?_, ?_, rd_some ?_, rd_some ?_, ?_, ?_, ?_, bst (bst k9 (by simp <;> omega) _) (by simp <;> omega) _⟩
  · rw [World.cell?_setCell_other _ _ _ _ (by simp), World.cell?_setCell_other _ _ _ _ (by simp)]; exact k0
  · rw [World.cell?_setCell_other _ _ _ _ (by simp), World.cell?_setCell_other _ _ _ _ (by simp)]; exact k1
  · rw [World.cell?_setCell_other _ _ _ _ (by simp), World.cell?_setCell_other _ _ _ _ (by simp)]; exact k2
  · rw [World.cell?_setCell_other _ _ _ _ (by simp), World.cell?_setCell_other _ _ _ _ (by simp)]; exact k3
  · rw [t0]; rfl
  · rw [t1]; rfl
  · simpa [go_sem] using k6
  · simpa [go_sem] using k7
  · simpa [World.setCell] using k8

theorem radd_any (a b c d : Int) (w : World) :
    Calls Try.prog 79 #[.agg #[.int .i64 a, .int .i64 b], .agg #[.int .i64 c, .int .i64 d]] w fun e w' => e = .returned (.tuple #[.agg #[.int .i64 (addR a b c d).1, .int .i64 (addR a b c d).2.1], .bool (addR a b c d).2.2]) ∧ Below w.heap.size w w' := by
  cases h1 : okB a b
  · rw [add_no (by simp [h1])]
    go_enter Try.func79, Try.ntmps79
    go_wp2_with (first | (go_at_call 59; refine (valid_any _ _ _).mono ?_; rintro e w1 ⟨rfl, hb⟩; obtain ⟨hc, hf⟩ := bcell hb; have hz : w.heap.size + 2 < w1.heap.size := by have := hb.size; first | omega | (simp at this; omega)))
    obtain ⟨_, _, _, _, e0, e1, _⟩ := keep2 hb
    obtain ⟨t0, t1⟩ := two_cells e0 e1
    refine bodyPost_ret (v := .tuple #[.agg #[.int .i64 0, .int .i64 0], .bool false]) (by simp [results, Try.results79, go_sem, t0, t1]) rfl ⟨rfl, ?_⟩
    exact bst (bst (btr (bal (bal (bal (Below.refl _ _) _) _) _) hb) (by simp <;> omega) _) (by simp <;> omega) _
  · cases h2 : okB c d
    · rw [add_no (by simp [h2])]
      go_enter Try.func79, Try.ntmps79
      go_wp2_with fail
      refine (valid_any _ _ _).mono ?_
      rintro e w1 ⟨rfl, hb⟩
      obtain ⟨hc, hf⟩ := bcell hb
      have hz : w.heap.size + 2 < w1.heap.size := by have := hb.size; first | omega | (simp at this; omega)
      go_wp2_with (first | (go_at_call 59; refine (valid_any _ _ _).mono ?_; rintro e w2 ⟨rfl, hq⟩; have hb2 := btr hb hq; obtain ⟨hc2, hf2⟩ := bcell hb2; have hz2 : w.heap.size + 2 < w2.heap.size := by have := hb2.size; first | omega | (simp at this; omega)))
      obtain ⟨_, _, _, _, e0, e1, _⟩ := keep2 hb2
      obtain ⟨t0, t1⟩ := two_cells e0 e1
      refine bodyPost_ret (v := .tuple #[.agg #[.int .i64 0, .int .i64 0], .bool false]) (by simp [results, Try.results79, go_sem, t0, t1]) rfl ⟨rfl, ?_⟩
      exact bst (bst (btr (bal (bal (bal (Below.refl _ _) _) _) _) hb2) (by simp <;> omega) _) (by simp <;> omega) _
    · rw [add_yes h1 h2]
      obtain ⟨a1, a2, b1, b2, _⟩ := okB_iff.1 h1
      obtain ⟨c1, c2, d1, d2, _⟩ := okB_iff.1 h2
      obtain ⟨p1, p2⟩ := mul_bd9 (x := a) (y := d) (by omega) (by omega)
      obtain ⟨p3, p4⟩ := mul_bd9 (x := c) (y := b) (by omega) (by omega)
      have p7 := mul_pos9 (x := b) (y := d) (by omega) (by omega)
      obtain ⟨p5, p6⟩ := mul_bd9 (x := b) (y := d) (by omega) (by omega)
      go_enter Try.func79, Try.ntmps79
      go_wp2_with fail
      refine (valid_any _ _ _).mono ?_
      rintro e w1 ⟨rfl, hb⟩
      obtain ⟨hc, hf⟩ := bcell hb
      have hz : w.heap.size + 2 < w1.heap.size := by have := hb.size; first | omega | (simp at this; omega)
      go_wp2_with (first | (go_at_call 59; refine (valid_any _ _ _).mono ?_; rintro e w2 ⟨rfl, hq⟩; have hb2 := btr hb hq))
      clear hc hf hz hb hq
      go_region_held3 (fun w' => w'.cell? ⟨w.heap.size, 0, none⟩ = some (.int .i64 a) ∧ w'.cell? ⟨w.heap.size, 1, none⟩ = some (.int .i64 b) ∧ w'.cell? ⟨w.heap.size + 1, 0, none⟩ = some (.int .i64 c) ∧ w'.cell? ⟨w.heap.size + 1, 1, none⟩ = some (.int .i64 d) ∧ w'.cell? ⟨w.heap.size + 1 + 1, 0, none⟩ = some (rd w' (w.heap.size + 1 + 1) 0) ∧ w'.cell? ⟨w.heap.size + 1 + 1, 1, none⟩ = some (rd w' (w.heap.size + 1 + 1) 1) ∧ w'.frozen? ⟨w.heap.size + 1 + 1, 0, none⟩ = false ∧ w'.frozen? ⟨w.heap.size + 1 + 1, 1, none⟩ = false ∧ w.heap.size + 2 < w'.heap.size ∧ Below w.heap.size w w') (first | exact S2.start hb2.drew | exact S2.call hq (by assumption) | exact S2.store (by assumption) _ _) (first | (go_at_call 80; refine (wide_any _ _ _).mono ?_; rintro e w' ⟨rfl, hq⟩) | (go_at_call 106; refine (plus_any _ _ _ _ _ (by omega) (by omega) (by omega) (by omega)).mono ?_; rintro e w' ⟨rfl, hq⟩) | (go_at_call 105; refine (narrow_any _ _ _ (by omega) (by omega)).mono ?_; rintro e w' ⟨rfl, hq⟩; have HH : S2 a b c d w w' := S2.call hq (by assumption)))
      go_wp2
      obtain ⟨_, _, _, _, k4, k5, _, _, _, k9⟩ := HH
      obtain ⟨t0, t1⟩ := two_cells k4 k5
      refine bodyPost_ret (v := .tuple #[.agg #[.int .i64 (leastR (a * d + c * b) (b * d)).1, .int .i64 (leastR (a * d + c * b) (b * d)).2.1], .bool (leastR (a * d + c * b) (b * d)).2.2]) (by simp [results, Try.results79, go_sem, t0, t1]) rfl ⟨rfl, ?_⟩
      exact bst (bst k9 (by simp <;> omega) _) (by simp <;> omega) _

theorem rmul_any (a b c d : Int) (w : World) :
    Calls Try.prog 78 #[.agg #[.int .i64 a, .int .i64 b], .agg #[.int .i64 c, .int .i64 d]] w fun e w' => e = .returned (.tuple #[.agg #[.int .i64 (mulR a b c d).1, .int .i64 (mulR a b c d).2.1], .bool (mulR a b c d).2.2]) ∧ Below w.heap.size w w' := by
  cases h1 : okB a b
  · rw [mul_no (by simp [h1])]
    go_enter Try.func78, Try.ntmps78
    go_wp2_with (first | (go_at_call 59; refine (valid_any _ _ _).mono ?_; rintro e w1 ⟨rfl, hb⟩; obtain ⟨hc, hf⟩ := bcell hb; have hz : w.heap.size + 2 < w1.heap.size := by have := hb.size; first | omega | (simp at this; omega)))
    obtain ⟨_, _, _, _, e0, e1, _⟩ := keep2 hb
    obtain ⟨t0, t1⟩ := two_cells e0 e1
    refine bodyPost_ret (v := .tuple #[.agg #[.int .i64 0, .int .i64 0], .bool false]) (by simp [results, Try.results78, go_sem, t0, t1]) rfl ⟨rfl, ?_⟩
    exact bst (bst (btr (bal (bal (bal (Below.refl _ _) _) _) _) hb) (by simp <;> omega) _) (by simp <;> omega) _
  · cases h2 : okB c d
    · rw [mul_no (by simp [h2])]
      go_enter Try.func78, Try.ntmps78
      go_wp2_with fail
      refine (valid_any _ _ _).mono ?_
      rintro e w1 ⟨rfl, hb⟩
      obtain ⟨hc, hf⟩ := bcell hb
      have hz : w.heap.size + 2 < w1.heap.size := by have := hb.size; first | omega | (simp at this; omega)
      go_wp2_with (first | (go_at_call 59; refine (valid_any _ _ _).mono ?_; rintro e w2 ⟨rfl, hq⟩; have hb2 := btr hb hq; obtain ⟨hc2, hf2⟩ := bcell hb2; have hz2 : w.heap.size + 2 < w2.heap.size := by have := hb2.size; first | omega | (simp at this; omega)))
      obtain ⟨_, _, _, _, e0, e1, _⟩ := keep2 hb2
      obtain ⟨t0, t1⟩ := two_cells e0 e1
      refine bodyPost_ret (v := .tuple #[.agg #[.int .i64 0, .int .i64 0], .bool false]) (by simp [results, Try.results78, go_sem, t0, t1]) rfl ⟨rfl, ?_⟩
      exact bst (bst (btr (bal (bal (bal (Below.refl _ _) _) _) _) hb2) (by simp <;> omega) _) (by simp <;> omega) _
    · rw [mul_yes h1 h2]
      obtain ⟨a1, a2, b1, b2, _⟩ := okB_iff.1 h1
      obtain ⟨c1, c2, d1, d2, _⟩ := okB_iff.1 h2
      obtain ⟨p1, p2⟩ := mul_bd9 (x := a) (y := c) (by omega) (by omega)
      have p7 := mul_pos9 (x := b) (y := d) (by omega) (by omega)
      obtain ⟨p5, p6⟩ := mul_bd9 (x := b) (y := d) (by omega) (by omega)
      go_enter Try.func78, Try.ntmps78
      go_wp2_with fail
      refine (valid_any _ _ _).mono ?_
      rintro e w1 ⟨rfl, hb⟩
      obtain ⟨hc, hf⟩ := bcell hb
      have hz : w.heap.size + 2 < w1.heap.size := by have := hb.size; first | omega | (simp at this; omega)
      go_wp2_with (first | (go_at_call 59; refine (valid_any _ _ _).mono ?_; rintro e w2 ⟨rfl, hq⟩; have hb2 := btr hb hq))
      clear hc hf hz hb hq
      go_region_held3 (fun w' => w'.cell? ⟨w.heap.size, 0, none⟩ = some (.int .i64 a) ∧ w'.cell? ⟨w.heap.size, 1, none⟩ = some (.int .i64 b) ∧ w'.cell? ⟨w.heap.size + 1, 0, none⟩ = some (.int .i64 c) ∧ w'.cell? ⟨w.heap.size + 1, 1, none⟩ = some (.int .i64 d) ∧ w'.cell? ⟨w.heap.size + 1 + 1, 0, none⟩ = some (rd w' (w.heap.size + 1 + 1) 0) ∧ w'.cell? ⟨w.heap.size + 1 + 1, 1, none⟩ = some (rd w' (w.heap.size + 1 + 1) 1) ∧ w'.frozen? ⟨w.heap.size + 1 + 1, 0, none⟩ = false ∧ w'.frozen? ⟨w.heap.size + 1 + 1, 1, none⟩ = false ∧ w.heap.size + 2 < w'.heap.size ∧ Below w.heap.size w w') (first | exact S2.start hb2.drew | exact S2.call hq (by assumption) | exact S2.store (by assumption) _ _) (first | (go_at_call 80; refine (wide_any _ _ _).mono ?_; rintro e w' ⟨rfl, hq⟩) | (go_at_call 104; refine (times_any _ _ _ _ _ (by omega) (by omega) (by omega) (by omega)).mono ?_; rintro e w' ⟨rfl, hq⟩) | (go_at_call 105; refine (narrow_any _ _ _ (by omega) (by omega)).mono ?_; rintro e w' ⟨rfl, hq⟩; have HH : S2 a b c d w w' := S2.call hq (by assumption)))
      go_wp2
      obtain ⟨_, _, _, _, k4, k5, _, _, _, k9⟩ := HH
      obtain ⟨t0, t1⟩ := two_cells k4 k5
      refine bodyPost_ret (v := .tuple #[.agg #[.int .i64 (leastR (a * c) (b * d)).1, .int .i64 (leastR (a * c) (b * d)).2.1], .bool (leastR (a * c) (b * d)).2.2]) (by simp [results, Try.results78, go_sem, t0, t1]) rfl ⟨rfl, ?_⟩
      exact bst (bst k9 (by simp <;> omega) _) (by simp <;> omega) _
end Go.Proofs.Ytplocljoanaoeaa

namespace Go.Proofs.Ytplocljoanaoeaa
set_option linter.unusedVariables false
set_option linter.unusedSimpArgs false
open Go.RowKit
theorem of_zero {n d : Int} (h : d = 0) : ofR n d = (0, 0, false) := by unfold ofR; rw [if_pos (Or.inl h)]
theorem of_n {n d : Int} (h : ¬ inB n = true) : ofR n d = (0, 0, false) := by unfold ofR; rw [if_pos (Or.inr (fun x => h (inB_iff.2 ⟨x.1, x.2.1⟩)))]
theorem of_d {n d : Int} (h : ¬ inB d = true) : ofR n d = (0, 0, false) := by unfold ofR; rw [if_pos (Or.inr (fun x => h (inB_iff.2 ⟨x.2.2.1, x.2.2.2⟩)))]
theorem of_neg {n d : Int} (h1 : inB n = true) (h2 : inB d = true) (h : d < 0) : ofR n d = leastR (-n) (-d) := by
  have a := inB_iff.1 h1; have b := inB_iff.1 h2
  unfold ofR; rw [if_neg (by omega), if_pos h]
theorem of_pos {n d : Int} (h1 : inB n = true) (h2 : inB d = true) (h : 0 < d) : ofR n d = leastR n d := by
  have a := inB_iff.1 h1; have b := inB_iff.1 h2
  unfold ofR; rw [if_neg (by omega), if_neg (by omega)]
theorem one_block {n : Nat} {w w1 : World} (h : Below (w.alloc (.cells #[.int .i64 0, .int .i64 0] 52)).heap.size (w.alloc (.cells #[.int .i64 0, .int .i64 0] 52)) w1) : 
    (∀ x y, ((w1.setCell ⟨w.heap.size, 0, none⟩ x).setCell ⟨w.heap.size, 1, none⟩ y).cell? ⟨w.heap.size, 0, none⟩ = some x) ∧ (∀ x y, ((w1.setCell ⟨w.heap.size, 0, none⟩ x).setCell ⟨w.heap.size, 1, none⟩ y).cell? ⟨w.heap.size, 1, none⟩ = some y) := by
  obtain ⟨hc, _⟩ := bcell h
  exact two_cells (u := .int .i64 0) (v := .int .i64 0) (by rw [hc _ _ (by simp <;> omega)]; simp [go_sem]) (by rw [hc _ _ (by simp <;> omega)]; simp [go_sem])

theorem rof_any (n d : Int) (w : World) :
    Calls Try.prog 116 #[.int .i64 n, .int .i64 d] w fun e w' => e = .returned (.tuple #[.agg #[.int .i64 (ofR n d).1, .int .i64 (ofR n d).2.1], .bool (ofR n d).2.2]) ∧ Below w.heap.size w w' := by
  by_cases h0 : d = 0
  · rw [of_zero h0]
    have hd : (d == 0) = true := by simpa using h0
    clear h0
    go_enter Try.func116, Try.ntmps116
    go_wp2_with (first | (go_at_call 89; refine (range_any _ _).mono ?_; rintro e w' ⟨rfl, rfl⟩))
    refine bodyPost_ret (v := .tuple #[.agg #[.int .i64 0, .int .i64 0], .bool false]) (by simp [results, Try.results116, go_sem]) rfl ⟨rfl, ?_⟩
    exact bal (Below.refl _ _) _
  · have hd : (d == 0) = false := by simpa using h0
    by_cases h1 : inB n = true
    · by_cases h2 : inB d = true
      · obtain ⟨a1, a2⟩ := inB_iff.1 h1
        obtain ⟨b1, b2⟩ := inB_iff.1 h2
        by_cases h3 : d < 0
        · rw [of_neg h1 h2 h3]
          go_enter Try.func116, Try.ntmps116
          go_wp2_with (first | (go_at_call 89; refine (range_any _ _).mono ?_; rintro e w' ⟨rfl, rfl⟩) | (go_at_call 80; refine (wide_any _ _ _).mono ?_; rintro e w1 ⟨rfl, hq⟩; have hb : Below (w.alloc (.cells #[.int .i64 0, .int .i64 0] 52)).heap.size (w.alloc (.cells #[.int .i64 0, .int .i64 0] 52)) w1 := hq; obtain ⟨hchb, hfhb⟩ := bcell hb; have hzhb : w.heap.size < w1.heap.size := by have := hb.size; first | omega | (simp at this; omega)) | (go_at_call 105; refine (narrow_any _ _ _ (by omega) (by omega)).mono ?_; rintro e w2 ⟨rfl, hq2⟩; have hb2 : Below (w.alloc (.cells #[.int .i64 0, .int .i64 0] 52)).heap.size (w.alloc (.cells #[.int .i64 0, .int .i64 0] 52)) w2 := btr hb hq2; obtain ⟨hchb2, hfhb2⟩ := bcell hb2; have hzhb2 : w.heap.size < w2.heap.size := by have := hb2.size; first | omega | (simp at this; omega)))
          obtain ⟨t0, t1⟩ := one_block (n := 0) hb2
          refine bodyPost_ret (v := .tuple #[.agg #[.int .i64 (leastR (-n) (-d)).1, .int .i64 (leastR (-n) (-d)).2.1], .bool (leastR (-n) (-d)).2.2]) (by simp [results, Try.results116, go_sem, t0, t1]) rfl ⟨rfl, ?_⟩
          exact bst (bst (btr (bal (Below.refl _ _) _) hb2) (by simp <;> omega) _) (by simp <;> omega) _
        · rw [of_pos h1 h2 (by omega)]
          go_enter Try.func116, Try.ntmps116
          go_wp2_with (first | (go_at_call 89; refine (range_any _ _).mono ?_; rintro e w' ⟨rfl, rfl⟩) | (go_at_call 80; refine (wide_any _ _ _).mono ?_; rintro e w1 ⟨rfl, hq⟩; have hb : Below (w.alloc (.cells #[.int .i64 0, .int .i64 0] 52)).heap.size (w.alloc (.cells #[.int .i64 0, .int .i64 0] 52)) w1 := hq; obtain ⟨hchb, hfhb⟩ := bcell hb; have hzhb : w.heap.size < w1.heap.size := by have := hb.size; first | omega | (simp at this; omega)) | (go_at_call 105; refine (narrow_any _ _ _ (by omega) (by omega)).mono ?_; rintro e w2 ⟨rfl, hq2⟩; have hb2 : Below (w.alloc (.cells #[.int .i64 0, .int .i64 0] 52)).heap.size (w.alloc (.cells #[.int .i64 0, .int .i64 0] 52)) w2 := btr hb hq2; obtain ⟨hchb2, hfhb2⟩ := bcell hb2; have hzhb2 : w.heap.size < w2.heap.size := by have := hb2.size; first | omega | (simp at this; omega)))
          obtain ⟨t0, t1⟩ := one_block (n := 0) hb2
          refine bodyPost_ret (v := .tuple #[.agg #[.int .i64 (leastR n d).1, .int .i64 (leastR n d).2.1], .bool (leastR n d).2.2]) (by simp [results, Try.results116, go_sem, t0, t1]) rfl ⟨rfl, ?_⟩
          exact bst (bst (btr (bal (Below.refl _ _) _) hb2) (by simp <;> omega) _) (by simp <;> omega) _
      · rw [of_d h2]
        have h2' : inB d = false := by simpa using h2
        go_enter Try.func116, Try.ntmps116
        go_wp2_with (first | (go_at_call 89; refine (range_any _ _).mono ?_; rintro e w' ⟨rfl, rfl⟩))
        refine bodyPost_ret (v := .tuple #[.agg #[.int .i64 0, .int .i64 0], .bool false]) (by simp [results, Try.results116, go_sem]) rfl ⟨rfl, ?_⟩
        exact bal (Below.refl _ _) _
    · rw [of_n h1]
      have h1' : inB n = false := by simpa using h1
      go_enter Try.func116, Try.ntmps116
      go_wp2_with (first | (go_at_call 89; refine (range_any _ _).mono ?_; rintro e w' ⟨rfl, rfl⟩))
      refine bodyPost_ret (v := .tuple #[.agg #[.int .i64 0, .int .i64 0], .bool false]) (by simp [results, Try.results116, go_sem]) rfl ⟨rfl, ?_⟩
      exact bal (Below.refl _ _) _
theorem sof_any (n d : Int) (w : World) :
    Calls Try.prog 63 #[.int .i64 n, .int .i64 d] w fun e w' => e = .returned (.tuple #[.agg #[.int .i64 (ofR n d).1, .int .i64 (ofR n d).2.1], .bool (ofR n d).2.2]) ∧ Below w.heap.size w w' := by
  by_cases h0 : d = 0
  · rw [of_zero h0]
    have hd : (d == 0) = true := by simpa using h0
    clear h0
    go_enter Try.func63, Try.ntmps63
    go_wp2_with (first | (go_at_call 92; refine (labs_any _ _).mono ?_; rintro e w' ⟨rfl, rfl⟩) | (go_at_call 93; refine (lleast_any _ _ _ (by omega) (by omega)).mono ?_; rintro e w2 ⟨rfl, hb2⟩; obtain ⟨hchb2, hfhb2⟩ := bcell hb2; have hzhb2 : w.heap.size < w2.heap.size := by have := hb2.size; first | omega | (simp at this; omega)))
    refine bodyPost_ret (v := .tuple #[.agg #[.int .i64 0, .int .i64 0], .bool false]) (by simp [results, Try.results63, go_sem]) rfl ⟨rfl, ?_⟩
    exact bal (Below.refl _ _) _
  · have hd : (d == 0) = false := by simpa using h0
    by_cases h1 : inB n = true
    · by_cases h2 : inB d = true
      · obtain ⟨a1, a2⟩ := inB_iff.1 h1
        obtain ⟨b1, b2⟩ := inB_iff.1 h2
        have l1 := labs_le.2 ⟨a1, a2⟩
        have l2 := labs_le.2 ⟨b1, b2⟩
        by_cases h3 : d < 0
        · rw [of_neg h1 h2 h3]
          go_enter Try.func63, Try.ntmps63
          go_wp2_with (first | (go_at_call 92; refine (labs_any _ _).mono ?_; rintro e w' ⟨rfl, rfl⟩) | (go_at_call 93; refine (lleast_any _ _ _ (by omega) (by omega)).mono ?_; rintro e w2 ⟨rfl, hb2⟩; obtain ⟨hchb2, hfhb2⟩ := bcell hb2; have hzhb2 : w.heap.size < w2.heap.size := by have := hb2.size; first | omega | (simp at this; omega)))
          obtain ⟨t0, t1⟩ := one_block (n := 0) hb2
          refine bodyPost_ret (v := .tuple #[.agg #[.int .i64 (leastR (-n) (-d)).1, .int .i64 (leastR (-n) (-d)).2.1], .bool (leastR (-n) (-d)).2.2]) (by simp [results, Try.results63, go_sem, t0, t1]) rfl ⟨rfl, ?_⟩
          exact bst (bst (btr (bal (Below.refl _ _) _) hb2) (by simp <;> omega) _) (by simp <;> omega) _
        · rw [of_pos h1 h2 (by omega)]
          go_enter Try.func63, Try.ntmps63
          go_wp2_with (first | (go_at_call 92; refine (labs_any _ _).mono ?_; rintro e w' ⟨rfl, rfl⟩) | (go_at_call 93; refine (lleast_any _ _ _ (by omega) (by omega)).mono ?_; rintro e w2 ⟨rfl, hb2⟩; obtain ⟨hchb2, hfhb2⟩ := bcell hb2; have hzhb2 : w.heap.size < w2.heap.size := by have := hb2.size; first | omega | (simp at this; omega)))
          obtain ⟨t0, t1⟩ := one_block (n := 0) hb2
          refine bodyPost_ret (v := .tuple #[.agg #[.int .i64 (leastR n d).1, .int .i64 (leastR n d).2.1], .bool (leastR n d).2.2]) (by simp [results, Try.results63, go_sem, t0, t1]) rfl ⟨rfl, ?_⟩
          exact bst (bst (btr (bal (Below.refl _ _) _) hb2) (by simp <;> omega) _) (by simp <;> omega) _
      · rw [of_d h2]
        have l1 := labs_le.2 (inB_iff.1 h1)
        have l2 : 1000000000 < labs d := by have k1 := labs_le (n := d); have k2 := inB_no h2; omega
        go_enter Try.func63, Try.ntmps63
        go_wp2_with (first | (go_at_call 92; refine (labs_any _ _).mono ?_; rintro e w' ⟨rfl, rfl⟩) | (go_at_call 93; refine (lleast_any _ _ _ (by omega) (by omega)).mono ?_; rintro e w2 ⟨rfl, hb2⟩; obtain ⟨hchb2, hfhb2⟩ := bcell hb2; have hzhb2 : w.heap.size < w2.heap.size := by have := hb2.size; first | omega | (simp at this; omega)))
        refine bodyPost_ret (v := .tuple #[.agg #[.int .i64 0, .int .i64 0], .bool false]) (by simp [results, Try.results63, go_sem]) rfl ⟨rfl, ?_⟩
        exact bal (Below.refl _ _) _
    · rw [of_n h1]
      have l1 : 1000000000 < labs n := by have k1 := labs_le (n := n); have k2 := inB_no h1; omega
      go_enter Try.func63, Try.ntmps63
      go_wp2_with (first | (go_at_call 92; refine (labs_any _ _).mono ?_; rintro e w' ⟨rfl, rfl⟩) | (go_at_call 93; refine (lleast_any _ _ _ (by omega) (by omega)).mono ?_; rintro e w2 ⟨rfl, hb2⟩; obtain ⟨hchb2, hfhb2⟩ := bcell hb2; have hzhb2 : w.heap.size < w2.heap.size := by have := hb2.size; first | omega | (simp at this; omega)))
      refine bodyPost_ret (v := .tuple #[.agg #[.int .i64 0, .int .i64 0], .bool false]) (by simp [results, Try.results63, go_sem]) rfl ⟨rfl, ?_⟩
      exact bal (Below.refl _ _) _
end Go.Proofs.Ytplocljoanaoeaa

namespace Go.Proofs.Ytplocljoanaoeaa
set_option linter.unusedVariables false
set_option linter.unusedSimpArgs false
open Go.RowKit
theorem three_cells {w1 : World} {b : Nat} {u v : Value} (hb : b < w1.heap.size) (h0 : w1.cell? ⟨b, 0, none⟩ = some u) (h1 : w1.cell? ⟨b, 1, none⟩ = some v) :
    (∀ x y o, (((w1.setCell ⟨b, 0, none⟩ x).setCell ⟨b, 1, none⟩ y).alloc o).cell? ⟨b, 0, none⟩ = some x) ∧ (∀ x y o, (((w1.setCell ⟨b, 0, none⟩ x).setCell ⟨b, 1, none⟩ y).alloc o).cell? ⟨b, 1, none⟩ = some y) := by
  obtain ⟨t0, t1⟩ := two_cells h0 h1
  refine ⟨fun x y o => ?_, fun x y o => ?_⟩
  · rw [World.cell?_alloc_lt _ _ _ (by simpa [World.setCell] using hb)]; exact t0 x y
  · rw [World.cell?_alloc_lt _ _ _ (by simpa [World.setCell] using hb)]; exact t1 x y
theorem least_val {n d : Int} (hd : 1 ≤ d) (h : (leastR n d).2.2 = true) : okB (leastR n d).1 (leastR n d).2.1 = true := by
  cases h1 : okB (n.tdiv (Int.gcd n d : Int)) (d / (Int.gcd n d : Int))
  · rw [least_bad hd h1] at h; cases h
  · rw [least_ok hd h1]; exact h1
theorem add_val {a b c d : Int} (h : (addR a b c d).2.2 = true) : okB (addR a b c d).1 (addR a b c d).2.1 = true := by
  by_cases k : okB a b = true ∧ okB c d = true
  · have x := okB_iff.1 k.1; have y := okB_iff.1 k.2
    rw [add_yes k.1 k.2] at h ⊢
    exact least_val (mul_pos9 (by omega) (by omega)) h
  · rw [add_no k] at h; cases h
theorem mul_val {a b c d : Int} (h : (mulR a b c d).2.2 = true) : okB (mulR a b c d).1 (mulR a b c d).2.1 = true := by
  by_cases k : okB a b = true ∧ okB c d = true
  · have x := okB_iff.1 k.1; have y := okB_iff.1 k.2
    rw [mul_yes k.1 k.2] at h ⊢
    exact least_val (mul_pos9 (by omega) (by omega)) h
  · rw [mul_no k] at h; cases h
theorem ok12 : okB 1 2 = true := by decide +kernel
theorem mid_no {a b c d : Int} (h : (addR a b c d).2.2 = false) : midR a b c d = (0, 0, false) := by unfold midR; rw [if_neg (by simp [h])]
theorem mid_yes {a b c d : Int} (h : (addR a b c d).2.2 = true) : midR a b c d = mulR (addR a b c d).1 (addR a b c d).2.1 1 2 := by unfold midR; rw [if_pos h]

theorem smid_any (a b c d : Int) (w : World) :
    Calls Try.prog 109 #[.agg #[.int .i64 a, .int .i64 b], .agg #[.int .i64 c, .int .i64 d]] w fun e w' => e = .returned (.tuple #[.agg #[.int .i64 (midR a b c d).1, .int .i64 (midR a b c d).2.1], .bool (midR a b c d).2.2]) ∧ Below w.heap.size w w' := by
  cases h1 : (addR a b c d).2.2
  · rw [mid_no h1]
    go_enter Try.func109, Try.ntmps109
    go_wp2_with (first | (go_at_call 110; refine (sadd_any _ _ _ _ _).mono ?_; rintro e w1 ⟨rfl, hb⟩; obtain ⟨_, _, _, _, e0, e1, f0, f1, hz, _⟩ := keep2 hb))
    obtain ⟨t0, t1⟩ := three_cells (by omega) e0 e1
    refine bodyPost_ret (v := .tuple #[.agg #[.int .i64 0, .int .i64 0], .bool false]) (by simp [results, Try.results109, go_sem, t0, t1]) rfl ⟨rfl, ?_⟩
    exact bal (bst (bst (btr (bal (bal (bal (Below.refl _ _) _) _) _) hb) (by simp <;> omega) _) (by simp <;> omega) _) _
  · rw [mid_yes h1]
    go_enter Try.func109, Try.ntmps109
    go_wp2_with (first | (go_at_call 110; refine (sadd_any _ _ _ _ _).mono ?_; rintro e w1 ⟨rfl, hb⟩; obtain ⟨_, _, _, _, e0, e1, f0, f1, hz, _⟩ := keep2 hb) | (go_at_call 111; refine (smul_any _ _ _ _ _).mono ?_; rintro e w2 ⟨rfl, hq⟩; have hb2 := btr (bal hb _) hq; obtain ⟨_, _, _, _, g0, g1, k0, k1, hy, _⟩ := keep2 hb2))
    obtain ⟨t0, t1⟩ := two_cells g0 g1
    refine bodyPost_ret (v := .tuple #[.agg #[.int .i64 (mulR (addR a b c d).1 (addR a b c d).2.1 1 2).1, .int .i64 (mulR (addR a b c d).1 (addR a b c d).2.1 1 2).2.1], .bool (mulR (addR a b c d).1 (addR a b c d).2.1 1 2).2.2]) (by simp [results, Try.results109, go_sem, t0, t1]) rfl ⟨rfl, ?_⟩
    exact bst (bst (btr (bal (bal (bal (Below.refl _ _) _) _) _) hb2) (by simp <;> omega) _) (by simp <;> omega) _

theorem rmid_any (a b c d : Int) (w : World) :
    Calls Try.prog 115 #[.agg #[.int .i64 a, .int .i64 b], .agg #[.int .i64 c, .int .i64 d]] w fun e w' => e = .returned (.tuple #[.agg #[.int .i64 (midR a b c d).1, .int .i64 (midR a b c d).2.1], .bool (midR a b c d).2.2]) ∧ Below w.heap.size w w' := by
  cases h1 : (addR a b c d).2.2
  · rw [mid_no h1]
    go_enter Try.func115, Try.ntmps115
    go_wp2_with (first | (go_at_call 79; refine (radd_any _ _ _ _ _).mono ?_; rintro e w1 ⟨rfl, hb⟩; obtain ⟨_, _, _, _, e0, e1, f0, f1, hz, _⟩ := keep2 hb))
    obtain ⟨t0, t1⟩ := three_cells (by omega) e0 e1
    refine bodyPost_ret (v := .tuple #[.agg #[.int .i64 0, .int .i64 0], .bool false]) (by simp [results, Try.results115, go_sem, t0, t1]) rfl ⟨rfl, ?_⟩
    exact bal (bst (bst (btr (bal (bal (bal (Below.refl _ _) _) _) _) hb) (by simp <;> omega) _) (by simp <;> omega) _) _
  · have v1 := add_val h1
    obtain ⟨a1, a2, b1, b2, _⟩ := okB_iff.1 v1
    rw [mid_yes h1, mul_yes v1 ok12]
    go_enter Try.func115, Try.ntmps115
    go_wp2_with (first | (go_at_call 79; refine (radd_any _ _ _ _ _).mono ?_; rintro e w1 ⟨rfl, hb⟩; obtain ⟨_, _, _, _, e0, e1, f0, f1, hz, _⟩ := keep2 hb) | (go_at_call 80; refine (wide_any _ _ _).mono ?_; rintro e w2 ⟨rfl, hq⟩; have hb2 := btr (bal hb _) hq) | (go_at_call 104; refine (times_any _ _ _ _ _ (by omega) (by omega) (by omega) (by omega)).mono ?_; rintro e w3 ⟨rfl, hq3⟩; have hb3 := btr hb2 hq3) | (go_at_call 105; refine (narrow_any _ _ _ (by omega) (by omega)).mono ?_; rintro e w4 ⟨rfl, hq4⟩; have hb4 := btr hb3 hq4; obtain ⟨_, _, _, _, g0, g1, k0, k1, hy, _⟩ := keep2 hb4))
    obtain ⟨t0, t1⟩ := two_cells g0 g1
    refine bodyPost_ret (v := .tuple #[.agg #[.int .i64 (leastR ((addR a b c d).1 * 1) ((addR a b c d).2.1 * 2)).1, .int .i64 (leastR ((addR a b c d).1 * 1) ((addR a b c d).2.1 * 2)).2.1], .bool (leastR ((addR a b c d).1 * 1) ((addR a b c d).2.1 * 2)).2.2]) (by simp [results, Try.results115, go_sem, t0, t1]) rfl ⟨rfl, ?_⟩
    exact bst (bst (btr (bal (bal (bal (Below.refl _ _) _) _) _) hb4) (by simp <;> omega) _) (by simp <;> omega) _
end Go.Proofs.Ytplocljoanaoeaa

namespace Go.Proofs.Ytplocljoanaoeaa
set_option linter.unusedVariables false
set_option linter.unusedSimpArgs false
open Go.RowKit
theorem less_no {a b c d : Int} (h : ¬ (okB a b = true ∧ okB c d = true)) : lessB a b c d = false := by
  unfold lessB; simp; intro h1 h2; exact absurd ⟨h1, h2⟩ h
theorem less_yes {a b c d : Int} (h1 : okB a b = true) (h2 : okB c d = true) : lessB a b c d = decide (a * d < c * b) := by
  unfold lessB; simp [h1, h2]

def SL (a b c d : Int) (w w' : World) : Prop := w'.cell? ⟨w.heap.size, 0, none⟩ = some (.int .i64 a) ∧ w'.cell? ⟨w.heap.size, 1, none⟩ = some (.int .i64 b) ∧ w'.cell? ⟨w.heap.size + 1, 0, none⟩ = some (.int .i64 c) ∧ w'.cell? ⟨w.heap.size + 1, 1, none⟩ = some (.int .i64 d)
      ∧ w.heap.size + 1 < w'.heap.size ∧ Below w.heap.size w w'
theorem SL.start {a b c d : Int} {w w' : World} (h : Below ((w.alloc (.cells #[.int .i64 a, .int .i64 b] 52)).alloc (.cells #[.int .i64 c, .int .i64 d] 52)).heap.size ((w.alloc (.cells #[.int .i64 a, .int .i64 b] 52)).alloc (.cells #[.int .i64 c, .int .i64 d] 52)) w') : SL a b c d w w' := by
  obtain ⟨hc, hf⟩ := bcell h
  refine ⟨?_, ?_, ?_, ?_, ?_, btr (bal (bal (Below.refl _ _) _) _) h⟩
  · rw [hc _ _ (by simp <;> omega)]; simp [go_sem]
  · rw [hc _ _ (by simp <;> omega)]; simp [go_sem]
  · rw [hc _ _ (by simp <;> omega)]; simp [go_sem]
  · rw [hc _ _ (by simp <;> omega)]; simp [go_sem]
  · have := h.size; first | omega | (simp at this; omega)
theorem SL.call {a b c d : Int} {w w' w1 : World} (hq : Below w'.heap.size w' w1) (h : SL a b c d w w') : SL a b c d w w1 := by
  obtain ⟨k0, k1, k2, k3, k8, k9⟩ := h
  obtain ⟨hc, hf⟩ := bcell hq
  refine ⟨?_, ?_, ?_, ?_, ?_, btr k9 hq⟩
  · rw [hc _ _ (by omega)]; exact k0
  · rw [hc _ _ (by omega)]; exact k1
  · rw [hc _ _ (by omega)]; exact k2
  · rw [hc _ _ (by omega)]; exact k3
  · have := hq.size; omega

theorem sless_any (a b c d : Int) (w : World) :
    Calls Try.prog 87 #[.agg #[.int .i64 a, .int .i64 b], .agg #[.int .i64 c, .int .i64 d]] w fun e w' => e = .returned (.bool (lessB a b c d)) ∧ Below w.heap.size w w' := by
  cases h1 : okB a b
  · rw [less_no (by simp [h1])]
    go_enter Try.func87, Try.ntmps87
    go_wp2_with (first | (go_at_call 88; refine (sok_any _ _ _).mono ?_; rintro e w1 ⟨rfl, hb⟩))
    go_ret
    exact ⟨rfl, btr (bal (bal (Below.refl _ _) _) _) hb⟩
  · cases h2 : okB c d
    · rw [less_no (by simp [h2])]
      go_enter Try.func87, Try.ntmps87
      go_wp2_with fail
      refine (sok_any _ _ _).mono ?_
      rintro e w1 ⟨rfl, hb⟩
      obtain ⟨k0, k1, k2, k3, k8, _⟩ := SL.start hb
      go_wp2_with (first | (go_at_call 88; refine (sok_any _ _ _).mono ?_; rintro e w2 ⟨rfl, hq⟩))
      go_ret
      exact ⟨rfl, btr (btr (bal (bal (Below.refl _ _) _) _) hb) hq⟩
    · rw [less_yes h1 h2]
      obtain ⟨a1, a2, b1, b2, _⟩ := okB_iff.1 h1
      obtain ⟨c1, c2, d1, d2, _⟩ := okB_iff.1 h2
      obtain ⟨p1, p2⟩ := mul_bd9 (x := a) (y := d) (by omega) (by omega)
      obtain ⟨p3, p4⟩ := mul_bd9 (x := c) (y := b) (by omega) (by omega)
      go_enter Try.func87, Try.ntmps87
      go_wp2_with fail
      refine (sok_any _ _ _).mono ?_
      rintro e w1 ⟨rfl, hb⟩
      obtain ⟨k0, k1, k2, k3, k8, _⟩ := SL.start hb
      go_wp2_with (first | (go_at_call 88; refine (sok_any _ _ _).mono ?_; rintro e w2 ⟨rfl, hq⟩; obtain ⟨i0, i1, i2, i3, i8, _⟩ := SL.start (btr hb hq)))
      go_ret
      exact ⟨rfl, btr (btr (bal (bal (Below.refl _ _) _) _) hb) hq⟩

theorem valid_at (n d : Int) (w : World) {v : Bool} (h : okB n d = v) :
    Calls Try.prog 59 #[.agg #[.int .i64 n, .int .i64 d]] w fun e w' => e = .returned (.bool v) ∧ Below w.heap.size w w' := by
  subst h; exact valid_any n d w
theorem rless_any (a b c d : Int) (w : World) :
    Calls Try.prog 48 #[.agg #[.int .i64 a, .int .i64 b], .agg #[.int .i64 c, .int .i64 d]] w fun e w' => e = .returned (.bool (lessB a b c d)) ∧ Below w.heap.size w w' := by
  cases h1 : okB a b
  · rw [less_no (by simp [h1])]
    go_enter Try.func48, Try.ntmps48
    go_wp2
    have gc := @gro_cell ((w.alloc (.cells #[.int .i64 a, .int .i64 b] 52)).alloc (.cells #[.int .i64 c, .int .i64 d] 52))
    refine wp_region_grow_lit (by kernel_rfl) (by kernel_rfl) ?_
    repeat (go_big_quiet_step ((first | (go_at_call 59; exact grow_call _ (valid_at _ _ _ h1)) | (go_at_call 80; exact grow_call _ (wide_any _ _ _)) | (go_at_call 81; exact grow_call _ (wless_any _ _ _ _ _ (by omega) (by omega) (by omega) (by omega))))))
    refine wpQuiet_nil ?_
    rintro _ ⟨X, rfl⟩
    go_wp2
    go_ret
    exact ⟨rfl, btr (bal (bal (Below.refl _ _) _) _) X.h⟩
  · cases h2 : okB c d
    · rw [less_no (by simp [h2])]
      go_enter Try.func48, Try.ntmps48
      go_wp2
      have gc := @gro_cell ((w.alloc (.cells #[.int .i64 a, .int .i64 b] 52)).alloc (.cells #[.int .i64 c, .int .i64 d] 52))
      refine wp_region_grow_lit (by kernel_rfl) (by kernel_rfl) ?_
      repeat (go_big_quiet_step ((first | (go_at_call 59; exact grow_call _ (valid_at _ _ _ h1)) | (go_at_call 59; exact grow_call _ (valid_at _ _ _ h2)) | (go_at_call 80; exact grow_call _ (wide_any _ _ _)) | (go_at_call 81; exact grow_call _ (wless_any _ _ _ _ _ (by omega) (by omega) (by omega) (by omega))))))
      refine wpQuiet_nil ?_
      rintro _ ⟨X, rfl⟩
      go_wp2
      go_ret
      exact ⟨rfl, btr (bal (bal (Below.refl _ _) _) _) X.h⟩
    · rw [less_yes h1 h2]
      obtain ⟨a1, a2, b1, b2, _⟩ := okB_iff.1 h1
      obtain ⟨c1, c2, d1, d2, _⟩ := okB_iff.1 h2
      go_enter Try.func48, Try.ntmps48
      go_wp2
      have gc := @gro_cell ((w.alloc (.cells #[.int .i64 a, .int .i64 b] 52)).alloc (.cells #[.int .i64 c, .int .i64 d] 52))
      refine wp_region_grow_lit (by kernel_rfl) (by kernel_rfl) ?_
      repeat (go_big_quiet_step ((first | (go_at_call 59; exact grow_call _ (valid_at _ _ _ h1)) | (go_at_call 59; exact grow_call _ (valid_at _ _ _ h2)) | (go_at_call 80; exact grow_call _ (wide_any _ _ _)) | (go_at_call 81; exact grow_call _ (wless_any _ _ _ _ _ (by omega) (by omega) (by omega) (by omega))))))
      refine wpQuiet_nil ?_
      rintro _ ⟨X, rfl⟩
      go_wp2
      go_ret
      exact ⟨rfl, btr (bal (bal (Below.refl _ _) _) _) X.h⟩

end Go.Proofs.Ytplocljoanaoeaa

namespace Go.Proofs.Ytplocljoanaoeaa
set_option linter.unusedVariables false
set_option linter.unusedSimpArgs false
open Go.RowKit

end Go.Proofs.Ytplocljoanaoeaa
