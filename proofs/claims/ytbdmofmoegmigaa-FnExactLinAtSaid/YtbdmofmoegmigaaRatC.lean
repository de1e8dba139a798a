/- Contracts of narrow, of the model's l1Least and of both RatOk. -/
import Derived.Test.YtbdmofmoegmigaaRatB
namespace Go.Proofs.Ytbdmofmoegmigaa
set_option linter.unusedVariables false
set_option linter.unusedSimpArgs false
open Go.RowKit
theorem least_yes {n d : Int} (h1 : inB (n.tdiv (Int.gcd (n.natAbs : Int) d : Int)) = true) (h2 : inB (d / (Int.gcd (n.natAbs : Int) d : Int)) = true) :
    leastR n d = (n.tdiv (Int.gcd (n.natAbs : Int) d : Int), d / (Int.gcd (n.natAbs : Int) d : Int), true) := by
  rw [gcd_natAbs] at *; rw [tdiv_gcd] at *
  have a := inB_iff.1 h1; have b := inB_iff.1 h2
  unfold leastR; rw [if_pos ⟨a.1, a.2, b.2⟩]
theorem least_no1 {n d : Int} (h1 : ¬ inB (n.tdiv (Int.gcd (n.natAbs : Int) d : Int)) = true) : leastR n d = (0, 0, false) := by
  rw [gcd_natAbs] at *; rw [tdiv_gcd] at *
  unfold leastR; rw [if_neg (fun h => h1 (inB_iff.2 ⟨h.1, h.2.1⟩))]
theorem least_no2 {n d : Int} (hd : 1 ≤ d) (h2 : ¬ inB (d / (Int.gcd (n.natAbs : Int) d : Int)) = true) : leastR n d = (0, 0, false) := by
  have g1 := gcd1 (n := (n.natAbs : Int)) hd
  have := (ediv_bd g1 (show 0 ≤ d by omega)).1
  rw [gcd_natAbs] at *
  unfold leastR; rw [if_neg (fun h => h2 (inB_iff.2 ⟨by omega, h.2.2⟩))]

theorem narrow_any (n d : Int) (w : World) (hn : -2000000000000000000 ≤ n ∧ n ≤ 2000000000000000000) (hd : 1 ≤ d ∧ d ≤ 1000000000000000000) :
    Calls Try.prog 152 #[.agg #[.int .i64 n, .int .i64 d]] w fun e w' => e = .returned (.tuple #[.agg #[.int .i64 (leastR n d).1, .int .i64 (leastR n d).2.1], .bool (leastR n d).2.2]) ∧ Below w.heap.size w w' := by
  obtain ⟨n1, n2⟩ := hn
  obtain ⟨d1, d2⟩ := hd
  have g1 := gcd1 (n := (n.natAbs : Int)) d1
  obtain ⟨q1, q2⟩ := tdiv_bd 2000000000000000000 g1 ⟨n1, n2⟩
  obtain ⟨q3, q4⟩ := ediv_bd g1 (show 0 ≤ d by omega)
  by_cases h1 : inB (n.tdiv (Int.gcd (n.natAbs : Int) d : Int)) = true
  · by_cases h2 : inB (d / (Int.gcd (n.natAbs : Int) d : Int)) = true
    · go_enter Try.func152, Try.ntmps152
      go_wp2
      go_quiet ((first | (go_at_call 146; exact Calls.quiet_of_same (abs_any _ _ (by omega) (by omega))) | (go_at_call 145; exact Calls.quiet_of (gcd_any _ _ _ (by omega) (by omega) (by omega) (by omega)))))
      go_wp2
      go_quiet (fail)
      go_wp2_with (first | (go_at_call 144; refine (range_any _ _).mono ?_; rintro e w' ⟨rfl, rfl⟩))
      rw [least_yes h1 h2]
      refine bodyPost_ret (v := .tuple #[.agg #[.int .i64 (n.tdiv (Int.gcd (n.natAbs : Int) d : Int)), .int .i64 (d / (Int.gcd (n.natAbs : Int) d : Int))], .bool true]) (by simp [results, Try.results152, go_sem]) rfl ⟨rfl, ?_⟩
      exact bst (bst (bdn (bal (bal (Below.refl _ _) _) _) _) (by simp) _) (by simp) _
    · have h2' : inB (d / (Int.gcd (n.natAbs : Int) d : Int)) = false := by simpa using h2
      go_enter Try.func152, Try.ntmps152
      go_wp2
      go_quiet ((first | (go_at_call 146; exact Calls.quiet_of_same (abs_any _ _ (by omega) (by omega))) | (go_at_call 145; exact Calls.quiet_of (gcd_any _ _ _ (by omega) (by omega) (by omega) (by omega)))))
      go_wp2
      go_quiet (fail)
      go_wp2_with (first | (go_at_call 144; refine (range_any _ _).mono ?_; rintro e w' ⟨rfl, rfl⟩))
      rw [least_no2 d1 h2]
      refine bodyPost_ret (v := .tuple #[.agg #[.int .i64 0, .int .i64 0], .bool false]) (by simp [results, Try.results152, go_sem]) rfl ⟨rfl, ?_⟩
      exact bst (bst (bdn (bal (bal (Below.refl _ _) _) _) _) (by simp) _) (by simp) _
  · have h1' : inB (n.tdiv (Int.gcd (n.natAbs : Int) d : Int)) = false := by simpa using h1
    go_enter Try.func152, Try.ntmps152
    go_wp2
    go_quiet ((first | (go_at_call 146; exact Calls.quiet_of_same (abs_any _ _ (by omega) (by omega))) | (go_at_call 145; exact Calls.quiet_of (gcd_any _ _ _ (by omega) (by omega) (by omega) (by omega)))))
    go_wp2
    go_quiet (fail)
    go_wp2_with (first | (go_at_call 144; refine (range_any _ _).mono ?_; rintro e w' ⟨rfl, rfl⟩))
    rw [least_no1 h1]
    refine bodyPost_ret (v := .tuple #[.agg #[.int .i64 0, .int .i64 0], .bool false]) (by simp [results, Try.results152, go_sem]) rfl ⟨rfl, ?_⟩
    exact bst (bst (bdn (bal (bal (Below.refl _ _) _) _) _) (by simp) _) (by simp) _

theorem ratok_any (n d : Int) (w : World) :
    Calls Try.prog 61 #[.agg #[.int .i64 n, .int .i64 d]] w fun e w' => e = .returned (.bool (okB n d)) ∧ Below w.heap.size w w' := by
  go_enter Try.func61, Try.ntmps61
  go_wp2_with (first | (go_at_call 118; refine (valid_any _ _ _).mono ?_; rintro e w' ⟨rfl, hb⟩))
  go_ret
  exact ⟨rfl, btr (bal (Below.refl _ _) _) hb⟩

theorem labs_le {n : Int} : labs n ≤ 1000000000 ↔ (-1000000000 ≤ n ∧ n ≤ 1000000000) := by unfold labs; split <;> omega
theorem labs_abs {n : Int} (h : labs n ≤ 1000000000) : labs n = n.natAbs := by have := labs_le.1 h; unfold labs; rw [if_neg (by omega)]
theorem labs_bd (n : Int) : 0 ≤ labs n ∧ labs n ≤ 1000000001 := by unfold labs; split <;> omega

theorem sok_eq {n d : Int} (c1 : labs n ≤ 1000000000) (c2 : 1 ≤ d) (c3 : d ≤ 1000000000) : (((Int.gcd (labs n) d : Nat) : Int) == 1) = okB n d := by
  have := labs_le.1 c1
  rw [labs_abs c1]; exact okB_eq (inB_iff.2 this) (inB_iff.2 ⟨by omega, c3⟩) (by omega)

theorem sok_any (n d : Int) (w : World) :
    Calls Try.prog 132 #[.agg #[.int .i64 n, .int .i64 d]] w fun e w' => e = .returned (.bool (okB n d)) ∧ Below w.heap.size w w' := by
  obtain ⟨l1, l2⟩ := labs_bd n
  by_cases c1 : labs n ≤ 1000000000
  · have k1 : decide (labs n ≤ 1000000000) = true := by simpa using c1
    by_cases c2 : 1 ≤ d
    · have k2 : decide (1 ≤ d) = true := by simpa using c2
      by_cases c3 : d ≤ 1000000000
      · have k3 : decide (d ≤ 1000000000) = true := by simpa using c3
        go_enter Try.func132, Try.ntmps132
        go_wp2
        go_quiet ((first | (go_at_call 147; exact Calls.quiet_of_same (labs_any _ _)) | (go_at_call 154; exact Calls.quiet_of (lgcd_any _ _ _ (by omega) (by omega) (by omega) (by omega)))))
        go_wp2
        go_ret
        exact ⟨ret_bool (sok_eq c1 c2 c3), bdn (bal (Below.refl _ _) _) _⟩
      · have k3 : decide (d ≤ 1000000000) = false := by simpa using c3
        go_enter Try.func132, Try.ntmps132
        go_wp2
        go_quiet ((first | (go_at_call 147; exact Calls.quiet_of_same (labs_any _ _)) | (go_at_call 154; exact Calls.quiet_of (lgcd_any _ _ _ (by omega) (by omega) (by omega) (by omega)))))
        go_wp2
        go_ret
        exact ⟨ret_bool (by unfold okB; simp; omega), bdn (bal (Below.refl _ _) _) _⟩
    · have k2 : decide (1 ≤ d) = false := by simpa using c2
      go_enter Try.func132, Try.ntmps132
      go_wp2
      go_quiet ((first | (go_at_call 147; exact Calls.quiet_of_same (labs_any _ _)) | (go_at_call 154; exact Calls.quiet_of (lgcd_any _ _ _ (by omega) (by omega) (by omega) (by omega)))))
      go_wp2
      go_ret
      exact ⟨ret_bool (by unfold okB; simp; omega), bdn (bal (Below.refl _ _) _) _⟩
  · have k1 : decide (labs n ≤ 1000000000) = false := by simpa using c1
    go_enter Try.func132, Try.ntmps132
    go_wp2
    go_quiet ((first | (go_at_call 147; exact Calls.quiet_of_same (labs_any _ _)) | (go_at_call 154; exact Calls.quiet_of (lgcd_any _ _ _ (by omega) (by omega) (by omega) (by omega)))))
    go_wp2
    go_ret
    exact ⟨ret_bool (by have := labs_le (n := n); unfold okB; simp; omega), bdn (bal (Below.refl _ _) _) _⟩
end Go.Proofs.Ytbdmofmoegmigaa
