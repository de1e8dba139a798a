/- Plain mathematics of fractions: a fraction in lowest terms is one; sums, products and orders of fractions by their ratios. -/
import Derived.Test.YtbdmofmoegmigaaMath
namespace Go.Proofs.Ytbdmofmoegmigaa
set_option linter.unusedVariables false
set_option linter.unusedSimpArgs false
theorem least_scale {n d k : Int} (hk : 0 < k) (hd : 0 < d) : leastR (n * k) (d * k) = leastR n d := by
  have g : Int.gcd (n * k) (d * k) = Int.gcd n d * k.natAbs := Int.gcd_mul_right n k d
  have gk : ((Int.gcd (n * k) (d * k) : Nat) : Int) = (Int.gcd n d : Int) * k := by rw [g, Int.natCast_mul]; congr 1; omega
  unfold leastR
  rw [gk, Int.mul_ediv_mul_of_pos_left _ _ hk, Int.mul_ediv_mul_of_pos_left _ _ hk]
theorem least_ratio {n d n' d' : Int} (hd : 0 < d) (hd' : 0 < d') (h : n * d' = n' * d) : leastR n d = leastR n' d' := by
  rw [← least_scale (n := n) (k := d') hd' hd, ← least_scale (n := n') (k := d) hd hd', h, Int.mul_comm d d']
theorem least_self {n d : Int} (h : okB n d = true) : leastR n d = (n, d, true) := by
  obtain ⟨a, b, c, e, g⟩ := okB_iff.1 h
  unfold leastR; rw [g]; simp; omega
theorem least_spec {n d N D : Int} (hd : 0 < d) (h : leastR n d = (N, D, true)) : N * d = n * D ∧ 0 < D := by
  unfold leastR at h
  split at h
  · simp only [Prod.mk.injEq, and_true] at h
    obtain ⟨rfl, rfl⟩ := h
    have g1 := gcd1 (n := n) (show 1 ≤ d by omega)
    have e1 := Int.ediv_mul_cancel (Int.gcd_dvd_left n d)
    have e2 := Int.ediv_mul_cancel (Int.gcd_dvd_right n d)
    generalize (Int.gcd n d : Int) = g at *
    generalize n / g = N at *
    generalize d / g = D at *
    constructor
    · rw [← e1, ← e2]; grind
    · by_cases h : 0 < D
      · exact h
      · replace h : D ≤ 0 := by omega
        have := Int.mul_nonpos_of_nonpos_of_nonneg h (show 0 ≤ g by omega); omega
  · simp at h
theorem ok_unique {a b c d : Int} (h1 : okB a b = true) (h2 : okB c d = true) (h : a * d = c * b) : a = c ∧ b = d := by
  have b1 := okB_iff.1 h1; have d1 := okB_iff.1 h2
  have e := least_ratio (n := a) (d := b) (n' := c) (d' := d) (by omega) (by omega) h
  rw [least_self h1, least_self h2] at e
  simp at e; exact e

theorem ok_b {n d : Int} (h : okB n d = true) : -1000000000 ≤ n ∧ n ≤ 1000000000 ∧ 1 ≤ d ∧ d ≤ 1000000000 := by
  have := okB_iff.1 h; omega
theorem ok_pos {n d : Int} (h : okB n d = true) : 0 < d := by have := ok_b h; omega
theorem okneg {n d : Int} (h : okB n d = true) : okB (-n) d = true := by
  have a := okB_iff.1 h
  exact okB_iff.2 ⟨by omega, by omega, a.2.2.1, a.2.2.2.1, by rw [Int.neg_gcd]; exact a.2.2.2.2⟩
theorem least_cases (n d : Int) : leastR n d = (0, 0, false) ∨ ∃ N D, leastR n d = (N, D, true) := by
  unfold leastR; split
  · exact .inr ⟨_, _, rfl⟩
  · exact .inl rfl
theorem addR_ok {a b c d : Int} (h1 : okB a b = true) (h2 : okB c d = true) : addR a b c d = leastR (a * d + c * b) (b * d) := by unfold addR; rw [if_pos ⟨h1, h2⟩]
theorem mulR_ok {a b c d : Int} (h1 : okB a b = true) (h2 : okB c d = true) : mulR a b c d = leastR (a * c) (b * d) := by unfold mulR; rw [if_pos ⟨h1, h2⟩]
theorem addR_cases (a b c d : Int) : addR a b c d = (0, 0, false) ∨ ∃ N D, addR a b c d = (N, D, true) := by
  unfold addR; split
  · exact least_cases _ _
  · exact .inl rfl
theorem mulR_cases (a b c d : Int) : mulR a b c d = (0, 0, false) ∨ ∃ N D, mulR a b c d = (N, D, true) := by
  unfold mulR; split
  · exact least_cases _ _
  · exact .inl rfl
theorem addR_spec {a b c d N D : Int} (h : addR a b c d = (N, D, true)) : okB a b = true ∧ okB c d = true ∧ okB N D = true ∧ N * (b * d) = (a * d + c * b) * D := by
  by_cases k : okB a b = true ∧ okB c d = true
  · rw [addR_ok k.1 k.2] at h
    have p := Int.mul_pos (ok_pos k.1) (ok_pos k.2)
    obtain ⟨e, _⟩ := least_spec p h
    refine ⟨k.1, k.2, ?_, e⟩
    unfold leastR at h
    split at h
    · rename_i hh
      simp only [Prod.mk.injEq, and_true] at h
      obtain ⟨rfl, rfl⟩ := h
      have g1 := gcd_pos (n := a * d + c * b) p
      have hp : 1 ≤ b * d / (Int.gcd (a * d + c * b) (b * d) : Int) := by
        have h1 : (Int.gcd (a * d + c * b) (b * d) : Int) ≤ b * d := Int.gcd_le_right _ p
        have := Int.ediv_pos_of_pos_of_dvd p (show 0 ≤ (Int.gcd (a * d + c * b) (b * d) : Int) by omega) (Int.gcd_dvd_right _ _)
        omega
      exact okB_iff.2 ⟨hh.1, hh.2.1, hp, hh.2.2, Int.gcd_ediv_gcd_ediv_gcd g1⟩
    · simp at h
  · unfold addR at h; rw [if_neg k] at h; simp at h
theorem mulR_spec {a b c d N D : Int} (h : mulR a b c d = (N, D, true)) : okB a b = true ∧ okB c d = true ∧ okB N D = true ∧ N * (b * d) = (a * c) * D := by
  by_cases k : okB a b = true ∧ okB c d = true
  · rw [mulR_ok k.1 k.2] at h
    have p := Int.mul_pos (ok_pos k.1) (ok_pos k.2)
    obtain ⟨e, _⟩ := least_spec p h
    refine ⟨k.1, k.2, ?_, e⟩
    unfold leastR at h
    split at h
    · rename_i hh
      simp only [Prod.mk.injEq, and_true] at h
      obtain ⟨rfl, rfl⟩ := h
      have g1 := gcd_pos (n := a * c) p
      have hp : 1 ≤ b * d / (Int.gcd (a * c) (b * d) : Int) := by
        have h1 : (Int.gcd (a * c) (b * d) : Int) ≤ b * d := Int.gcd_le_right _ p
        have := Int.ediv_pos_of_pos_of_dvd p (show 0 ≤ (Int.gcd (a * c) (b * d) : Int) by omega) (Int.gcd_dvd_right _ _)
        omega
      exact okB_iff.2 ⟨hh.1, hh.2.1, hp, hh.2.2, Int.gcd_ediv_gcd_ediv_gcd g1⟩
    · simp at h
  · unfold mulR at h; rw [if_neg k] at h; simp at h
theorem addR_comm (a b c d : Int) : addR c d a b = addR a b c d := by
  unfold addR
  by_cases k : okB a b = true ∧ okB c d = true
  · rw [if_pos k, if_pos k.symm, Int.add_comm, Int.mul_comm d b]
  · rw [if_neg k, if_neg (fun h => k h.symm)]
theorem mulR_comm (a b c d : Int) : mulR c d a b = mulR a b c d := by
  unfold mulR
  by_cases k : okB a b = true ∧ okB c d = true
  · rw [if_pos k, if_pos k.symm, Int.mul_comm c a, Int.mul_comm d b]
  · rw [if_neg k, if_neg (fun h => k h.symm)]
theorem ok01 : okB 0 1 = true := by decide +kernel
theorem ok11 : okB 1 1 = true := by decide +kernel
theorem okm1 : okB (-1) 1 = true := by decide +kernel
theorem least_01 {d : Int} (hd : 0 < d) : leastR 0 d = (0, 1, true) := by
  rw [least_ratio (n' := 0) (d' := 1) hd (by omega) (by simp), least_self ok01]
theorem add_zero' {a b : Int} (h : okB a b = true) : addR a b 0 1 = (a, b, true) := by
  rw [addR_ok h ok01, ← least_self h]; congr 1 <;> simp
theorem add_neg {a b : Int} (h : okB a b = true) : addR a b (-a) b = (0, 1, true) := by
  rw [addR_ok h (okneg h), ← least_01 (d := b * b) (Int.mul_pos (ok_pos h) (ok_pos h))]; congr 1; grind
theorem mul_m1 {a b : Int} (h : okB a b = true) : mulR a b (-1) 1 = (-a, b, true) := by
  rw [mulR_ok h okm1, ← least_self (okneg h)]; congr 1 <;> grind
theorem mul_one' {a b : Int} (h : okB a b = true) : mulR a b 1 1 = (a, b, true) := by
  rw [mulR_ok h ok11, ← least_self h]; congr 1 <;> grind
theorem mul_zero' {a b : Int} (h : okB a b = true) : mulR a b 0 1 = (0, 1, true) := by
  have := ok_pos h
  rw [mulR_ok h ok01, ← least_01 (d := b * 1) (by omega)]; congr 1; grind
theorem add_back {a b c d N D : Int} (h : addR a b c d = (N, D, true)) : addR N D (-c) d = (a, b, true) := by
  obtain ⟨h1, h2, h3, e⟩ := addR_spec h
  have p2 := ok_pos h2
  rw [addR_ok h3 (okneg h2), ← least_self h1]
  refine least_ratio (Int.mul_pos (ok_pos h3) p2) (ok_pos h1) ?_
  grind
theorem add_assoc' {a b c d e f P Q R S : Int} (h1 : addR a b c d = (P, Q, true)) (h2 : addR c d e f = (R, S, true)) : addR P Q e f = addR a b R S := by
  obtain ⟨k1, k2, k3, e1⟩ := addR_spec h1
  obtain ⟨_, k4, k5, e2⟩ := addR_spec h2
  have pb := ok_pos k1; have pd := ok_pos k2; have pf := ok_pos k4; have pQ := ok_pos k3; have pS := ok_pos k5
  rw [addR_ok k3 k4, addR_ok k1 k5]
  refine least_ratio (Int.mul_pos pQ pf) (Int.mul_pos pb pS) ?_
  have pp := Int.mul_pos pd (Int.mul_pos pb pf)
  refine Int.eq_of_mul_eq_mul_right (show d * (b * f) ≠ 0 by omega) ?_
  grind
theorem distrib {a b c d e f X Y S T U V : Int} {R1 R2 R3 R4 : Int} (hx : mulR a b c d = (X, Y, true)) (hs : addR c d e f = (S, T, true)) (hu : mulR a b e f = (U, V, true)) : mulR a b S T = addR X Y U V := by
  obtain ⟨k1, k2, k3, e1⟩ := mulR_spec hx
  obtain ⟨_, k4, k5, e2⟩ := addR_spec hs
  obtain ⟨_, _, k6, e3⟩ := mulR_spec hu
  have pb := ok_pos k1; have pd := ok_pos k2; have pf := ok_pos k4; have pY := ok_pos k3; have pT := ok_pos k5; have pV := ok_pos k6
  rw [mulR_ok k1 k5, addR_ok k3 k6]
  refine least_ratio (Int.mul_pos pb pT) (Int.mul_pos pY pV) ?_
  have pp := Int.mul_pos pd (Int.mul_pos pb pf)
  refine Int.eq_of_mul_eq_mul_right (show d * (b * f) ≠ 0 by omega) ?_
  grind
end Go.Proofs.Ytbdmofmoegmigaa
