/- Plain mathematics of fractions: the order. -/
import Derived.Test.YtbdmofmoegmigaaMathB
namespace Go.Proofs.Ytbdmofmoegmigaa
set_option linter.unusedVariables false
set_option linter.unusedSimpArgs false
theorem sgn {x y k m : Int} (hk : 0 < k) (hm : 0 < m) (h : x * k = y * m) : x < 0 ↔ y < 0 := by
  constructor
  · intro hx
    have h1 := Int.mul_neg_of_neg_of_pos hx hk
    by_cases hy : y < 0
    · exact hy
    · have := Int.mul_nonneg (show 0 ≤ y by omega) (show 0 ≤ m by omega); omega
  · intro hy
    have h1 := Int.mul_neg_of_neg_of_pos hy hm
    by_cases hx : x < 0
    · exact hx
    · have := Int.mul_nonneg (show 0 ≤ x by omega) (show 0 ≤ k by omega); omega
theorem less_eq {a b c d : Int} (h1 : okB a b = true) (h2 : okB c d = true) : lessB a b c d = decide (a * d < c * b) := by unfold lessB; simp [h1, h2]
theorem less_bad1 {a b c d : Int} (h1 : okB a b = false) : lessB a b c d = false := by unfold lessB; simp [h1]
theorem less_bad2 {a b c d : Int} (h1 : okB c d = false) : lessB a b c d = false := by unfold lessB; simp [h1]
theorem less_t {a b c d : Int} (h1 : okB a b = true) (h2 : okB c d = true) (h : a * d < c * b) : lessB a b c d = true := by rw [less_eq h1 h2]; simpa using h
theorem less_f {a b c d : Int} (h1 : okB a b = true) (h2 : okB c d = true) (h : ¬ a * d < c * b) : lessB a b c d = false := by rw [less_eq h1 h2]; simpa using h
theorem less_tri {a b c d : Int} (h1 : okB a b = true) (h2 : okB c d = true) :
    (lessB a b c d = true ∧ lessB c d a b = false ∧ ¬ (a = c ∧ b = d)) ∨ (lessB a b c d = false ∧ lessB c d a b = true ∧ ¬ (a = c ∧ b = d)) ∨ (lessB a b c d = false ∧ lessB c d a b = false ∧ a = c ∧ b = d) := by
  by_cases h : a * d < c * b
  · refine .inl ⟨less_t h1 h2 h, less_f h2 h1 (by omega), ?_⟩
    rintro ⟨rfl, rfl⟩; omega
  · by_cases k : c * b < a * d
    · refine .inr (.inl ⟨less_f h1 h2 h, less_t h2 h1 k, ?_⟩)
      rintro ⟨rfl, rfl⟩; omega
    · exact .inr (.inr ⟨less_f h1 h2 h, less_f h2 h1 k, ok_unique h1 h2 (by omega)⟩)
theorem less_add {a b c d e f P Q R S : Int} (h1 : addR a b e f = (P, Q, true)) (h2 : addR c d e f = (R, S, true)) : lessB P Q R S = lessB a b c d := by
  obtain ⟨k1, k2, k3, e1⟩ := addR_spec h1
  obtain ⟨k4, _, k5, e2⟩ := addR_spec h2
  have pb := ok_pos k1; have pd := ok_pos k4; have pf := ok_pos k2; have pQ := ok_pos k3; have pS := ok_pos k5
  rw [less_eq k3 k5, less_eq k1 k4]
  have s := sgn (x := P * S - R * Q) (y := a * d - c * b) (k := (b * f) * (d * f)) (m := (Q * S) * (f * f)) (Int.mul_pos (Int.mul_pos pb pf) (Int.mul_pos pd pf)) (Int.mul_pos (Int.mul_pos pQ pS) (Int.mul_pos pf pf)) (by grind)
  rw [Bool.eq_iff_iff]; simp; omega
theorem less_trans {a b c d e f : Int} (h1 : lessB a b c d = true) (h2 : lessB c d e f = true) : lessB a b e f = true := by
  cases k1 : okB a b
  · rw [less_bad1 k1] at h1; cases h1
  cases k2 : okB c d
  · rw [less_bad2 k2] at h1; cases h1
  cases k3 : okB e f
  · rw [less_bad2 k3] at h2; cases h2
  rw [less_eq k1 k2] at h1; rw [less_eq k2 k3] at h2
  simp at h1 h2
  have pb := ok_pos k1; have pd := ok_pos k2; have pf := ok_pos k3
  have u := Int.mul_lt_mul_of_pos_right h1 pf
  have v := Int.mul_lt_mul_of_pos_right h2 pb
  refine less_t k1 k3 ?_
  have s := sgn (x := a * f - e * b) (y := a * d * f - e * d * b) (k := d) (m := 1) pd (by omega) (by grind)
  have t : c * b * f = c * f * b := by grind
  omega
theorem mid_spec {a b c d M N : Int} (h : midR a b c d = (M, N, true)) : okB a b = true ∧ okB c d = true ∧ okB M N = true ∧ M * (2 * (b * d)) = (a * d + c * b) * N := by
  unfold midR at h
  split at h
  · rename_i h3
    have hh : addR a b c d = ((addR a b c d).1, (addR a b c d).2.1, true) := by rw [← h3]
    obtain ⟨k1, k2, k3, e1⟩ := addR_spec hh
    obtain ⟨_, _, k4, e2⟩ := mulR_spec h
    generalize (addR a b c d).1 = P at *
    generalize (addR a b c d).2.1 = Q at *
    have pQ := ok_pos k3
    refine ⟨k1, k2, k4, Int.eq_of_mul_eq_mul_right (show Q ≠ 0 by omega) ?_⟩
    grind
  · simp at h
theorem midR_cases (a b c d : Int) : midR a b c d = (0, 0, false) ∨ ∃ N D, midR a b c d = (N, D, true) := by
  unfold midR; split
  · exact mulR_cases _ _ _ _
  · exact .inl rfl
theorem midR_comm (a b c d : Int) : midR c d a b = midR a b c d := by unfold midR; rw [addR_comm a b c d]
theorem mid_same {a b M N : Int} (h : midR a b a b = (M, N, true)) : M = a ∧ N = b := by
  obtain ⟨k1, _, k3, e⟩ := mid_spec h
  have pb := ok_pos k1
  refine ok_unique k3 k1 (Int.eq_of_mul_eq_mul_right (show b ≠ 0 by omega) (Int.eq_of_mul_eq_mul_right (show (2 : Int) ≠ 0 by omega) ?_))
  grind
theorem mid_less {a b c d M N : Int} (h : midR a b c d = (M, N, true)) (hl : lessB a b c d = true) : lessB a b M N = true ∧ lessB M N c d = true := by
  obtain ⟨k1, k2, k3, e⟩ := mid_spec h
  have pb := ok_pos k1; have pd := ok_pos k2; have pN := ok_pos k3
  rw [less_eq k1 k2] at hl; simp at hl
  have p2 : 0 < 2 * (b * d) := Int.mul_pos (by omega) (Int.mul_pos pb pd)
  have s1 := sgn (x := a * N - M * b) (y := a * d - c * b) (k := 2 * (b * d)) (m := N * b) p2 (Int.mul_pos pN pb) (by grind)
  have s2 := sgn (x := M * d - c * N) (y := a * d - c * b) (k := 2 * (b * d)) (m := N * d) p2 (Int.mul_pos pN pd) (by grind)
  exact ⟨less_t k1 k3 (by omega), less_t k3 k2 (by omega)⟩
theorem least_11 {n : Int} (hd : 0 < n) : leastR n n = (1, 1, true) := by
  rw [least_ratio (n' := 1) (d' := 1) hd (by omega) (by omega), least_self ok11]
theorem okswap {a b : Int} (h : okB a b = true) (ha : 0 < a) : okB b a = true := by
  have x := okB_iff.1 h
  exact okB_iff.2 ⟨by omega, by omega, by omega, by omega, by rw [Int.gcd_comm]; exact x.2.2.2.2⟩
theorem over_pos {a b : Int} (h : okB a b = true) (ha : 0 < a) : ofR b a = (b, a, true) ∧ okB b a = true ∧ mulR a b b a = (1, 1, true) := by
  have x := ok_b h
  have s := okswap h ha
  refine ⟨?_, s, ?_⟩
  · unfold ofR; rw [if_neg (by omega), if_neg (by omega)]; exact least_self s
  · rw [mulR_ok h s, Int.mul_comm b a]; exact least_11 (Int.mul_pos ha (ok_pos h))
theorem over_neg {a b : Int} (h : okB a b = true) (ha : a < 0) : ofR b a = (-b, -a, true) ∧ okB (-b) (-a) = true ∧ mulR a b (-b) (-a) = (1, 1, true) := by
  have x := ok_b h
  have s := okneg (okswap (okneg h) (show 0 < -a by omega))
  refine ⟨?_, s, ?_⟩
  · unfold ofR; rw [if_neg (by omega), if_pos ha]; exact least_self s
  · rw [mulR_ok h s]
    have e : a * -b = b * -a := by grind
    rw [e]; exact least_11 (Int.mul_pos (ok_pos h) (by omega))
theorem ofR_cases (n d : Int) : ofR n d = (0, 0, false) ∨ ∃ N D, ofR n d = (N, D, true) := by
  unfold ofR; split
  · exact .inl rfl
  · split <;> exact least_cases _ _
theorem leastR_ok' {n d N D : Int} (hd : 0 < d) (h : leastR n d = (N, D, true)) : okB N D = true := by
  unfold leastR at h
  split at h
  · rename_i hh
    simp only [Prod.mk.injEq, and_true] at h
    obtain ⟨rfl, rfl⟩ := h
    have g1 := gcd_pos (n := n) hd
    have hp : 1 ≤ d / (Int.gcd n d : Int) := by
      have h1 : (Int.gcd n d : Int) ≤ d := Int.gcd_le_right _ hd
      have := Int.ediv_pos_of_pos_of_dvd hd (show 0 ≤ (Int.gcd n d : Int) by omega) (Int.gcd_dvd_right _ _)
      omega
    exact okB_iff.2 ⟨hh.1, hh.2.1, hp, hh.2.2, Int.gcd_ediv_gcd_ediv_gcd g1⟩
  · simp at h
theorem ofR_spec {n d N D : Int} (h : ofR n d = (N, D, true)) : (-1000000000 ≤ n ∧ n ≤ 1000000000) ∧ (-1000000000 ≤ d ∧ d ≤ 1000000000) ∧ okB N D = true ∧ N * d = n * D ∧ ofR (-n) (-d) = (N, D, true) := by
  unfold ofR at h
  split at h
  · simp at h
  · rename_i hh
    have hr : (-1000000000 ≤ n ∧ n ≤ 1000000000) ∧ (-1000000000 ≤ d ∧ d ≤ 1000000000) ∧ d ≠ 0 := by omega
    obtain ⟨r1, r2, r3⟩ := hr
    split at h
    · rename_i hd
      obtain ⟨e, p⟩ := least_spec (show 0 < -d by omega) h
      refine ⟨r1, r2, leastR_ok' (by omega) h, by grind, ?_⟩
      unfold ofR; rw [if_neg (by omega), if_neg (by omega)]; exact h
    · rename_i hd
      obtain ⟨e, p⟩ := least_spec (show 0 < d by omega) h
      refine ⟨r1, r2, leastR_ok' (by omega) h, e, ?_⟩
      unfold ofR; rw [if_neg (by omega), if_pos (by omega)]; simpa using h
theorem ofR_three {n d N D N' D' : Int} (h : ofR n d = (N, D, true)) (h3 : ofR (3 * n) (3 * d) = (N', D', true)) : N' = N ∧ D' = D := by
  obtain ⟨_, _, k1, e1, _⟩ := ofR_spec h
  obtain ⟨_, _, k2, e2, _⟩ := ofR_spec h3
  have hd : d ≠ 0 := by rintro rfl; simp [ofR] at h
  refine ok_unique k2 k1 (Int.eq_of_mul_eq_mul_right (show 3 * d ≠ 0 by omega) ?_)
  grind
end Go.Proofs.Ytbdmofmoegmigaa
