/- Several texts in one: Math, MathB, MathC, LinM, LinV, LinVM. -/
import Derived.KernelRfl
namespace Go.Proofs.Ytjnngijilkdhbaa
set_option linter.unusedVariables false
set_option linter.unusedSimpArgs false
def okB (n d : Int) : Bool := decide (-1000000000 ≤ n ∧ n ≤ 1000000000 ∧ 1 ≤ d ∧ d ≤ 1000000000 ∧ Int.gcd n d = 1)
theorem okB_iff {n d : Int} : okB n d = true ↔ (-1000000000 ≤ n ∧ n ≤ 1000000000 ∧ 1 ≤ d ∧ d ≤ 1000000000 ∧ Int.gcd n d = 1) := by unfold okB; exact decide_eq_true_iff
/-- the fraction n/d (d above 0) in lowest terms, or nothing -/
def leastR (n d : Int) : Int × Int × Bool :=
  if -1000000000 ≤ n / Int.gcd n d ∧ n / Int.gcd n d ≤ 1000000000 ∧ d / Int.gcd n d ≤ 1000000000 then (n / Int.gcd n d, d / Int.gcd n d, true) else (0, 0, false)
def ofR (n d : Int) : Int × Int × Bool :=
  if d = 0 ∨ ¬ (-1000000000 ≤ n ∧ n ≤ 1000000000 ∧ -1000000000 ≤ d ∧ d ≤ 1000000000) then (0, 0, false) else if d < 0 then leastR (-n) (-d) else leastR n d
def addR (a b c d : Int) : Int × Int × Bool := if okB a b = true ∧ okB c d = true then leastR (a * d + c * b) (b * d) else (0, 0, false)
def mulR (a b c d : Int) : Int × Int × Bool := if okB a b = true ∧ okB c d = true then leastR (a * c) (b * d) else (0, 0, false)
def lessB (a b c d : Int) : Bool := decide (okB a b = true ∧ okB c d = true ∧ a * d < c * b)
def midR (a b c d : Int) : Int × Int × Bool :=
  if (addR a b c d).2.2 = true then mulR (addR a b c d).1 (addR a b c d).2.1 1 2 else (0, 0, false)
theorem gcd_pos {n d : Int} (hd : 0 < d) : 0 < Int.gcd n d := Int.gcd_pos_of_ne_zero_right _ (by omega)
theorem gcd_emod' (a b : Int) : Int.gcd b (a % b) = Int.gcd a b := by
  rw [Int.gcd_comm a b, Int.emod_def, Int.gcd_sub_mul_left_right]
theorem mul_bd {x y : Int} (A B : Nat) (hx : -(A : Int) ≤ x ∧ x ≤ A) (hy : -(B : Int) ≤ y ∧ y ≤ B) : -((A * B : Nat) : Int) ≤ x * y ∧ x * y ≤ ((A * B : Nat) : Int) := by
  have h := Nat.mul_le_mul (show x.natAbs ≤ A by omega) (show y.natAbs ≤ B by omega)
  rw [← Int.natAbs_mul] at h
  omega
theorem mul_bd9 {x y : Int} (hx : -1000000000 ≤ x ∧ x ≤ 1000000000) (hy : -1000000000 ≤ y ∧ y ≤ 1000000000) : -1000000000000000000 ≤ x * y ∧ x * y ≤ 1000000000000000000 := by
  have := mul_bd 1000000000 1000000000 hx hy; omega
theorem mul_pos9 {x y : Int} (hx : 1 ≤ x) (hy : 1 ≤ y) : 1 ≤ x * y := by
  have := Int.mul_pos (show 0 < x by omega) (show 0 < y by omega); omega
theorem tdiv_bd {n g : Int} (B : Int) (hg : 1 ≤ g) (h : -B ≤ n ∧ n ≤ B) : -B ≤ n.tdiv g ∧ n.tdiv g ≤ B := by
  have h1 : (n.tdiv g).natAbs ≤ n.natAbs := by rw [Int.natAbs_tdiv]; exact Nat.div_le_self _ _
  omega
theorem ediv_bd {d g : Int} (hg : 1 ≤ g) (h : 0 ≤ d) : 0 ≤ d / g ∧ d / g ≤ d := by
  refine ⟨Int.ediv_nonneg h (by omega), Int.ediv_le_self _ h⟩
theorem tdiv_gcd (n d : Int) : n.tdiv (Int.gcd n d : Int) = n / (Int.gcd n d : Int) := Int.tdiv_eq_ediv_of_dvd (Int.gcd_dvd_left n d)
theorem gcd1 {n d : Int} (hd : 1 ≤ d) : 1 ≤ (Int.gcd n d : Int) := by have := gcd_pos (n := n) (show 0 < d by omega); omega
end Go.Proofs.Ytjnngijilkdhbaa

namespace Go.Proofs.Ytjnngijilkdhbaa
set_option linter.unusedVariables false
set_option linter.unusedSimpArgs false
theorem least_scale {n d k : Int} (hk : 0 < k) (hd : 0 < d) : leastR (n * k) (d * k) = leastR n d := by
  have g : Int.gcd (n * k) (d * k) = Int.gcd n d * k.natAbs := Int.gcd_mul_right n k d
  have gk : ((Int.gcd (n * k) (d * k) : Nat) : Int) = (Int.gcd n d : Int) * k := by rw [g, Int.natCast_mul]; congr 1; omega
  unfold leastR
  rw [gk, Int.mul_ediv_mul_of_pos_left _ _ hk, Int.mul_ediv_mul_of_pos_left _ _ hk]
theorem least_ratio {n d n' d' : Int} (hd : 0 < d) (hd' : 0 < d') (h : n * d' = n' * d) : leastR n d = leastR n' d' := by
  rw [← least_scale (n := n) (k := d') hd' hd, ← least_scale (n := n') (k := d) hd hd', h, Int.mul_comm d d']
theorem least_self {n d : Int} (h : okB n d = true) : leastR n d = (n, d, true) := by
  obtain ⟨a, b, c, e, g⟩ := okB_iff.1 h
  unfold leastR; rw [g]; simp; omega
theorem least_spec {n d N D : Int} (hd : 0 < d) (h : leastR n d = (N, D, true)) : N * d = n * D ∧ 0 < D := by
  unfold leastR at h
  split at h
  · simp only [Prod.mk.injEq, and_true] at h
    obtain ⟨rfl, rfl⟩ := h
    have g1 := gcd1 (n := n) (show 1 ≤ d by omega)
    have e1 := Int.ediv_mul_cancel (Int.gcd_dvd_left n d)
    have e2 := Int.ediv_mul_cancel (Int.gcd_dvd_right n d)
    generalize (Int.gcd n d : Int) = g at *
    generalize n / g = N at *
    generalize d / g = D at *
    constructor
    · rw [← e1, ← e2]; grind
    · by_cases h : 0 < D
      · exact h
      · replace h : D ≤ 0 := by omega
        have := Int.mul_nonpos_of_nonpos_of_nonneg h (show 0 ≤ g by omega); omega
  · simp at h
theorem ok_unique {a b c d : Int} (h1 : okB a b = true) (h2 : okB c d = true) (h : a * d = c * b) : a = c ∧ b = d := by
  have b1 := okB_iff.1 h1; have d1 := okB_iff.1 h2
  have e := least_ratio (n := a) (d := b) (n' := c) (d' := d) (by omega) (by omega) h
  rw [least_self h1, least_self h2] at e
  simp at e; exact e

theorem ok_b {n d : Int} (h : okB n d = true) : -1000000000 ≤ n ∧ n ≤ 1000000000 ∧ 1 ≤ d ∧ d ≤ 1000000000 := by
  have := okB_iff.1 h; omega
theorem ok_pos {n d : Int} (h : okB n d = true) : 0 < d := by have := ok_b h; omega
theorem okneg {n d : Int} (h : okB n d = true) : okB (-n) d = true := by
  have a := okB_iff.1 h
  exact okB_iff.2 ⟨by omega, by omega, a.2.2.1, a.2.2.2.1, by rw [Int.neg_gcd]; exact a.2.2.2.2⟩
theorem least_cases (n d : Int) : leastR n d = (0, 0, false) ∨ ∃ N D, leastR n d = (N, D, true) := by
  unfold leastR; split
  · exact .inr ⟨_, _, rfl⟩
  · exact .inl rfl
theorem addR_ok {a b c d : Int} (h1 : okB a b = true) (h2 : okB c d = true) : addR a b c d = leastR (a * d + c * b) (b * d) := by unfold addR; rw [if_pos ⟨h1, h2⟩]
theorem mulR_ok {a b c d : Int} (h1 : okB a b = true) (h2 : okB c d = true) : mulR a b c d = leastR (a * c) (b * d) := by unfold mulR; rw [if_pos ⟨h1, h2⟩]
theorem addR_cases (a b c d : Int) : addR a b c d = (0, 0, false) ∨ ∃ N D, addR a b c d = (N, D, true) := by
  unfold addR; split
  · exact least_cases _ _
  · exact .inl rfl
theorem mulR_cases (a b c d : Int) : mulR a b c d = (0, 0, false) ∨ ∃ N D, mulR a b c d = (N, D, true) := by
  unfold mulR; split
  · exact least_cases _ _
  · exact .inl rfl
theorem addR_spec {a b c d N D : Int} (h : addR a b c d = (N, D, true)) : okB a b = true ∧ okB c d = true ∧ okB N D = true ∧ N * (b * d) = (a * d + c * b) * D := by
  by_cases k : okB a b = true ∧ okB c d = true
  · rw [addR_ok k.1 k.2] at h
    have p := Int.mul_pos (ok_pos k.1) (ok_pos k.2)
    obtain ⟨e, _⟩ := least_spec p h
    refine ⟨k.1, k.2, ?_, e⟩
    unfold leastR at h
    split at h
    · rename_i hh
      simp only [Prod.mk.injEq, and_true] at h
      obtain ⟨rfl, rfl⟩ := h
      have g1 := gcd_pos (n := a * d + c * b) p
      have hp : 1 ≤ b * d / (Int.gcd (a * d + c * b) (b * d) : Int) := by
        have h1 : (Int.gcd (a * d + c * b) (b * d) : Int) ≤ b * d := Int.gcd_le_right _ p
        have := Int.ediv_pos_of_pos_of_dvd p (show 0 ≤ (Int.gcd (a * d + c * b) (b * d) : Int) by omega) (Int.gcd_dvd_right _ _)
        omega
      exact okB_iff.2 ⟨hh.1, hh.2.1, hp, hh.2.2, Int.gcd_ediv_gcd_ediv_gcd g1⟩
    · simp at h
  · unfold addR at h; rw [if_neg k] at h; simp at h
theorem mulR_spec {a b c d N D : Int} (h : mulR a b c d = (N, D, true)) : okB a b = true ∧ okB c d = true ∧ okB N D = true ∧ N * (b * d) = (a * c) * D := by
  by_cases k : okB a b = true ∧ okB c d = true
  · rw [mulR_ok k.1 k.2] at h
    have p := Int.mul_pos (ok_pos k.1) (ok_pos k.2)
    obtain ⟨e, _⟩ := least_spec p h
    refine ⟨k.1, k.2, ?_, e⟩
    unfold leastR at h
    split at h
    · rename_i hh
      simp only [Prod.mk.injEq, and_true] at h
      obtain ⟨rfl, rfl⟩ := h
      have g1 := gcd_pos (n := a * c) p
      have hp : 1 ≤ b * d / (Int.gcd (a * c) (b * d) : Int) := by
        have h1 : (Int.gcd (a * c) (b * d) : Int) ≤ b * d := Int.gcd_le_right _ p
        have := Int.ediv_pos_of_pos_of_dvd p (show 0 ≤ (Int.gcd (a * c) (b * d) : Int) by omega) (Int.gcd_dvd_right _ _)
        omega
      exact okB_iff.2 ⟨hh.1, hh.2.1, hp, hh.2.2, Int.gcd_ediv_gcd_ediv_gcd g1⟩
    · simp at h
  · unfold mulR at h; rw [if_neg k] at h; simp at h
theorem addR_comm (a b c d : Int) : addR c d a b = addR a b c d := by
  unfold addR
  by_cases k : okB a b = true ∧ okB c d = true
  · rw [if_pos k, if_pos k.symm, Int.add_comm, Int.mul_comm d b]
  · rw [if_neg k, if_neg (fun h => k h.symm)]
theorem mulR_comm (a b c d : Int) : mulR c d a b = mulR a b c d := by
  unfold mulR
  by_cases k : okB a b = true ∧ okB c d = true
  · rw [if_pos k, if_pos k.symm, Int.mul_comm c a, Int.mul_comm d b]
  · rw [if_neg k, if_neg (fun h => k h.symm)]
theorem ok01 : okB 0 1 = true := by decide +kernel
theorem ok11 : okB 1 1 = true := by decide +kernel
theorem okm1 : okB (-1) 1 = true := by decide +kernel
theorem least_01 {d : Int} (hd : 0 < d) : leastR 0 d = (0, 1, true) := by
  rw [least_ratio (n' := 0) (d' := 1) hd (by omega) (by simp), least_self ok01]
theorem add_zero' {a b : Int} (h : okB a b = true) : addR a b 0 1 = (a, b, true) := by
  rw [addR_ok h ok01, ← least_self h]; congr 1 <;> simp
theorem add_neg {a b : Int} (h : okB a b = true) : addR a b (-a) b = (0, 1, true) := by
  rw [addR_ok h (okneg h), ← least_01 (d := b * b) (Int.mul_pos (ok_pos h) (ok_pos h))]; congr 1; grind
theorem mul_m1 {a b : Int} (h : okB a b = true) : mulR a b (-1) 1 = (-a, b, true) := by
  rw [mulR_ok h okm1, ← least_self (okneg h)]; congr 1 <;> grind
theorem mul_one' {a b : Int} (h : okB a b = true) : mulR a b 1 1 = (a, b, true) := by
  rw [mulR_ok h ok11, ← least_self h]; congr 1 <;> grind
theorem mul_zero' {a b : Int} (h : okB a b = true) : mulR a b 0 1 = (0, 1, true) := by
  have := ok_pos h
  rw [mulR_ok h ok01, ← least_01 (d := b * 1) (by omega)]; congr 1; grind
theorem add_back {a b c d N D : Int} (h : addR a b c d = (N, D, true)) : addR N D (-c) d = (a, b, true) := by
  obtain ⟨h1, h2, h3, e⟩ := addR_spec h
  have p2 := ok_pos h2
  rw [addR_ok h3 (okneg h2), ← least_self h1]
  refine least_ratio (Int.mul_pos (ok_pos h3) p2) (ok_pos h1) ?_
  grind
theorem add_assoc' {a b c d e f P Q R S : Int} (h1 : addR a b c d = (P, Q, true)) (h2 : addR c d e f = (R, S, true)) : addR P Q e f = addR a b R S := by
  obtain ⟨k1, k2, k3, e1⟩ := addR_spec h1
  obtain ⟨_, k4, k5, e2⟩ := addR_spec h2
  have pb := ok_pos k1; have pd := ok_pos k2; have pf := ok_pos k4; have pQ := ok_pos k3; have pS := ok_pos k5
  rw [addR_ok k3 k4, addR_ok k1 k5]
  refine least_ratio (Int.mul_pos pQ pf) (Int.mul_pos pb pS) ?_
  have pp := Int.mul_pos pd (Int.mul_pos pb pf)
  refine Int.eq_of_mul_eq_mul_right (show d * (b * f) ≠ 0 by omega) ?_
  grind
theorem distrib {a b c d e f X Y S T U V : Int} {R1 R2 R3 R4 : Int} (hx : mulR a b c d = (X, Y, true)) (hs : addR c d e f = (S, T, true)) (hu : mulR a b e f = (U, V, true)) : mulR a b S T = addR X Y U V := by
  obtain ⟨k1, k2, k3, e1⟩ := mulR_spec hx
  obtain ⟨_, k4, k5, e2⟩ := addR_spec hs
  obtain ⟨_, _, k6, e3⟩ := mulR_spec hu
  have pb := ok_pos k1; have pd := ok_pos k2; have pf := ok_pos k4; have pY := ok_pos k3; have pT := ok_pos k5; have pV := ok_pos k6
  rw [mulR_ok k1 k5, addR_ok k3 k6]
  refine least_ratio (Int.mul_pos pb pT) (Int.mul_pos pY pV) ?_
  have pp := Int.mul_pos pd (Int.mul_pos pb pf)
  refine Int.eq_of_mul_eq_mul_right (show d * (b * f) ≠ 0 by omega) ?_
  grind
end Go.Proofs.Ytjnngijilkdhbaa

namespace Go.Proofs.Ytjnngijilkdhbaa
set_option linter.unusedVariables false
set_option linter.unusedSimpArgs false
theorem sgn {x y k m : Int} (hk : 0 < k) (hm : 0 < m) (h : x * k = y * m) : x < 0 ↔ y < 0 := by
  constructor
  · intro hx
    have h1 := Int.mul_neg_of_neg_of_pos hx hk
    by_cases hy : y < 0
    · exact hy
    · have := Int.mul_nonneg (show 0 ≤ y by omega) (show 0 ≤ m by omega); omega
  · intro hy
    have h1 := Int.mul_neg_of_neg_of_pos hy hm
    by_cases hx : x < 0
    · exact hx
    · have := Int.mul_nonneg (show 0 ≤ x by omega) (show 0 ≤ k by omega); omega
theorem less_eq {a b c d : Int} (h1 : okB a b = true) (h2 : okB c d = true) : lessB a b c d = decide (a * d < c * b) := by unfold lessB; simp [h1, h2]
theorem less_bad1 {a b c d : Int} (h1 : okB a b = false) : lessB a b c d = false := by unfold lessB; simp [h1]
theorem less_bad2 {a b c d : Int} (h1 : okB c d = false) : lessB a b c d = false := by unfold lessB; simp [h1]
theorem less_t {a b c d : Int} (h1 : okB a b = true) (h2 : okB c d = true) (h : a * d < c * b) : lessB a b c d = true := by rw [less_eq h1 h2]; simpa using h
theorem less_f {a b c d : Int} (h1 : okB a b = true) (h2 : okB c d = true) (h : ¬ a * d < c * b) : lessB a b c d = false := by rw [less_eq h1 h2]; simpa using h
theorem less_tri {a b c d : Int} (h1 : okB a b = true) (h2 : okB c d = true) :
    (lessB a b c d = true ∧ lessB c d a b = false ∧ ¬ (a = c ∧ b = d)) ∨ (lessB a b c d = false ∧ lessB c d a b = true ∧ ¬ (a = c ∧ b = d)) ∨ (lessB a b c d = false ∧ lessB c d a b = false ∧ a = c ∧ b = d) := by
  by_cases h : a * d < c * b
  · refine .inl ⟨less_t h1 h2 h, less_f h2 h1 (by omega), ?_⟩
    rintro ⟨rfl, rfl⟩; omega
  · by_cases k : c * b < a * d
    · refine .inr (.inl ⟨less_f h1 h2 h, less_t h2 h1 k, ?_⟩)
      rintro ⟨rfl, rfl⟩; omega
    · exact .inr (.inr ⟨less_f h1 h2 h, less_f h2 h1 k, ok_unique h1 h2 (by omega)⟩)
theorem less_add {a b c d e f P Q R S : Int} (h1 : addR a b e f = (P, Q, true)) (h2 : addR c d e f = (R, S, true)) : lessB P Q R S = lessB a b c d := by
  obtain ⟨k1, k2, k3, e1⟩ := addR_spec h1
  obtain ⟨k4, _, k5, e2⟩ := addR_spec h2
  have pb := ok_pos k1; have pd := ok_pos k4; have pf := ok_pos k2; have pQ := ok_pos k3; have pS := ok_pos k5
  rw [less_eq k3 k5, less_eq k1 k4]
  have s := sgn (x := P * S - R * Q) (y := a * d - c * b) (k := (b * f) * (d * f)) (m := (Q * S) * (f * f)) (Int.mul_pos (Int.mul_pos pb pf) (Int.mul_pos pd pf)) (Int.mul_pos (Int.mul_pos pQ pS) (Int.mul_pos pf pf)) (by grind)
  rw [Bool.eq_iff_iff]; simp; omega
theorem less_trans {a b c d e f : Int} (h1 : lessB a b c d = true) (h2 : lessB c d e f = true) : lessB a b e f = true := by
  cases k1 : okB a b
  · rw [less_bad1 k1] at h1; cases h1
  cases k2 : okB c d
  · rw [less_bad2 k2] at h1; cases h1
  cases k3 : okB e f
  · rw [less_bad2 k3] at h2; cases h2
  rw [less_eq k1 k2] at h1; rw [less_eq k2 k3] at h2
  simp at h1 h2
  have pb := ok_pos k1; have pd := ok_pos k2; have pf := ok_pos k3
  have u := Int.mul_lt_mul_of_pos_right h1 pf
  have v := Int.mul_lt_mul_of_pos_right h2 pb
  refine less_t k1 k3 ?_
  have s := sgn (x := a * f - e * b) (y := a * d * f - e * d * b) (k := d) (m := 1) pd (by omega) (by grind)
  have t : c * b * f = c * f * b := by grind
  omega
theorem mid_spec {a b c d M N : Int} (h : midR a b c d = (M, N, true)) : okB a b = true ∧ okB c d = true ∧ okB M N = true ∧ M * (2 * (b * d)) = (a * d + c * b) * N := by
  unfold midR at h
  split at h
  · rename_i h3
    have hh : addR a b c d = ((addR a b c d).1, (addR a b c d).2.1, true) := by rw [← h3]
    obtain ⟨k1, k2, k3, e1⟩ := addR_spec hh
    obtain ⟨_, _, k4, e2⟩ := mulR_spec h
    generalize (addR a b c d).1 = P at *
    generalize (addR a b c d).2.1 = Q at *
    have pQ := ok_pos k3
    refine ⟨k1, k2, k4, Int.eq_of_mul_eq_mul_right (show Q ≠ 0 by omega) ?_⟩
    grind
  · simp at h
theorem midR_cases (a b c d : Int) : midR a b c d = (0, 0, false) ∨ ∃ N D, midR a b c d = (N, D, true) := by
  unfold midR; split
  · exact mulR_cases _ _ _ _
  · exact .inl rfl
theorem midR_comm (a b c d : Int) : midR c d a b = midR a b c d := by unfold midR; rw [addR_comm a b c d]
theorem mid_same {a b M N : Int} (h : midR a b a b = (M, N, true)) : M = a ∧ N = b := by
  obtain ⟨k1, _, k3, e⟩ := mid_spec h
  have pb := ok_pos k1
  refine ok_unique k3 k1 (Int.eq_of_mul_eq_mul_right (show b ≠ 0 by omega) (Int.eq_of_mul_eq_mul_right (show (2 : Int) ≠ 0 by omega) ?_))
  grind
theorem mid_less {a b c d M N : Int} (h : midR a b c d = (M, N, true)) (hl : lessB a b c d = true) : lessB a b M N = true ∧ lessB M N c d = true := by
  obtain ⟨k1, k2, k3, e⟩ := mid_spec h
  have pb := ok_pos k1; have pd := ok_pos k2; have pN := ok_pos k3
  rw [less_eq k1 k2] at hl; simp at hl
  have p2 : 0 < 2 * (b * d) := Int.mul_pos (by omega) (Int.mul_pos pb pd)
  have s1 := sgn (x := a * N - M * b) (y := a * d - c * b) (k := 2 * (b * d)) (m := N * b) p2 (Int.mul_pos pN pb) (by grind)
  have s2 := sgn (x := M * d - c * N) (y := a * d - c * b) (k := 2 * (b * d)) (m := N * d) p2 (Int.mul_pos pN pd) (by grind)
  exact ⟨less_t k1 k3 (by omega), less_t k3 k2 (by omega)⟩
theorem least_11 {n : Int} (hd : 0 < n) : leastR n n = (1, 1, true) := by
  rw [least_ratio (n' := 1) (d' := 1) hd (by omega) (by omega), least_self ok11]
theorem okswap {a b : Int} (h : okB a b = true) (ha : 0 < a) : okB b a = true := by
  have x := okB_iff.1 h
  exact okB_iff.2 ⟨by omega, by omega, by omega, by omega, by rw [Int.gcd_comm]; exact x.2.2.2.2⟩
theorem over_pos {a b : Int} (h : okB a b = true) (ha : 0 < a) : ofR b a = (b, a, true) ∧ okB b a = true ∧ mulR a b b a = (1, 1, true) := by
  have x := ok_b h
  have s := okswap h ha
  refine ⟨?_, s, ?_⟩
  · unfold ofR; rw [if_neg (by omega), if_neg (by omega)]; exact least_self s
  · rw [mulR_ok h s, Int.mul_comm b a]; exact least_11 (Int.mul_pos ha (ok_pos h))
theorem over_neg {a b : Int} (h : okB a b = true) (ha : a < 0) : ofR b a = (-b, -a, true) ∧ okB (-b) (-a) = true ∧ mulR a b (-b) (-a) = (1, 1, true) := by
  have x := ok_b h
  have s := okneg (okswap (okneg h) (show 0 < -a by omega))
  refine ⟨?_, s, ?_⟩
  · unfold ofR; rw [if_neg (by omega), if_pos ha]; exact least_self s
  · rw [mulR_ok h s]
    have e : a * -b = b * -a := by grind
    rw [e]; exact least_11 (Int.mul_pos (ok_pos h) (by omega))
theorem ofR_cases (n d : Int) : ofR n d = (0, 0, false) ∨ ∃ N D, ofR n d = (N, D, true) := by
  unfold ofR; split
  · exact .inl rfl
  · split <;> exact least_cases _ _
theorem leastR_ok' {n d N D : Int} (hd : 0 < d) (h : leastR n d = (N, D, true)) : okB N D = true := by
  unfold leastR at h
  split at h
  · rename_i hh
    simp only [Prod.mk.injEq, and_true] at h
    obtain ⟨rfl, rfl⟩ := h
    have g1 := gcd_pos (n := n) hd
    have hp : 1 ≤ d / (Int.gcd n d : Int) := by
      have h1 : (Int.gcd n d : Int) ≤ d := Int.gcd_le_right _ hd
      have := Int.ediv_pos_of_pos_of_dvd hd (show 0 ≤ (Int.gcd n d : Int) by omega) (Int.gcd_dvd_right _ _)
      omega
    exact okB_iff.2 ⟨hh.1, hh.2.1, hp, hh.2.2, Int.gcd_ediv_gcd_ediv_gcd g1⟩
  · simp at h
theorem ofR_spec {n d N D : Int} (h : ofR n d = (N, D, true)) : (-1000000000 ≤ n ∧ n ≤ 1000000000) ∧ (-1000000000 ≤ d ∧ d ≤ 1000000000) ∧ okB N D = true ∧ N * d = n * D ∧ ofR (-n) (-d) = (N, D, true) := by
  unfold ofR at h
  split at h
  · simp at h
  · rename_i hh
    have hr : (-1000000000 ≤ n ∧ n ≤ 1000000000) ∧ (-1000000000 ≤ d ∧ d ≤ 1000000000) ∧ d ≠ 0 := by omega
    obtain ⟨r1, r2, r3⟩ := hr
    split at h
    · rename_i hd
      obtain ⟨e, p⟩ := least_spec (show 0 < -d by omega) h
      refine ⟨r1, r2, leastR_ok' (by omega) h, by grind, ?_⟩
      unfold ofR; rw [if_neg (by omega), if_neg (by omega)]; exact h
    · rename_i hd
      obtain ⟨e, p⟩ := least_spec (show 0 < d by omega) h
      refine ⟨r1, r2, leastR_ok' (by omega) h, e, ?_⟩
      unfold ofR; rw [if_neg (by omega), if_pos (by omega)]; simpa using h
theorem ofR_three {n d N D N' D' : Int} (h : ofR n d = (N, D, true)) (h3 : ofR (3 * n) (3 * d) = (N', D', true)) : N' = N ∧ D' = D := by
  obtain ⟨_, _, k1, e1, _⟩ := ofR_spec h
  obtain ⟨_, _, k2, e2, _⟩ := ofR_spec h3
  have hd : d ≠ 0 := by rintro rfl; simp [ofR] at h
  refine ok_unique k2 k1 (Int.eq_of_mul_eq_mul_right (show 3 * d ≠ 0 by omega) ?_)
  grind
end Go.Proofs.Ytjnngijilkdhbaa

namespace Go.Proofs.Ytjnngijilkdhbaa
set_option linter.unusedVariables false
set_option linter.unusedSimpArgs false
def inC (n : Int) : Bool := decide (-1000000 ≤ n ∧ n ≤ 1000000)
theorem inC_iff {n : Int} : inC n = true ↔ -1000000 ≤ n ∧ n ≤ 1000000 := by unfold inC; exact decide_eq_true_iff
/-- n coefficients Z, the bound b: a valid constraint -/
def okL (n : Nat) (Z : Nat → Int) (b : Int) : Bool := decide (n = 4 ∧ (∀ k, k < n → inC (Z k) = true) ∧ inC b = true)
theorem okL_iff {n : Nat} {Z : Nat → Int} {b : Int} : okL n Z b = true ↔ (n = 4 ∧ (∀ k, k < n → inC (Z k) = true) ∧ inC b = true) := by unfold okL; exact decide_eq_true_iff
theorem okL_len {n : Nat} {Z : Nat → Int} {b : Int} (h : n ≠ 4) : okL n Z b = false := by
  cases e : okL n Z b
  · rfl
  · exact absurd (okL_iff.1 e).1 h
theorem okL_at {n k : Nat} {Z : Nat → Int} {b : Int} (hk : k < n) (h : inC (Z k) = false) : okL n Z b = false := by
  cases e : okL n Z b
  · rfl
  · have := (okL_iff.1 e).2.1 k hk; rw [h] at this; cases this
theorem okL_bd {n : Nat} {Z : Nat → Int} {b : Int} (h : inC b = false) : okL n Z b = false := by
  cases e : okL n Z b
  · rfl
  · have := (okL_iff.1 e).2.2; rw [h] at this; cases this
/-- two rows of numbers are one -/
def eqI (n : Nat) (Z : Nat → Int) (m : Nat) (Y : Nat → Int) : Bool := decide (n = m ∧ ∀ k, k < n → Z k = Y k)
theorem eqI_iff {n m : Nat} {Z Y : Nat → Int} : eqI n Z m Y = true ↔ (n = m ∧ ∀ k, k < n → Z k = Y k) := by unfold eqI; exact decide_eq_true_iff
theorem eqI_len {n m : Nat} {Z Y : Nat → Int} (h : n ≠ m) : eqI n Z m Y = false := by
  cases e : eqI n Z m Y
  · rfl
  · exact absurd (eqI_iff.1 e).1 h
theorem eqI_at {n m k : Nat} {Z Y : Nat → Int} (hk : k < n) (h : Z k ≠ Y k) : eqI n Z m Y = false := by
  cases e : eqI n Z m Y
  · rfl
  · exact absurd ((eqI_iff.1 e).2 k hk) h
theorem eqI_self (n : Nat) (Z : Nat → Int) : eqI n Z n Z = true := eqI_iff.2 ⟨rfl, fun _ _ => rfl⟩
def eqL (n : Nat) (Z : Nat → Int) (b : Int) (s : Bool) (m : Nat) (Y : Nat → Int) (c : Int) (t : Bool) : Bool := eqI n Z m Y && decide (b = c) && decide (s = t)
theorem eqL_self (n : Nat) (Z : Nat → Int) (b : Int) (s : Bool) : eqL n Z b s n Z b s = true := by unfold eqL; rw [eqI_self]; simp
end Go.Proofs.Ytjnngijilkdhbaa

namespace Go.Proofs.Ytjnngijilkdhbaa
set_option linter.unusedVariables false
set_option linter.unusedSimpArgs false
/-- one product more -/
def stepR (s : Int × Int × Bool) (z n d : Int) : Int × Int × Bool :=
  if s.2.2 = true ∧ (mulR z 1 n d).2.2 = true then addR s.1 s.2.1 (mulR z 1 n d).1 (mulR z 1 n d).2.1 else (0, 0, false)
/-- the sum of the first k products -/
def atS (Z N D : Nat → Int) : Nat → Int × Int × Bool
  | 0 => (0, 1, true)
  | k + 1 => stepR (atS Z N D k) (Z k) (N k) (D k)
def valsB (n : Nat) (N D : Nat → Int) : Bool := decide (n = 4 ∧ ∀ k, k < n → okB (N k) (D k) = true)
theorem valsB_iff {n : Nat} {N D : Nat → Int} : valsB n N D = true ↔ n = 4 ∧ ∀ k, k < n → okB (N k) (D k) = true := by unfold valsB; exact decide_eq_true_iff
theorem valsB_len {n : Nat} {N D : Nat → Int} (h : n ≠ 4) : valsB n N D = false := by
  cases e : valsB n N D
  · rfl
  · exact absurd (valsB_iff.1 e).1 h
theorem valsB_at {n k : Nat} {N D : Nat → Int} (hk : k < n) (h : okB (N k) (D k) = false) : valsB n N D = false := by
  cases e : valsB n N D
  · rfl
  · have := (valsB_iff.1 e).2 k hk; rw [h] at this; cases this
/-- whether a sum x over y keeps the bound -/
def keepB (x y b : Int) (s : Bool) : Bool := lessB x y b 1 || (!s && (x == b && y == 1))
/-- what is said of a constraint at a point: whether it is so, and whether it can be told -/
def atB (n : Nat) (Z : Nat → Int) (b : Int) (s : Bool) (m : Nat) (N D : Nat → Int) : Bool × Bool :=
  if okL n Z b = true ∧ valsB m N D = true ∧ (atS Z N D 4).2.2 = true then (keepB (atS Z N D 4).1 (atS Z N D 4).2.1 b s, true) else (false, false)
theorem stepR_cases (s : Int × Int × Bool) (z n d : Int) : stepR s z n d = (0, 0, false) ∨ ∃ x y, stepR s z n d = (x, y, true) := by
  unfold stepR; split
  · exact addR_cases _ _ _ _
  · exact .inl rfl
theorem atS_cases (Z N D : Nat → Int) (k : Nat) : atS Z N D k = (0, 0, false) ∨ ∃ x y, atS Z N D k = (x, y, true) := by
  cases k
  · exact .inr ⟨0, 1, rfl⟩
  · exact stepR_cases _ _ _ _
theorem atS_mulno {Z N D : Nat → Int} {k : Nat} (h : (mulR (Z k) 1 (N k) (D k)).2.2 = false) : atS Z N D (k + 1) = (0, 0, false) := by
  show stepR _ _ _ _ = _
  unfold stepR; rw [if_neg (by rw [h]; simp)]
theorem atS_no {Z N D : Nat → Int} {k : Nat} (h : (atS Z N D k).2.2 = false) : atS Z N D (k + 1) = (0, 0, false) := by
  show stepR _ _ _ _ = _
  unfold stepR; rw [if_neg (by rw [h]; simp)]
theorem atS_le {Z N D : Nat → Int} {k m : Nat} (h : (atS Z N D k).2.2 = false) (hkm : k ≤ m) : (atS Z N D m).2.2 = false := by
  induction m with
  | zero => have : k = 0 := by omega
            subst this; exact h
  | succ m ih =>
    by_cases e : k = m + 1
    · subst e; exact h
    · rw [atS_no (ih (by omega))]
theorem atS_none {Z N D : Nat → Int} {k : Nat} (h : (atS Z N D k).2.2 = false) : atS Z N D k = (0, 0, false) := by
  rcases atS_cases Z N D k with e | ⟨x, y, e⟩
  · exact e
  · rw [e] at h; cases h
theorem atS_step {Z N D : Nat → Int} {k : Nat} {x y p q : Int} (h : atS Z N D k = (x, y, true)) (hm : mulR (Z k) 1 (N k) (D k) = (p, q, true)) : atS Z N D (k + 1) = addR x y p q := by
  show stepR _ _ _ _ = _
  unfold stepR; rw [h, hm]; simp
theorem atB_no1 {n m : Nat} {Z N D : Nat → Int} {b : Int} {s : Bool} (h : okL n Z b = false) : atB n Z b s m N D = (false, false) := by unfold atB; rw [if_neg (by rw [h]; simp)]
theorem atB_no2 {n m : Nat} {Z N D : Nat → Int} {b : Int} {s : Bool} (h : valsB m N D = false) : atB n Z b s m N D = (false, false) := by unfold atB; rw [if_neg (by rw [h]; simp)]
theorem atB_no3 {n m : Nat} {Z N D : Nat → Int} {b : Int} {s : Bool} (h : (atS Z N D 4).2.2 = false) : atB n Z b s m N D = (false, false) := by unfold atB; rw [if_neg (by rw [h]; simp)]
theorem atB_yes {n m : Nat} {Z N D : Nat → Int} {b x y : Int} {s : Bool} (h1 : okL n Z b = true) (h2 : valsB m N D = true) (h : atS Z N D 4 = (x, y, true)) : atB n Z b s m N D = (keepB x y b s, true) := by unfold atB; rw [h1, h2, h]; simp
end Go.Proofs.Ytjnngijilkdhbaa

namespace Go.Proofs.Ytjnngijilkdhbaa
set_option linter.unusedVariables false
set_option linter.unusedSimpArgs false
/-- the product of the first k denominators -/
def atP (D : Nat → Int) : Nat → Int
  | 0 => 1
  | k + 1 => atP D k * D k
/-- the sum of the first k products, times that -/
def atT (Z N D : Nat → Int) : Nat → Int
  | 0 => 0
  | k + 1 => atT Z N D k * D k + Z k * N k * atP D k
theorem at_spec {Z N D : Nat → Int} : ∀ {k : Nat} {x y : Int}, atS Z N D k = (x, y, true) → okB x y = true ∧ (∀ j, j < k → okB (N j) (D j) = true) ∧ 0 < atP D k ∧ x * atP D k = y * atT Z N D k
  | 0, x, y, h => by
    simp only [atS, Prod.mk.injEq, and_true] at h
    obtain ⟨rfl, rfl⟩ := h
    exact ⟨ok01, fun j hj => by omega, by simp [atP], by simp [atT]⟩
  | k + 1, x, y, h => by
    rcases atS_cases Z N D k with h0 | ⟨u, v, h0⟩
    · rw [atS_no (by rw [h0])] at h; simp at h
    · rcases mulR_cases (Z k) 1 (N k) (D k) with h1 | ⟨p, q, h1⟩
      · rw [atS_mulno (by rw [h1])] at h; simp at h
      · rw [atS_step h0 h1] at h
        obtain ⟨i1, i2, i3, i4⟩ := at_spec h0
        obtain ⟨_, m2, m3, m4⟩ := mulR_spec h1
        obtain ⟨_, _, a3, a4⟩ := addR_spec h
        have pv := ok_pos i1; have pq := ok_pos m3; have pd := ok_pos m2
        refine ⟨a3, fun j hj => ?_, Int.mul_pos i3 pd, ?_⟩
        · by_cases e : j = k
          · subst e; exact m2
          · exact i2 j (by omega)
        · show x * (atP D k * D k) = y * (atT Z N D k * D k + Z k * N k * atP D k)
          refine Int.eq_of_mul_eq_mul_right (show v * q ≠ 0 by have := Int.mul_pos pv pq; omega) ?_
          generalize atP D k = P at *
          generalize atT Z N D k = T at *
          grind
theorem lessB_int {x y b : Int} (h : okB x y = true) (hb : okB b 1 = true) : lessB x y b 1 = decide (x < b * y) := by
  rw [less_eq h hb, Int.mul_one]
theorem okb1 {b : Int} (h : -1000000 ≤ b ∧ b ≤ 1000000) : okB b 1 = true := okB_iff.2 ⟨by omega, by omega, by omega, by omega, by simp⟩
/-- a sum in lowest terms keeps the bound just if it does -/
theorem keep_iff {x y b : Int} {s : Bool} (h : okB x y = true) (hb : -1000000 ≤ b ∧ b ≤ 1000000) : keepB x y b s = decide (x < b * y ∨ s = false ∧ x = b * y) := by
  unfold keepB
  rw [lessB_int h (okb1 hb)]
  have e : (x = b ∧ y = 1) ↔ x = b * y := by
    constructor
    · rintro ⟨rfl, rfl⟩; simp
    · intro e
      exact ok_unique h (okb1 hb) (by rw [Int.mul_one]; exact e)
  rw [Bool.eq_iff_iff]
  cases s <;> simp [e]
/-- the same of the whole sum, before it is put in lowest terms -/
theorem keep_at {Z N D : Nat → Int} {k : Nat} {x y b : Int} {s : Bool} (h : atS Z N D k = (x, y, true)) (hb : -1000000 ≤ b ∧ b ≤ 1000000) :
    keepB x y b s = decide (atT Z N D k < b * atP D k ∨ s = false ∧ atT Z N D k = b * atP D k) := by
  obtain ⟨h1, _, h3, h4⟩ := at_spec h
  have py := ok_pos h1
  rw [keep_iff h1 hb]
  have s1 := sgn (x := x - b * y) (y := atT Z N D k - b * atP D k) (k := atP D k) (m := y) h3 py (by grind)
  have s2 := sgn (x := b * y - x) (y := b * atP D k - atT Z N D k) (k := atP D k) (m := y) h3 py (by grind)
  rw [decide_eq_decide]
  cases s
  · simp only [true_and]; omega
  · simp only [reduceCtorEq, false_and, or_false]; omega
theorem least_neg' (n d : Int) : leastR (-n) d = (-(leastR n d).1, (leastR n d).2.1, (leastR n d).2.2) := by
  unfold leastR
  rw [Int.neg_gcd, Int.neg_ediv_of_dvd (Int.gcd_dvd_left n d)]
  generalize n / (Int.gcd n d : Int) = p
  generalize d / (Int.gcd n d : Int) = q
  by_cases h : -1000000000 ≤ p ∧ p ≤ 1000000000 ∧ q ≤ 1000000000
  · rw [if_pos h, if_pos (by omega)]
  · rw [if_neg h, if_neg (by omega)]; rfl
theorem okneg_eq (n d : Int) : okB (-n) d = okB n d := by
  rw [Bool.eq_iff_iff]
  exact ⟨fun h => by have := okneg h; rwa [Int.neg_neg] at this, okneg⟩
theorem mulR_neg (a b c d : Int) : mulR (-a) b c d = (-(mulR a b c d).1, (mulR a b c d).2.1, (mulR a b c d).2.2) := by
  unfold mulR
  rw [okneg_eq]
  split
  · rw [Int.neg_mul, least_neg']
  · rfl
theorem addR_neg (a b c d : Int) : addR (-a) b (-c) d = (-(addR a b c d).1, (addR a b c d).2.1, (addR a b c d).2.2) := by
  unfold addR
  rw [okneg_eq, okneg_eq]
  split
  · rw [show -a * d + -c * b = -(a * d + c * b) by grind, least_neg']
  · rfl
theorem atS_neg (Z N D : Nat → Int) : ∀ k, atS (fun j => -Z j) N D k = (-(atS Z N D k).1, (atS Z N D k).2.1, (atS Z N D k).2.2)
  | 0 => rfl
  | k + 1 => by
    show stepR _ _ _ _ = _
    have hs : atS Z N D (k + 1) = stepR (atS Z N D k) (Z k) (N k) (D k) := rfl
    rw [atS_neg Z N D k, hs]
    unfold stepR
    rw [mulR_neg]
    simp only
    split
    · rw [addR_neg]
    · rfl
theorem atT_neg (Z N D : Nat → Int) : ∀ k, atT (fun j => -Z j) N D k = -atT Z N D k
  | 0 => rfl
  | k + 1 => by
    show atT _ N D k * D k + -Z k * N k * atP D k = -(atT Z N D k * D k + Z k * N k * atP D k)
    rw [atT_neg Z N D k]; grind
theorem atT_sum (Z Y N D : Nat → Int) (m n : Int) : ∀ k, atT (fun j => m * Z j + n * Y j) N D k = m * atT Z N D k + n * atT Y N D k
  | 0 => by simp [atT]
  | k + 1 => by
    show atT _ N D k * D k + (m * Z k + n * Y k) * N k * atP D k = m * (atT Z N D k * D k + Z k * N k * atP D k) + n * (atT Y N D k * D k + Y k * N k * atP D k)
    rw [atT_sum Z Y N D m n k]; grind
theorem atT_congr {Z Y N D : Nat → Int} : ∀ {k}, (∀ j, j < k → Z j = Y j) → atT Z N D k = atT Y N D k
  | 0, _ => rfl
  | k + 1, h => by
    show atT Z N D k * D k + Z k * N k * atP D k = atT Y N D k * D k + Y k * N k * atP D k
    rw [atT_congr (fun j hj => h j (by omega)), h k (by omega)]
theorem atS_congr {Z Y N D : Nat → Int} : ∀ {k}, (∀ j, j < k → Z j = Y j) → atS Z N D k = atS Y N D k
  | 0, _ => rfl
  | k + 1, h => by
    show stepR (atS Z N D k) (Z k) (N k) (D k) = stepR (atS Y N D k) (Y k) (N k) (D k)
    rw [atS_congr (fun j hj => h j (by omega)), h k (by omega)]
end Go.Proofs.Ytjnngijilkdhbaa
