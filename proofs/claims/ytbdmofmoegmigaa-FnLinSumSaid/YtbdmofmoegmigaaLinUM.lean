/- Plain mathematics: what follows of two is so wherever both are. -/
import Derived.Test.YtbdmofmoegmigaaLinAM
namespace Go.Proofs.Ytbdmofmoegmigaa
set_option linter.unusedVariables false
set_option linter.unusedSimpArgs false
theorem sum_comm (na : Nat) (Z : Nat → Int) (b : Int) (s : Bool) (m : Int) (nb : Nat) (Y : Nat → Int) (d : Int) (u : Bool) (k : Int) : sumR nb Y d u k na Z b s m = sumR na Z b s m nb Y d u k := by
  have e1 : addZ Y k Z m = addZ Z m Y k := by funext j; simp only [addZ]; rw [Int.add_comm]
  have e2 : d * k + b * m = b * m + d * k := Int.add_comm _ _
  have e3 : strB u k s m = strB s m u k := by unfold strB; rw [Bool.or_comm]
  unfold sumR addR2
  rw [e1, e2, e3]
  by_cases h : okL na Z b = true ∧ okL nb Y d = true ∧ (0 ≤ m ∧ m ≤ 1000000) ∧ (0 ≤ k ∧ k ≤ 1000000)
  · rw [if_pos h, if_pos ⟨h.2.1, h.1, h.2.2.2, h.2.2.1⟩]
  · rw [if_neg h, if_neg (fun x => h ⟨x.2.1, x.1, x.2.2.2, x.2.2.1⟩)]
theorem sum_true {na nb : Nat} {Z Y : Nat → Int} {b d m k : Int} {s u : Bool} {R : LinR} (hs : sumR na Z b s m nb Y d u k = (R, true)) :
    okL na Z b = true ∧ okL nb Y d = true ∧ 0 ≤ m ∧ 0 ≤ k ∧ okL 4 (addZ Z m Y k) (b * m + d * k) = true ∧ R = (4, addZ Z m Y k, b * m + d * k, strB s m u k) := by
  unfold sumR at hs
  by_cases h : okL na Z b = true ∧ okL nb Y d = true ∧ (0 ≤ m ∧ m ≤ 1000000) ∧ (0 ≤ k ∧ k ≤ 1000000)
  · rw [if_pos h] at hs
    unfold addR2 at hs
    by_cases hk : okL 4 (addZ Z m Y k) (b * m + d * k) = true
    · rw [if_pos hk] at hs
      exact ⟨h.1, h.2.1, h.2.2.1.1, h.2.2.2.1, hk, (Prod.mk.inj hs).1.symm⟩
    · rw [if_neg hk] at hs; simp at hs
  · rw [if_neg h] at hs; simp at hs
theorem sum_ok {na nb : Nat} {Z Y : Nat → Int} {b d m k : Int} {s u : Bool} {R : LinR} (hs : sumR na Z b s m nb Y d u k = (R, true)) : okL R.1 R.2.1 R.2.2.1 = true := by
  obtain ⟨_, _, _, _, h, rfl⟩ := sum_true hs
  exact h
theorem sum_R4 (na nb : Nat) (Z Y : Nat → Int) (b d m k : Int) (s u : Bool) : (sumR na Z b s m nb Y d u k).1.1 ≤ 4 := by
  unfold sumR addR2
  split
  · split <;> simp [zeroL]
  · simp [zeroL]
theorem at_sum {na nb v : Nat} {Z Y N D : Nat → Int} {b d m k : Int} {s u : Bool} {R : LinR} (hs : sumR na Z b s m nb Y d u k = (R, true))
    (h1 : atB na Z b s v N D = (true, true)) (h2 : atB nb Y d u v N D = (true, true)) {r : Bool} (h3 : atB R.1 R.2.1 R.2.2.1 R.2.2.2 v N D = (r, true)) : r = true := by
  obtain ⟨_, _, hm, hk, hok, rfl⟩ := sum_true hs
  obtain ⟨g1, _, x1, y1, a1, p1⟩ := atB_true h1
  obtain ⟨g2, _, x2, y2, a2, p2⟩ := atB_true h2
  obtain ⟨g3, _, x3, y3, a3, rfl⟩ := atB_true h3
  simp only at a3 g3
  have b1 := inC_iff.1 (okL_iff.1 g1).2.2
  have b2 := inC_iff.1 (okL_iff.1 g2).2.2
  have b3 := inC_iff.1 (okL_iff.1 g3).2.2
  rw [keep_at a1 b1] at p1
  rw [keep_at a2 b2] at p2
  simp only
  rw [keep_at a3 b3]
  have hT : atT (addZ Z m Y k) N D 4 = m * atT Z N D 4 + k * atT Y N D 4 := by
    rw [← atT_sum, atT_congr (fun j hj => by simp only [addZ]; rw [Int.mul_comm (Z j), Int.mul_comm (Y j)])]
  have hM : (b * m + d * k) * atP D 4 = m * (b * atP D 4) + k * (d * atP D 4) := by grind
  rw [hT, hM]
  have q1 : atT Z N D 4 < b * atP D 4 ∨ s = false ∧ atT Z N D 4 = b * atP D 4 := by simpa using p1.symm
  have q2 : atT Y N D 4 < d * atP D 4 ∨ u = false ∧ atT Y N D 4 = d * atP D 4 := by simpa using p2.symm
  generalize atT Z N D 4 = t1 at *
  generalize atT Y N D 4 = t2 at *
  generalize b * atP D 4 = c1 at *
  generalize d * atP D 4 = c2 at *
  have l1 : m * t1 ≤ m * c1 := Int.mul_le_mul_of_nonneg_left (by omega) hm
  have l2 : k * t2 ≤ k * c2 := Int.mul_le_mul_of_nonneg_left (by omega) hk
  rw [decide_eq_true_eq]
  by_cases hlt : m * t1 + k * t2 < m * c1 + k * c2
  · exact .inl hlt
  · refine .inr ⟨?_, by omega⟩
    have f1 : (s && decide (0 < m)) = false := by
      cases s
      · rfl
      · by_cases h0 : 0 < m
        · have := Int.mul_lt_mul_of_pos_left (show t1 < c1 by simpa using q1) h0
          omega
        · simp [h0]
    have f2 : (u && decide (0 < k)) = false := by
      cases u
      · rfl
      · by_cases h0 : 0 < k
        · have := Int.mul_lt_mul_of_pos_left (show t2 < c2 by simpa using q2) h0
          omega
        · simp [h0]
    unfold strB
    rw [f1, f2]; rfl
end Go.Proofs.Ytbdmofmoegmigaa
