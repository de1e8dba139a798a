/- Several texts in one: LinAM, LinUM, FvA. -/
import Derived.Test.YtplocljoanaoeaaBM
import Derived.Test.YtplocljoanaoeaaLinSB
import Derived.Test.YtplocljoanaoeaaB6
import Derived.Test.YtplocljoanaoeaaBZ
namespace Go.Proofs.Ytplocljoanaoeaa
set_option linter.unusedVariables false
set_option linter.unusedSimpArgs false
theorem atB_true {n m : Nat} {Z N D : Nat → Int} {b : Int} {s p : Bool} (h : atB n Z b s m N D = (p, true)) : okL n Z b = true ∧ valsB m N D = true ∧ ∃ x y, atS Z N D 4 = (x, y, true) ∧ p = keepB x y b s := by
  cases h1 : okL n Z b
  · rw [atB_no1 h1] at h; simp at h
  cases h2 : valsB m N D
  · rw [atB_no2 h2] at h; simp at h
  rcases atS_cases Z N D 4 with h3 | ⟨x, y, h3⟩
  · rw [atB_no3 (by rw [h3])] at h; simp at h
  · rw [atB_yes h1 h2 h3] at h
    exact ⟨rfl, rfl, x, y, h3, by simpa using (Prod.mk.inj h).1.symm⟩
theorem at_loose {n m : Nat} {Z N D : Nat → Int} {b : Int} {s p : Bool} (h : atB n Z b s m N D = (p, true)) : ∃ a, atB n Z b false m N D = (a, true) ∧ (p = true → a = true) := by
  obtain ⟨h1, h2, x, y, h3, rfl⟩ := atB_true h
  have hb := inC_iff.1 (okL_iff.1 h1).2.2
  refine ⟨_, atB_yes h1 h2 h3, fun hp => ?_⟩
  rw [keep_iff (at_spec h3).1 hb] at hp ⊢
  simp only [decide_eq_true_eq, true_and] at hp ⊢
  rcases hp with hp | ⟨_, hp⟩
  · exact .inl hp
  · exact .inr hp
theorem at_twice {n m : Nat} {Z N D : Nat → Int} {b : Int} {s p : Bool} {R : LinR} (h : atB n Z b s m N D = (p, true)) (hs : sumR n Z b s 2 4 (fun _ => 0) 0 false 1 = (R, true)) :
    (atB R.1 R.2.1 R.2.2.1 R.2.2.2 m N D).2 = true → (atB R.1 R.2.1 R.2.2.1 R.2.2.2 m N D).1 = p := by
  obtain ⟨h1, h2, x, y, h3, rfl⟩ := atB_true h
  have hb := inC_iff.1 (okL_iff.1 h1).2.2
  unfold sumR at hs
  rw [if_pos ⟨h1, by decide, by omega, by omega⟩] at hs
  unfold addR2 at hs
  by_cases hk : okL 4 (addZ Z 2 (fun _ => 0) 1) (b * 2 + 0 * 1) = true
  · rw [if_pos hk] at hs
    obtain rfl := (Prod.mk.inj hs).1
    simp only
    intro hq
    have hb2 := inC_iff.1 (okL_iff.1 hk).2.2
    rcases atS_cases (addZ Z 2 (fun _ => 0) 1) N D 4 with h4 | ⟨u, v, h4⟩
    · rw [atB_no3 (by rw [h4])] at hq; simp at hq
    · rw [atB_yes hk h2 h4]
      simp only
      rw [keep_at h4 hb2, keep_at h3 hb]
      have hT : atT (addZ Z 2 (fun _ => 0) 1) N D 4 = 2 * atT Z N D 4 := by
        have e := atT_sum Z (fun _ => 0) N D 2 0 4
        rw [← atT_congr (Z := fun j => 2 * Z j + 0 * 0) (fun j hj => by simp [addZ]; omega), e]; simp
      have hS : strB s 2 false 1 = s := by unfold strB; simp
      have hM : (b * 2 + 0 * 1) * atP D 4 = 2 * (b * atP D 4) := by grind
      rw [hT, hS, hM, decide_eq_decide]
      generalize b * atP D 4 = t
      generalize atT Z N D 4 = r
      cases s
      · simp only [true_and]; omega
      · simp only [reduceCtorEq, false_and, or_false]; omega
  · rw [if_neg hk] at hs; simp at hs
end Go.Proofs.Ytplocljoanaoeaa

namespace Go.Proofs.Ytplocljoanaoeaa
set_option linter.unusedVariables false
set_option linter.unusedSimpArgs false
theorem sum_comm (na : Nat) (Z : Nat → Int) (b : Int) (s : Bool) (m : Int) (nb : Nat) (Y : Nat → Int) (d : Int) (u : Bool) (k : Int) : sumR nb Y d u k na Z b s m = sumR na Z b s m nb Y d u k := by
  have e1 : addZ Y k Z m = addZ Z m Y k := by funext j; simp only [addZ]; rw [Int.add_comm]
  have e2 : d * k + b * m = b * m + d * k := Int.add_comm _ _
  have e3 : strB u k s m = strB s m u k := by unfold strB; rw [Bool.or_comm]
  unfold sumR addR2
  rw [e1, e2, e3]
  by_cases h : okL na Z b = true ∧ okL nb Y d = true ∧ (0 ≤ m ∧ m ≤ 1000000) ∧ (0 ≤ k ∧ k ≤ 1000000)
  · rw [if_pos h, if_pos ⟨h.2.1, h.1, h.2.2.2, h.2.2.1⟩]
  · rw [if_neg h, if_neg (fun x => h ⟨x.2.1, x.1, x.2.2.2, x.2.2.1⟩)]
theorem sum_true {na nb : Nat} {Z Y : Nat → Int} {b d m k : Int} {s u : Bool} {R : LinR} (hs : sumR na Z b s m nb Y d u k = (R, true)) :
    okL na Z b = true ∧ okL nb Y d = true ∧ 0 ≤ m ∧ 0 ≤ k ∧ okL 4 (addZ Z m Y k) (b * m + d * k) = true ∧ R = (4, addZ Z m Y k, b * m + d * k, strB s m u k) := by
  unfold sumR at hs
  by_cases h : okL na Z b = true ∧ okL nb Y d = true ∧ (0 ≤ m ∧ m ≤ 1000000) ∧ (0 ≤ k ∧ k ≤ 1000000)
  · rw [if_pos h] at hs
    unfold addR2 at hs
    by_cases hk : okL 4 (addZ Z m Y k) (b * m + d * k) = true
    · rw [if_pos hk] at hs
      exact ⟨h.1, h.2.1, h.2.2.1.1, h.2.2.2.1, hk, (Prod.mk.inj hs).1.symm⟩
    · rw [if_neg hk] at hs; simp at hs
  · rw [if_neg h] at hs; simp at hs
theorem sum_ok {na nb : Nat} {Z Y : Nat → Int} {b d m k : Int} {s u : Bool} {R : LinR} (hs : sumR na Z b s m nb Y d u k = (R, true)) : okL R.1 R.2.1 R.2.2.1 = true := by
  obtain ⟨_, _, _, _, h, rfl⟩ := sum_true hs
  exact h
theorem sum_R4 (na nb : Nat) (Z Y : Nat → Int) (b d m k : Int) (s u : Bool) : (sumR na Z b s m nb Y d u k).1.1 ≤ 4 := by
  unfold sumR addR2
  split
  · split <;> simp [zeroL]
  · simp [zeroL]
theorem at_sum {na nb v : Nat} {Z Y N D : Nat → Int} {b d m k : Int} {s u : Bool} {R : LinR} (hs : sumR na Z b s m nb Y d u k = (R, true))
    (h1 : atB na Z b s v N D = (true, true)) (h2 : atB nb Y d u v N D = (true, true)) {r : Bool} (h3 : atB R.1 R.2.1 R.2.2.1 R.2.2.2 v N D = (r, true)) : r = true := by
  obtain ⟨_, _, hm, hk, hok, rfl⟩ := sum_true hs
  obtain ⟨g1, _, x1, y1, a1, p1⟩ := atB_true h1
  obtain ⟨g2, _, x2, y2, a2, p2⟩ := atB_true h2
  obtain ⟨g3, _, x3, y3, a3, rfl⟩ := atB_true h3
  simp only at a3 g3
  have b1 := inC_iff.1 (okL_iff.1 g1).2.2
  have b2 := inC_iff.1 (okL_iff.1 g2).2.2
  have b3 := inC_iff.1 (okL_iff.1 g3).2.2
  rw [keep_at a1 b1] at p1
  rw [keep_at a2 b2] at p2
  simp only
  rw [keep_at a3 b3]
  have hT : atT (addZ Z m Y k) N D 4 = m * atT Z N D 4 + k * atT Y N D 4 := by
    rw [← atT_sum, atT_congr (fun j hj => by simp only [addZ]; rw [Int.mul_comm (Z j), Int.mul_comm (Y j)])]
  have hM : (b * m + d * k) * atP D 4 = m * (b * atP D 4) + k * (d * atP D 4) := by grind
  rw [hT, hM]
  have q1 : atT Z N D 4 < b * atP D 4 ∨ s = false ∧ atT Z N D 4 = b * atP D 4 := by simpa using p1.symm
  have q2 : atT Y N D 4 < d * atP D 4 ∨ u = false ∧ atT Y N D 4 = d * atP D 4 := by simpa using p2.symm
  generalize atT Z N D 4 = t1 at *
  generalize atT Y N D 4 = t2 at *
  generalize b * atP D 4 = c1 at *
  generalize d * atP D 4 = c2 at *
  have l1 : m * t1 ≤ m * c1 := Int.mul_le_mul_of_nonneg_left (by omega) hm
  have l2 : k * t2 ≤ k * c2 := Int.mul_le_mul_of_nonneg_left (by omega) hk
  rw [decide_eq_true_eq]
  by_cases hlt : m * t1 + k * t2 < m * c1 + k * c2
  · exact .inl hlt
  · refine .inr ⟨?_, by omega⟩
    have f1 : (s && decide (0 < m)) = false := by
      cases s
      · rfl
      · by_cases h0 : 0 < m
        · have := Int.mul_lt_mul_of_pos_left (show t1 < c1 by simpa using q1) h0
          omega
        · simp [h0]
    have f2 : (u && decide (0 < k)) = false := by
      cases u
      · rfl
      · by_cases h0 : 0 < k
        · have := Int.mul_lt_mul_of_pos_left (show t2 < c2 by simpa using q2) h0
          omega
        · simp [h0]
    unfold strB
    rw [f1, f2]; rfl
end Go.Proofs.Ytplocljoanaoeaa

namespace Go.Proofs.Ytplocljoanaoeaa
set_option linter.unusedVariables false
set_option linter.unusedSimpArgs false
open Go.RowKit
/-- a constraint holds exactly at numbers N over D -/
def hoB (Z : Nat → Int) (b : Int) (s : Bool) (N D : Nat → Int) : Prop := atT Z N D 4 < b * atP D 4 ∨ s = false ∧ atT Z N D 4 = b * atP D 4
theorem ho_iff {n v : Nat} {Z N D : Nat → Int} {b : Int} {s p : Bool} (h : atB n Z b s v N D = (p, true)) : p = true ↔ hoB Z b s N D := by
  obtain ⟨g1, _, x1, y1, a1, rfl⟩ := atB_true h
  rw [keep_at a1 (inC_iff.1 (okL_iff.1 g1).2.2), decide_eq_true_iff]
  rfl
theorem ho_sum {Z Y N D : Nat → Int} {b d m k : Int} {s u : Bool} (hm : 0 ≤ m) (hk : 0 ≤ k) (h1 : hoB Z b s N D) (h2 : hoB Y d u N D) : hoB (addZ Z m Y k) (b * m + d * k) (strB s m u k) N D := by
  unfold hoB at *
  have hT : atT (addZ Z m Y k) N D 4 = m * atT Z N D 4 + k * atT Y N D 4 := by
    rw [← atT_sum, atT_congr (fun j hj => by simp only [addZ]; rw [Int.mul_comm (Z j), Int.mul_comm (Y j)])]
  have hM : (b * m + d * k) * atP D 4 = m * (b * atP D 4) + k * (d * atP D 4) := by grind
  rw [hT, hM]
  generalize atT Z N D 4 = t1 at *
  generalize atT Y N D 4 = t2 at *
  generalize b * atP D 4 = c1 at *
  generalize d * atP D 4 = c2 at *
  have l1 : m * t1 ≤ m * c1 := Int.mul_le_mul_of_nonneg_left (by omega) hm
  have l2 : k * t2 ≤ k * c2 := Int.mul_le_mul_of_nonneg_left (by omega) hk
  by_cases hlt : m * t1 + k * t2 < m * c1 + k * c2
  · exact .inl hlt
  · refine .inr ⟨?_, by omega⟩
    have f1 : (s && decide (0 < m)) = false := by
      cases s
      · rfl
      · by_cases h0 : 0 < m
        · have := Int.mul_lt_mul_of_pos_left (show t1 < c1 by simpa using h1) h0
          omega
        · simp [h0]
    have f2 : (u && decide (0 < k)) = false := by
      cases u
      · rfl
      · by_cases h0 : 0 < k
        · have := Int.mul_lt_mul_of_pos_left (show t2 < c2 by simpa using h2) h0
          omega
        · simp [h0]
    unfold strB
    rw [f1, f2]; rfl
theorem ho_zero (N D : Nat → Int) : hoB (fun _ => 0) 0 false N D := .inr ⟨rfl, by simp [atT]⟩
theorem sumS_ho {L : Lst} {T N D : Nat → Int} : ∀ {k : Nat}, (sumS L T k).2 = true → (∀ j, j < k → hoB (L.Z j) (L.B j) (L.S j) N D) → hoB (sumS L T k).1.2.1 (sumS L T k).1.2.2.1 (sumS L T k).1.2.2.2 N D
  | 0, _, _ => ho_zero N D
  | k + 1, h, hs => by
    have hk : (sumS L T k).2 = true := by
      cases e : (sumS L T k).2
      · rw [sumS, if_neg (by rw [e]; simp)] at h; cases h
      · rfl
    have ih := sumS_ho hk (fun j hj => hs j (by omega))
    rw [sumS_succ hk] at h ⊢
    have hR : stepS (sumS L T k).1 L T k = ((stepS (sumS L T k).1 L T k).1, true) := Prod.ext rfl h
    obtain ⟨_, _, hm, hk', _, hR'⟩ := sum_true hR
    rw [hR']
    exact ho_sum hm hk' ih (hs k (by omega))
theorem atP_pos {D : Nat → Int} : ∀ {k : Nat}, (∀ j, j < k → 0 < D j) → 0 < atP D k
  | 0, _ => Int.zero_lt_one
  | k + 1, h => Int.mul_pos (atP_pos (fun j hj => h j (by omega))) (h k (by omega))
theorem bad_ho {n : Nat} {Z N D : Nat → Int} {b : Int} {s : Bool} (h : badB n Z b s = true) (hP : 0 < atP D 4) : ¬ hoB Z b s N D := by
  unfold badB emptyB refB at h
  simp only [Bool.and_eq_true, Bool.or_eq_true, decide_eq_true_eq] at h
  obtain ⟨_, ⟨z0, z1, z2, z3⟩, hb⟩ := h
  have hT : atT Z N D 4 = 0 := by
    rw [atT_congr (Y := fun _ => 0) (fun j hj => by
      rcases lt4 hj with rfl | rfl | rfl | rfl <;> assumption)]
    simp [atT]
  unfold hoB
  rw [hT]
  rcases hb with hb | ⟨rfl, rfl⟩
  · have := Int.mul_neg_of_neg_of_pos hb hP
    omega
  · simp
theorem allB_ho {n v : Nat} {L : Lst} {N D : Nat → Int} (h : allB n L v N D = true) : (∀ j, j < n → hoB (L.Z j) (L.B j) (L.S j) N D) ∧ 0 < atP D 4 := by
  obtain ⟨h1, _, h3⟩ := allB_iff.1 h
  refine ⟨fun j hj => (ho_iff (h1 j hj)).1 rfl, atP_pos fun j hj => ?_⟩
  obtain ⟨rfl, h4⟩ := valsB_iff.1 h3
  exact ok_pos (h4 j hj)
/-- no list has both a solution and a certificate -/
theorem far_never {n v : Nat} {L : Lst} {m : Nat} {T N D : Nat → Int} (h : farOkB (farS n L m T) = true) (ha : allB n L v N D = true) : False := by
  obtain ⟨hs, hP⟩ := allB_ho ha
  unfold farOkB at h
  rw [Bool.and_eq_true] at h
  unfold farS at h
  split at h
  · rename_i e
    exact bad_ho h.2 hP (sumS_ho e.2.2 hs)
  · cases h.1
theorem far_sum {n v : Nat} {L : Lst} {m : Nat} {T N D : Nat → Int} {r : Bool} (h : (farS n L m T).2 = true) (ha : allB n L v N D = true) (hr : atB (farS n L m T).1.1 (farS n L m T).1.2.1 (farS n L m T).1.2.2.1 (farS n L m T).1.2.2.2 4 N D = (r, true)) : r = true := by
  obtain ⟨hs, hP⟩ := allB_ho ha
  rw [ho_iff hr]
  unfold farS at h ⊢
  split at h
  · rename_i e
    rw [if_pos e]
    exact sumS_ho e.2.2 hs
  · cases h
theorem runE_yA {n : Nat} {L : Lst} {N D : Nat → Int} (h : runE n L = .yes N D) : allB n L 4 N D = true := by
  unfold runE at h
  split at h
  · cases h
  · split at h
    · cases h
    · split at h
      · split at h <;> cases h
      · split at h
        · cases h
        · split at h
          · rename_i e; injection h with h1 h2; subst h1; subst h2; exact e
          · cases h
theorem runE_nA {n : Nat} {L : Lst} {U : Nat → Int} (h : runE n L = .no U) : farOkB (farS n L n U) = true := by
  unfold runE at h
  split at h
  · cases h
  · split at h
    · cases h
    · split at h
      · split at h
        · rename_i e; injection h with h1; subst h1; exact e
        · cases h
      · split at h
        · cases h
        · split at h <;> cases h
theorem run_never {n v : Nat} {L : Lst} {N D : Nat → Int} (ha : allB n L v N D = true) : (runE n L).code ≠ 1 := by
  intro h
  cases hr : runE n L with
  | yes N D => rw [hr] at h; simp [FarE.code] at h
  | no U =>
      have := runE_nA hr
      exact far_never this ha
  | much => rw [hr] at h; simp [FarE.code] at h
  | form => rw [hr] at h; simp [FarE.code] at h
end Go.Proofs.Ytplocljoanaoeaa
