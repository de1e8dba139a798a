/- Plain mathematics: a constraint taken twice, and a loose one, at a point. -/
import Derived.Test.YthcabejfmoedfaaDoorBM
import Derived.Test.YthcabejfmoedfaaDoorLinSB
namespace Go.Proofs.YthcabejfmoedfaaDoor
set_option linter.unusedVariables false
set_option linter.unusedSimpArgs false
theorem atB_true {n m : Nat} {Z N D : Nat → Int} {b : Int} {s p : Bool} (h : atB n Z b s m N D = (p, true)) : okL n Z b = true ∧ valsB m N D = true ∧ ∃ x y, atS Z N D 4 = (x, y, true) ∧ p = keepB x y b s := by
  cases h1 : okL n Z b
  · rw [atB_no1 h1] at h; simp at h
  cases h2 : valsB m N D
  · rw [atB_no2 h2] at h; simp at h
  rcases atS_cases Z N D 4 with h3 | ⟨x, y, h3⟩
  · rw [atB_no3 (by rw [h3])] at h; simp at h
  · rw [atB_yes h1 h2 h3] at h
    exact ⟨rfl, rfl, x, y, h3, by simpa using (Prod.mk.inj h).1.symm⟩
theorem at_loose {n m : Nat} {Z N D : Nat → Int} {b : Int} {s p : Bool} (h : atB n Z b s m N D = (p, true)) : ∃ a, atB n Z b false m N D = (a, true) ∧ (p = true → a = true) := by
  obtain ⟨h1, h2, x, y, h3, rfl⟩ := atB_true h
  have hb := inC_iff.1 (okL_iff.1 h1).2.2
  refine ⟨_, atB_yes h1 h2 h3, fun hp => ?_⟩
  rw [keep_iff (at_spec h3).1 hb] at hp ⊢
  simp only [decide_eq_true_eq, true_and] at hp ⊢
  rcases hp with hp | ⟨_, hp⟩
  · exact .inl hp
  · exact .inr hp
theorem at_twice {n m : Nat} {Z N D : Nat → Int} {b : Int} {s p : Bool} {R : LinR} (h : atB n Z b s m N D = (p, true)) (hs : sumR n Z b s 2 4 (fun _ => 0) 0 false 1 = (R, true)) :
    (atB R.1 R.2.1 R.2.2.1 R.2.2.2 m N D).2 = true → (atB R.1 R.2.1 R.2.2.1 R.2.2.2 m N D).1 = p := by
  obtain ⟨h1, h2, x, y, h3, rfl⟩ := atB_true h
  have hb := inC_iff.1 (okL_iff.1 h1).2.2
  unfold sumR at hs
  rw [if_pos ⟨h1, by decide, by omega, by omega⟩] at hs
  unfold addR2 at hs
  by_cases hk : okL 4 (addZ Z 2 (fun _ => 0) 1) (b * 2 + 0 * 1) = true
  · rw [if_pos hk] at hs
    obtain rfl := (Prod.mk.inj hs).1
    simp only
    intro hq
    have hb2 := inC_iff.1 (okL_iff.1 hk).2.2
    rcases atS_cases (addZ Z 2 (fun _ => 0) 1) N D 4 with h4 | ⟨u, v, h4⟩
    · rw [atB_no3 (by rw [h4])] at hq; simp at hq
    · rw [atB_yes hk h2 h4]
      simp only
      rw [keep_at h4 hb2, keep_at h3 hb]
      have hT : atT (addZ Z 2 (fun _ => 0) 1) N D 4 = 2 * atT Z N D 4 := by
        have e := atT_sum Z (fun _ => 0) N D 2 0 4
        rw [← atT_congr (Z := fun j => 2 * Z j + 0 * 0) (fun j hj => by simp [addZ]; omega), e]; simp
      have hS : strB s 2 false 1 = s := by unfold strB; simp
      have hM : (b * 2 + 0 * 1) * atP D 4 = 2 * (b * atP D 4) := by grind
      rw [hT, hS, hM, decide_eq_decide]
      generalize b * atP D 4 = t
      generalize atT Z N D 4 = r
      cases s
      · simp only [true_and]; omega
      · simp only [reduceCtorEq, false_and, or_false]; omega
  · rw [if_neg hk] at hs; simp at hs
end Go.Proofs.YthcabejfmoedfaaDoor
