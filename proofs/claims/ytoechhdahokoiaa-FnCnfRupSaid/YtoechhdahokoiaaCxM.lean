/- Mathematics of FnCnfRup: unit propagation ends; a clause that is given follows; what follows so is so. -/
import Derived.Test.YtoechhdahokoiaaCsW
namespace Go.Proofs.Ytoechhdahokoiaa
set_option linter.unusedVariables false
set_option linter.unusedSimpArgs false
theorem ur_least {n : Nat} {P : Nat → Prop} : (∀ i, i < n → P i) ∨ ∃ i, i < n ∧ ¬ P i ∧ ∀ j, j < i → P j := by
  induction n with
  | zero => exact .inl fun i h => absurd h (by omega)
  | succ n ih =>
    rcases ih with h | ⟨i, h1, h2, h3⟩
    · by_cases hp : P n
      · exact .inl fun i hi => by
          by_cases e : i = n
          · subst e; exact hp
          · exact h i (by omega)
      · exact .inr ⟨n, by omega, hp, h⟩
    · exact .inr ⟨i, by omega, h2, h3⟩
theorem Ur.some_ {n : Nat} {L : Lls} (hL : LitL n L) : ∀ (f : Nat) (T : List Int), GoU 60 T → frU 60 T ≤ f → ∃ l r, Ur n L T l r
  | f, T, hg, hf => by
    rcases ur_least (n := n) (P := fun i => Idle (L.N i) (L.Z i) T) with h | ⟨i, hi, h1, h2⟩
    · exact ⟨T, false, .stop T h⟩
    · by_cases hF : Fal (L.N i) (L.Z i) T
      · exact ⟨T, true, .bad T i hi hF h2⟩
      · have : ∃ x, Uni (L.N i) (L.Z i) T x := Classical.byContradiction fun hn => h1 ⟨hF, fun x hx => hn ⟨x, hx⟩⟩
        obtain ⟨x, hx⟩ := this
        have hof := hL i hi x hx.1
        have hfr := frU_push (m := 60) hof hx.2.1
        match f, hf with
        | 0, hf => omega
        | f + 1, hf =>
          obtain ⟨l, r, hr⟩ := Ur.some_ hL f (T ++ [x]) (.push T x hg hof hx.2.1) (by omega)
          exact ⟨l, r, .step T i x l r hi hx h2 hr⟩
theorem atU_all {N : Nat} {Z : Nat → Int} {m : Int} (h : OkC N Z m) {k : Nat} (hk : k < N) : atU (putL N (negZ Z)) (Z k) = -1 := by
  have hz := ofC_iff.1 ((okC_facts h).2.2 (Z k) ⟨k, hk, rfl⟩).2
  refine atU_found hk (fun j hj => ?_) (by decide) ?_
  · have hl := ab6_up h k hk j hj
    have h6 := ofC_iff.1 ((okC_facts h).2.2 (Z j) ⟨j, by omega, rfl⟩).2
    rw [ab6_in (by omega) (by omega), ab6_in (by omega) (by omega)] at hl
    unfold negZ
    split at hl <;> split at hl <;> omega
  · unfold negZ
    rw [atU_one, if_neg (by omega), if_pos rfl]
/-- a given clause follows -/
theorem rup_self {n : Nat} {L : Lls} {m : Int} {i : Nat} (h : cnB n L m = true) (hi : i < n) : rupB n L m (L.N i) (L.Z i) = true := by
  obtain ⟨n4, m0, m60, hL, _, _⟩ := cn_facts h
  have hok := (cnB_iff.1 h).2.2.2 i hi
  have hOk := okC_iff.1 hok
  have hG := goU_neg hOk (L.N i) (Nat.le_refl _)
  obtain ⟨l, r, hu⟩ := Ur.some_ hL _ _ (hG.mono m60) (Nat.le_refl _)
  rw [rupB_is hok (show UnR n L m _ l r from .inl ⟨h, hG, hu⟩)]
  cases r with
  | true => rfl
  | false =>
    obtain ⟨R, hR⟩ := hu.pre
    exact absurd (fun x ⟨k, hk, e⟩ => by
      rw [← e, hR, atU_append, atU_all hOk hk]
      rfl) (hu.ends i hi).1
/-- what follows is so, where all clauses are so -/
theorem rup_true {n : Nat} {L : Lls} {m : Int} {N M : Nat} {Z : Nat → Int} {V : Nat → Bool} (h : rupB n L m N Z = true) (hc : ciB n L m M V = true) : clB N Z M V = true := by
  obtain ⟨c1, c2, c3⟩ := ciB_iff.1 hc
  have hh : okC N Z m = true ∧ ∃ l, UnR n L m (putL N (negZ Z)) l true := by
    unfold rupB at h
    exact @of_decide_eq_true _ (Classical.propDecidable _) h
  obtain ⟨hok, l, hu⟩ := hh
  rcases hu with ⟨_, _, hu⟩ | ⟨_, _, h⟩
  · cases hcl : clB N Z M V with
    | true => rfl
    | false =>
      have hOk := okC_iff.1 hok
      have := (un_true c3 (fun i hi x hx => by rw [c2]; exact ((okC_facts (okC_iff.1 ((cnB_iff.1 c1).2.2.2 i hi))).2.2 x hx).1) hu (fun x hx => by
        obtain ⟨k, hk, rfl⟩ := List.mem_map.1 hx
        have hk' := List.mem_range.1 hk
        unfold negZ
        rw [isC_neg' (by rw [c2]; exact ((okC_facts hOk).2.2 _ ⟨k, hk', rfl⟩).1)]
        cases hz : isC (Z k) M V
        · rfl
        · rw [clB_iff.2 ⟨k, hk', hz⟩] at hcl; cases hcl)).2
      cases this
  · cases h
end Go.Proofs.Ytoechhdahokoiaa
