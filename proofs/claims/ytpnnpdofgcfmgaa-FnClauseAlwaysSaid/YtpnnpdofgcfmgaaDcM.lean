/- Mathematics of FnClauseOf and FnClauseAlways. -/
import Derived.Test.YtpnnpdofgcfmgaaCfA
import Derived.Test.YtpnnpdofgcfmgaaCbB
namespace Go.Proofs.Ytpnnpdofgcfmgaa
set_option linter.unusedVariables false
set_option linter.unusedSimpArgs false
open Go.RowKit
theorem st_mem {Z : Nat → Int} : ∀ {k u : Nat}, stC Z k u ≠ 0 → ∃ j, j < k ∧ stC Z k u = Z j
  | 0, u, h => absurd rfl h
  | k + 1, u, h => by
    have e : stC Z (k + 1) u = if u = (ab6 (Z k)).toNat then Z k else stC Z k u := rfl
    rw [e] at h ⊢
    split at h
    · rename_i e2; rw [if_pos e2]; exact ⟨k, by omega, rfl⟩
    · rename_i e2; rw [if_neg e2]
      obtain ⟨j, h1, h2⟩ := st_mem h
      exact ⟨j, by omega, h2⟩
theorem okF_le {n k : Nat} {Z : Nat → Int} (h : OkF n Z) (hk : k ≤ n) : OkF k Z := fun j hj => h j (by omega)
theorem st_at {Z : Nat → Int} : ∀ {k : Nat}, OkF k Z → ∀ j, j < k → stC Z k (ab6 (Z j)).toNat = Z j
  | 0, _, j, hj => by omega
  | k + 1, h, j, hj => by
    have e : stC Z (k + 1) (ab6 (Z j)).toNat = if (ab6 (Z j)).toNat = (ab6 (Z k)).toNat then Z k else stC Z k (ab6 (Z j)).toNat := rfl
    rw [e]
    by_cases hjk : j = k
    · subst hjk; rw [if_pos rfl]
    · have ih := st_at (okF_le h (Nat.le_succ k)) j (by omega)
      split
      · rename_i e2
        obtain ⟨ho, hne⟩ := h k (by omega)
        obtain ⟨hoj, _⟩ := h j hj
        rw [e2] at ih
        rcases wf_at (wf_st (Z := Z) (k := k) (fun i hi => (h i (by omega)).1)) ho rfl (by rw [ih]; exact (ofC_iff.1 hoj).1) with h1 | h1
        · rw [← h1, ih]
        · exact absurd h1 hne
      · exact ih
theorem mem_clR {n : Nat} {Z : Nat → Int} (h : OkF n Z) (y : Int) : y ∈ clR n Z ↔ ∃ j, j < n ∧ Z j = y := by
  rw [clR_yes h]
  constructor
  · intro hy
    obtain ⟨u, _, _, rfl, h0⟩ := segL_mem hy
    obtain ⟨j, h1, h2⟩ := st_mem h0
    exact ⟨j, h1, h2.symm⟩
  · rintro ⟨j, hj, rfl⟩
    obtain ⟨v, e1, e2, e3, e4, _, e6, _⟩ := of_rng (h j hj).1
    have hs := st_at h j hj
    rw [e4] at hs
    rw [seg_split _ e3, if_neg (by rw [hs]; exact e6), hs]
    simp
theorem getD_memC {l : List Int} {k : Nat} (h : k < l.length) : l.getD k 0 ∈ l := by
  rw [List.getD_eq_getElem?_getD, List.getElem?_eq_getElem h]; exact List.getElem_mem h
theorem mem_getDC {l : List Int} {y : Int} (h : y ∈ l) : ∃ k, k < l.length ∧ l.getD k 0 = y := by
  obtain ⟨k, hk, e⟩ := List.getElem_of_mem h
  exact ⟨k, hk, by rw [List.getD_eq_getElem?_getD, List.getElem?_eq_getElem hk]; exact e⟩
/-- a clause is true just as its list of literals is -/
theorem clB_clR {n N : Nat} {Z : Nat → Int} {V : Nat → Bool} (h : OkF n Z) : clB (clR n Z).length (fun k => (clR n Z).getD k 0) N V = clB n Z N V := by
  unfold clB
  congr 1
  refine propext ⟨fun ⟨k, hk, h1⟩ => ?_, fun ⟨j, hj, h1⟩ => ?_⟩
  · obtain ⟨j, hj, e⟩ := (mem_clR h _).1 (getD_memC hk)
    exact ⟨j, hj, by rw [e]; exact h1⟩
  · obtain ⟨k, hk, e⟩ := mem_getDC ((mem_clR h (Z j)).2 ⟨j, hj, rfl⟩)
    exact ⟨k, hk, by show isC ((clR n Z).getD k 0) N V = true; rw [e]; exact h1⟩
theorem stC_congr {Z Y : Nat → Int} : ∀ {k : Nat}, (∀ j, j < k → Z j = Y j) → stC Z k = stC Y k
  | 0, _ => rfl
  | k + 1, h => by
    show updC (stC Z k) (Z k) = updC (stC Y k) (Y k)
    rw [stC_congr (fun j hj => h j (by omega)), h k (by omega)]
theorem getD_left {l m : List Int} {k : Nat} (h : k < l.length) : (l ++ m).getD k 0 = l.getD k 0 := by
  rw [List.getD_eq_getElem?_getD, List.getElem?_append_left h, ← List.getD_eq_getElem?_getD]
theorem getD_last (l : List Int) (x : Int) : (l ++ [x]).getD l.length 0 = x := by
  rw [List.getD_eq_getElem?_getD, List.getElem?_append_right (Nat.le_refl _)]; simp
/-- the clause of a clause -/
theorem seg_ok {S : Nat → Int} (hW : WfC S) : ∀ d, d ≤ 61 → OkF (segL S 0 d).length (fun k => (segL S 0 d).getD k 0) ∧ stC (fun k => (segL S 0 d).getD k 0) (segL S 0 d).length = (fun u => if u < d then S u else 0) ∧ okC (segL S 0 d).length (fun k => (segL S 0 d).getD k 0) 60 = true
  | 0, _ => by
    refine ⟨fun j hj => by simp [segL] at hj, ?_, okC_iff.2 ⟨by omega, by omega, fun k hk => by simp [segL] at hk⟩⟩
    funext u
    simp [segL, stC]
  | d + 1, hd => by
    obtain ⟨h1, h2, h3⟩ := seg_ok hW d (by omega)
    have hs := segL_succ S 0 d
    rw [Nat.zero_add] at hs
    by_cases h0 : S d = 0
    · rw [if_pos h0, List.append_nil] at hs
      rw [hs]
      refine ⟨h1, ?_, h3⟩
      rw [h2]
      funext u
      by_cases e : u = d
      · subst e; simp [h0]
      · by_cases e2 : u < d
        · rw [if_pos e2, if_pos (by omega)]
        · rw [if_neg e2, if_neg (by omega)]
    · rw [if_neg h0] at hs
      obtain ⟨w1, w2, w3⟩ := hW d h0
      have hn : (segL S 0 (d + 1)).length = (segL S 0 d).length + 1 := by rw [hs]; simp
      have hl : ∀ k, k < (segL S 0 d).length → (segL S 0 (d + 1)).getD k 0 = (segL S 0 d).getD k 0 := fun k hk => by rw [hs]; exact getD_left hk
      have hx : (segL S 0 (d + 1)).getD (segL S 0 d).length 0 = S d := by rw [hs]; exact getD_last _ _
      have hst : stC (fun k => (segL S 0 (d + 1)).getD k 0) (segL S 0 d).length = fun u => if u < d then S u else 0 := by
        rw [stC_congr (Y := fun k => (segL S 0 d).getD k 0) hl]; exact h2
      have hof : ofC (S d) 60 = true := by
        have := ab6_le (x := S d) (m := 60) (by omega) (by omega)
        exact ofC_iff.2 ⟨h0, this.1, this.2.1⟩
      have hto : (ab6 (S d)).toNat = d := by omega
      rw [hn]
      refine ⟨fun j hj => ?_, ?_, ?_⟩
      · by_cases e : j = (segL S 0 d).length
        · subst e
          simp only [hx]
          refine ⟨hof, ?_⟩
          rw [hst, hto]
          simp only [Nat.lt_irrefl, if_false]
          omega
        · have hj' : j < (segL S 0 d).length := by omega
          have := h1 j hj'
          simp only [hl j hj']
          rw [stC_congr (Z := fun k => (segL S 0 (d + 1)).getD k 0) (Y := fun k => (segL S 0 d).getD k 0) (fun i hi => hl i (by omega))]
          exact this
      · show updC (stC _ (segL S 0 d).length) _ = _
        rw [hst]
        simp only [hx]
        funext u
        unfold updC
        rw [hto]
        by_cases e : u = d
        · subst e; simp
        · rw [if_neg e]
          show (if u < d then S u else 0) = _
          by_cases e2 : u < d
          · rw [if_pos e2, if_pos (by omega)]
          · rw [if_neg e2, if_neg (by omega)]
      · rw [okC_iff]
        obtain ⟨_, _, h6⟩ := okC_iff.1 h3
        refine ⟨by omega, by omega, fun k hk => ?_⟩
        by_cases e : k = (segL S 0 d).length
        · subst e
          simp only [hx]
          refine ⟨?_, by omega⟩
          rw [w1]
          cases hz : (segL S 0 d).length with
          | zero => show (0 : Int) < _; omega
          | succ q =>
              show ab6 ((segL S 0 (d + 1)).getD q 0) < _
              rw [hl q (by omega)]
              exact seg_lt hW (getD_memC (by omega))
        · have hk' : k < (segL S 0 d).length := by omega
          have := h6 k hk'
          simp only [hl k hk']
          refine ⟨?_, this.2⟩
          cases k with
          | zero => exact this.1
          | succ q =>
              show ab6 ((segL S 0 (d + 1)).getD q 0) < _
              rw [hl q (by omega)]
              exact this.1
theorem clR_ok {n : Nat} {Z : Nat → Int} (h : OkF n Z) : okC (clR n Z).length (fun k => (clR n Z).getD k 0) 60 = true := by
  rw [clR_yes h]; exact (seg_ok (wf_st (fun j hj => (h j hj).1)) 61 (Nat.le_refl _)).2.2
theorem clR_okF {n : Nat} {Z : Nat → Int} (h : OkF n Z) : OkF (clR n Z).length (fun k => (clR n Z).getD k 0) := by
  rw [clR_yes h]; exact (seg_ok (wf_st (fun j hj => (h j hj).1)) 61 (Nat.le_refl _)).1
theorem clR_clR {n : Nat} {Z : Nat → Int} (h : OkF n Z) : clR (clR n Z).length (fun k => (clR n Z).getD k 0) = clR n Z := by
  rw [clR_yes (clR_okF h)]
  rw [clR_yes h]
  rw [(seg_ok (wf_st (fun j hj => (h j hj).1)) 61 (Nat.le_refl _)).2.1]
  exact segL_congr (fun u _ hu => by show (if u < 61 then _ else _) = _; rw [if_pos (by omega)])
theorem isC_or {x : Int} {N : Nat} {V : Nat → Bool} (h : ofC x N = true) : isC x N V = true ∨ isC (-x) N V = true := by
  obtain ⟨k, hk, rfl | rfl⟩ := ofC_cases h
  · rw [isC_pos hk, isC_neg hk]; cases V k <;> simp
  · rw [isC_neg hk, Int.neg_neg, isC_pos hk]; cases V k <;> simp
/-- literals of which one is the negation of another: one of them is true -/
theorem always {n N : Nat} {Z : Nat → Int} {V : Nat → Bool} (h : ¬ OkF n Z) (hN : N ≤ 60) (hZ : ∀ j, j < n → ofC (Z j) N = true) : clB n Z N V = true := by
  have h6 : ∀ j, j < n → ofC (Z j) 60 = true := fun j hj => by
    obtain ⟨a, b, c⟩ := ofC_iff.1 (hZ j hj)
    exact ofC_iff.2 ⟨a, by omega, by omega⟩
  have hex : ∃ j, j < n ∧ stC Z j (ab6 (Z j)).toNat = -Z j := Classical.byContradiction fun hc => h fun j hj => ⟨h6 j hj, fun e => hc ⟨j, hj, e⟩⟩
  obtain ⟨j, hj, e⟩ := hex
  have h0 := (ofC_iff.1 (hZ j hj)).1
  obtain ⟨i, hi, e2⟩ := st_mem (Z := Z) (k := j) (u := (ab6 (Z j)).toNat) (by rw [e]; omega)
  rw [e] at e2
  rcases isC_or (V := V) (hZ j hj) with h1 | h1
  · exact clB_iff.2 ⟨j, hj, h1⟩
  · exact clB_iff.2 ⟨i, by omega, by rw [← e2]; exact h1⟩
end Go.Proofs.Ytpnnpdofgcfmgaa
