/- Mathematics of ClauseOf: literals by their variables. -/
import Derived.Test.YtjnngijilkdhbaaCaA
namespace Go.Proofs.Ytjnngijilkdhbaa
set_option linter.unusedVariables false
set_option linter.unusedSimpArgs false
open Go.RowKit
/-- the literals of the variables a to a + d - 1 -/
def segL (S : Nat → Int) (a : Nat) : Nat → List Int
  | 0 => []
  | d + 1 => segL S a d ++ (if S (a + d) = 0 then [] else [S (a + d)])
theorem segL_succ (S : Nat → Int) (a d : Nat) : segL S a (d + 1) = segL S a d ++ (if S (a + d) = 0 then [] else [S (a + d)]) := rfl
theorem segL_app (S : Nat → Int) (a d : Nat) : ∀ e, segL S a (d + e) = segL S a d ++ segL S (a + d) e
  | 0 => by simp [segL]
  | e + 1 => by
    rw [show d + (e + 1) = (d + e) + 1 by omega, segL_succ, segL_app S a d e, segL_succ, List.append_assoc, show a + (d + e) = a + d + e by omega]
theorem segL_len (S : Nat → Int) (a : Nat) : ∀ d, (segL S a d).length ≤ d
  | 0 => Nat.le_refl _
  | d + 1 => by
    rw [segL_succ, List.length_append]
    have := segL_len S a d
    split <;> simp <;> omega
theorem segL_mem {S : Nat → Int} {a : Nat} {y : Int} : ∀ {d}, y ∈ segL S a d → ∃ u, a ≤ u ∧ u < a + d ∧ y = S u ∧ S u ≠ 0
  | 0, h => by simp [segL] at h
  | d + 1, h => by
    rw [segL_succ, List.mem_append] at h
    rcases h with h | h
    · obtain ⟨u, h1, h2, h3, h4⟩ := segL_mem h
      exact ⟨u, h1, by omega, h3, h4⟩
    · split at h
      · simp at h
      · rename_i e
        exact ⟨a + d, by omega, by omega, by simpa using h, e⟩
theorem segL_congr {S R : Nat → Int} {a : Nat} : ∀ {d}, (∀ u, a ≤ u → u < a + d → S u = R u) → segL S a d = segL R a d
  | 0, _ => rfl
  | d + 1, h => by rw [segL_succ, segL_succ, segL_congr (fun u h1 h2 => h u h1 (by omega)), h (a + d) (by omega) (by omega)]
theorem segL_zero (a : Nat) : ∀ d, segL (fun _ => 0) a d = []
  | 0 => rfl
  | d + 1 => by rw [segL_succ, segL_zero a d]; simp
/-- one more literal -/
def updC (S : Nat → Int) (x : Int) : Nat → Int := fun u => if u = (ab6 x).toNat then x else S u
/-- the literals of the first k, by variable -/
def stC (Z : Nat → Int) : Nat → Nat → Int
  | 0 => fun _ => 0
  | k + 1 => updC (stC Z k) (Z k)
/-- each literal stands at its variable -/
def WfC (S : Nat → Int) : Prop := ∀ u, S u ≠ 0 → ab6 (S u) = (u : Int) ∧ 1 ≤ u ∧ u ≤ 60
theorem of_rng {x : Int} (h : ofC x 60 = true) : ∃ v : Nat, ab6 x = (v : Int) ∧ 1 ≤ v ∧ v ≤ 60 ∧ (ab6 x).toNat = v ∧ vrC x = (v : Int) ∧ x ≠ 0 ∧ (x = v ∨ x = -(v : Int)) := by
  obtain ⟨h0, h1, h2⟩ := ofC_iff.1 h
  have e := ab6_in (x := x) (by omega) (by omega)
  have e2 := vrC_of (x := x) (by omega) (by omega)
  refine ⟨(ab6 x).toNat, ?_, ?_, ?_, rfl, ?_, h0, ?_⟩ <;> rw [e] at * <;> (split <;> omega)
theorem wf_upd {S : Nat → Int} {x : Int} (h : WfC S) (hx : ofC x 60 = true) : WfC (updC S x) := by
  intro u hu
  unfold updC at *
  obtain ⟨v, e1, e2, e3, e4, _⟩ := of_rng hx
  split at hu
  · rename_i e
    rw [if_pos e]
    subst e
    rw [e4]
    exact ⟨e1, e2, e3⟩
  · rename_i e
    rw [if_neg e]
    exact h u hu
theorem wf_st {Z : Nat → Int} : ∀ {k}, (∀ j, j < k → ofC (Z j) 60 = true) → WfC (stC Z k)
  | 0, _ => fun u hu => absurd rfl hu
  | k + 1, h => wf_upd (wf_st (fun j hj => h j (by omega))) (h k (by omega))
/-- a list of literals, none of which is the negation of another -/
def OkF (n : Nat) (Z : Nat → Int) : Prop := ∀ j, j < n → ofC (Z j) 60 = true ∧ stC Z j (ab6 (Z j)).toNat ≠ -Z j
instance {n : Nat} {Z : Nat → Int} : Decidable (OkF n Z) := by unfold OkF; infer_instance
def okF (n : Nat) (Z : Nat → Int) : Bool := decide (OkF n Z)
theorem okF_iff {n : Nat} {Z : Nat → Int} : okF n Z = true ↔ OkF n Z := by unfold okF; exact decide_eq_true_iff
theorem okF_no {n : Nat} {Z : Nat → Int} (h : ¬ OkF n Z) : okF n Z = false := by
  cases e : okF n Z
  · rfl
  · exact absurd (okF_iff.1 e) h
/-- what ClauseOf answers -/
def clR (n : Nat) (Z : Nat → Int) : List Int := if okF n Z = true then segL (stC Z n) 0 61 else []
theorem clR_yes {n : Nat} {Z : Nat → Int} (h : OkF n Z) : clR n Z = segL (stC Z n) 0 61 := if_pos (okF_iff.2 h)
theorem clR_no {n : Nat} {Z : Nat → Int} (h : ¬ OkF n Z) : clR n Z = [] := if_neg (by rw [okF_no h]; simp)
theorem clR_len (n : Nat) (Z : Nat → Int) : (clR n Z).length ≤ 61 := by
  unfold clR; split
  · exact segL_len _ _ _
  · simp
/-- the lists before, at and behind a variable -/
theorem seg_split (S : Nat → Int) {v : Nat} (hv : v ≤ 60) : segL S 0 61 = segL S 0 v ++ ((if S v = 0 then [] else [S v]) ++ segL S (v + 1) (60 - v)) := by
  have h1 := segL_app S 0 v (61 - v)
  rw [show v + (61 - v) = 61 by omega] at h1
  have h2 := segL_app S v 1 (60 - v)
  rw [show 1 + (60 - v) = 61 - v by omega] at h2
  rw [h1, Nat.zero_add, h2]
  congr 2
theorem seg_upd {S : Nat → Int} {x : Int} {v : Nat} (hv : (ab6 x).toNat = v) (h1 : v ≤ 60) (hx : x ≠ 0) : segL (updC S x) 0 61 = segL S 0 v ++ (x :: segL S (v + 1) (60 - v)) := by
  have e : updC S x v = x := by unfold updC; rw [if_pos hv.symm]
  rw [seg_split (updC S x) h1, e, if_neg hx]
  rw [segL_congr (S := updC S x) (R := S) (a := 0) (d := v) (fun u _ h => by unfold updC; rw [if_neg (by omega)])]
  rw [segL_congr (S := updC S x) (R := S) (a := v + 1) (d := 60 - v) (fun u h _ => by unfold updC; rw [if_neg (by omega)])]
  rfl
theorem upd_same {S : Nat → Int} {x : Int} (h : S (ab6 x).toNat = x) : updC S x = S := by
  funext u
  unfold updC
  split
  · rename_i e; rw [e, h]
  · rfl
theorem seg_lt {S : Nat → Int} (h : WfC S) {v : Nat} {y : Int} (hy : y ∈ segL S 0 v) : ab6 y < v := by
  obtain ⟨u, _, h2, rfl, h4⟩ := segL_mem hy
  rw [(h u h4).1]; omega
theorem seg_gt {S : Nat → Int} (h : WfC S) {v : Nat} {y : Int} (hy : y ∈ segL S (v + 1) (60 - v)) : (v : Int) < ab6 y := by
  obtain ⟨u, h1, _, rfl, h4⟩ := segL_mem hy
  rw [(h u h4).1]; omega
theorem wf_at {S : Nat → Int} (h : WfC S) {x : Int} {v : Nat} (hx : ofC x 60 = true) (hv : (ab6 x).toNat = v) (h0 : S v ≠ 0) : S v = x ∨ S v = -x := by
  obtain ⟨u, e1, e2, e3, e4, _, _, e5⟩ := of_rng hx
  obtain ⟨f1, f2, f3⟩ := h v h0
  have huv : u = v := by omega
  subst huv
  have hb := ab6_le (x := S u) (m := 60) (by omega) (by omega)
  rw [ab6_in hb.2.2.1 hb.2.2.2] at f1
  split at f1 <;> omega
end Go.Proofs.Ytjnngijilkdhbaa
