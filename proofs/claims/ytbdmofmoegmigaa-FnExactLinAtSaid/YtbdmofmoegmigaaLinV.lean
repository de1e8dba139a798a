/- Plain mathematics of a constraint at a point: the sum of the products, whether it can be told, and what it says. -/
import Derived.Test.YtbdmofmoegmigaaMathC
import Derived.Test.YtbdmofmoegmigaaLinM
namespace Go.Proofs.Ytbdmofmoegmigaa
set_option linter.unusedVariables false
set_option linter.unusedSimpArgs false
/-- one product more -/
def stepR (s : Int × Int × Bool) (z n d : Int) : Int × Int × Bool :=
  if s.2.2 = true ∧ (mulR z 1 n d).2.2 = true then addR s.1 s.2.1 (mulR z 1 n d).1 (mulR z 1 n d).2.1 else (0, 0, false)
/-- the sum of the first k products -/
def atS (Z N D : Nat → Int) : Nat → Int × Int × Bool
  | 0 => (0, 1, true)
  | k + 1 => stepR (atS Z N D k) (Z k) (N k) (D k)
def valsB (n : Nat) (N D : Nat → Int) : Bool := decide (n = 4 ∧ ∀ k, k < n → okB (N k) (D k) = true)
theorem valsB_iff {n : Nat} {N D : Nat → Int} : valsB n N D = true ↔ n = 4 ∧ ∀ k, k < n → okB (N k) (D k) = true := by unfold valsB; exact decide_eq_true_iff
theorem valsB_len {n : Nat} {N D : Nat → Int} (h : n ≠ 4) : valsB n N D = false := by
  cases e : valsB n N D
  · rfl
  · exact absurd (valsB_iff.1 e).1 h
theorem valsB_at {n k : Nat} {N D : Nat → Int} (hk : k < n) (h : okB (N k) (D k) = false) : valsB n N D = false := by
  cases e : valsB n N D
  · rfl
  · have := (valsB_iff.1 e).2 k hk; rw [h] at this; cases this
/-- whether a sum x over y keeps the bound -/
def keepB (x y b : Int) (s : Bool) : Bool := lessB x y b 1 || (!s && (x == b && y == 1))
/-- what is said of a constraint at a point: whether it is so, and whether it can be told -/
def atB (n : Nat) (Z : Nat → Int) (b : Int) (s : Bool) (m : Nat) (N D : Nat → Int) : Bool × Bool :=
  if okL n Z b = true ∧ valsB m N D = true ∧ (atS Z N D 4).2.2 = true then (keepB (atS Z N D 4).1 (atS Z N D 4).2.1 b s, true) else (false, false)
theorem stepR_cases (s : Int × Int × Bool) (z n d : Int) : stepR s z n d = (0, 0, false) ∨ ∃ x y, stepR s z n d = (x, y, true) := by
  unfold stepR; split
  · exact addR_cases _ _ _ _
  · exact .inl rfl
theorem atS_cases (Z N D : Nat → Int) (k : Nat) : atS Z N D k = (0, 0, false) ∨ ∃ x y, atS Z N D k = (x, y, true) := by
  cases k
  · exact .inr ⟨0, 1, rfl⟩
  · exact stepR_cases _ _ _ _
theorem atS_mulno {Z N D : Nat → Int} {k : Nat} (h : (mulR (Z k) 1 (N k) (D k)).2.2 = false) : atS Z N D (k + 1) = (0, 0, false) := by
  show stepR _ _ _ _ = _
  unfold stepR; rw [if_neg (by rw [h]; simp)]
theorem atS_no {Z N D : Nat → Int} {k : Nat} (h : (atS Z N D k).2.2 = false) : atS Z N D (k + 1) = (0, 0, false) := by
  show stepR _ _ _ _ = _
  unfold stepR; rw [if_neg (by rw [h]; simp)]
theorem atS_le {Z N D : Nat → Int} {k m : Nat} (h : (atS Z N D k).2.2 = false) (hkm : k ≤ m) : (atS Z N D m).2.2 = false := by
  induction m with
  | zero => have : k = 0 := by omega
            subst this; exact h
  | succ m ih =>
    by_cases e : k = m + 1
    · subst e; exact h
    · rw [atS_no (ih (by omega))]
theorem atS_none {Z N D : Nat → Int} {k : Nat} (h : (atS Z N D k).2.2 = false) : atS Z N D k = (0, 0, false) := by
  rcases atS_cases Z N D k with e | ⟨x, y, e⟩
  · exact e
  · rw [e] at h; cases h
theorem atS_step {Z N D : Nat → Int} {k : Nat} {x y p q : Int} (h : atS Z N D k = (x, y, true)) (hm : mulR (Z k) 1 (N k) (D k) = (p, q, true)) : atS Z N D (k + 1) = addR x y p q := by
  show stepR _ _ _ _ = _
  unfold stepR; rw [h, hm]; simp
theorem atB_no1 {n m : Nat} {Z N D : Nat → Int} {b : Int} {s : Bool} (h : okL n Z b = false) : atB n Z b s m N D = (false, false) := by unfold atB; rw [if_neg (by rw [h]; simp)]
theorem atB_no2 {n m : Nat} {Z N D : Nat → Int} {b : Int} {s : Bool} (h : valsB m N D = false) : atB n Z b s m N D = (false, false) := by unfold atB; rw [if_neg (by rw [h]; simp)]
theorem atB_no3 {n m : Nat} {Z N D : Nat → Int} {b : Int} {s : Bool} (h : (atS Z N D 4).2.2 = false) : atB n Z b s m N D = (false, false) := by unfold atB; rw [if_neg (by rw [h]; simp)]
theorem atB_yes {n m : Nat} {Z N D : Nat → Int} {b x y : Int} {s : Bool} (h1 : okL n Z b = true) (h2 : valsB m N D = true) (h : atS Z N D 4 = (x, y, true)) : atB n Z b s m N D = (keepB x y b s, true) := by unfold atB; rw [h1, h2, h]; simp
end Go.Proofs.Ytbdmofmoegmigaa
