/- The text of a constraint: contract of the program's LinText. -/
import Derived.Test.YtcnlolocppbcjaaDoorLinTZ
import Derived.Test.YtcnlolocppbcjaaDoorDec
import Derived.Test.YtcnlolocppbcjaaDoorBldK
namespace Go.Proofs.YtcnlolocppbcjaaDoor
set_option linter.unusedVariables false
set_option linter.unusedSimpArgs false
open Go.Shelf Go.RowKit Go.Joins
/-- the text of the first k coefficients -/
def coefT (Z : Nat → Int) : Nat → List UInt8
  | 0 => []
  | k + 1 => coefT Z k ++ Lib.itoa (Z k) ++ [32]
def sgnT (s : Bool) : List UInt8 := if s = true then [60] else [60, 61]
def linT (Z : Nat → Int) (b : Int) (s : Bool) : List UInt8 := coefT Z 4 ++ sgnT s ++ [32] ++ Lib.itoa b
def linTxt (n : Nat) (Z : Nat → Int) (b : Int) (s : Bool) : List UInt8 := if okL n Z b = true then linT Z b s else []
theorem itoa_len20 {n : Int} (h : -1000000000 ≤ n ∧ n ≤ 1000000000) : (Lib.itoa n).length ≤ 20 := by
  by_cases h0 : n < 0
  · rw [itoa_neg h0, List.length_cons]; have := dec_len (u := n.natAbs) (by omega); omega
  · obtain ⟨m, rfl⟩ : ∃ m : Nat, n = (m : Int) := ⟨n.toNat, by omega⟩
    rw [itoa_nat]; have := dec_len (u := m) (by omega); omega
theorem coefT_len {Z : Nat → Int} : ∀ {k}, (∀ j, j < k → -1000000 ≤ Z j ∧ Z j ≤ 1000000) → (coefT Z k).length ≤ 21 * k
  | 0, _ => by simp [coefT]
  | k + 1, h => by
    have ih := coefT_len (k := k) (fun j hj => h j (by omega))
    have h1 := itoa_len20 (n := Z k) (by have := h k (by omega); omega)
    rw [coefT, List.length_append, List.length_append]
    simp only [List.length_cons, List.length_nil]
    omega
theorem okL_z {n : Nat} {Z : Nat → Int} {b : Int} (h : okL n Z b = true) : ∀ j, j < 4 → -1000000 ≤ Z j ∧ Z j ≤ 1000000 := fun j hj => by
  obtain ⟨b0, b1, b2, b3, _⟩ := okL_bd4 h
  rcases lt4 hj with rfl | rfl | rfl | rfl <;> assumption
theorem linT_len {n : Nat} {Z : Nat → Int} {b : Int} {s : Bool} (h : okL n Z b = true) : (linT Z b s).length ≤ 120 := by
  have h1 := coefT_len (k := 4) (okL_z h)
  have h2 := itoa_len20 (n := b) (by have := (okL_bd4 h).2.2.2.2; omega)
  have h3 : (sgnT s).length ≤ 2 := by cases s <;> decide
  unfold linT
  rw [List.length_append, List.length_append, List.length_append]
  simp only [List.length_cons, List.length_nil]
  omega
end Go.Proofs.YtcnlolocppbcjaaDoor
