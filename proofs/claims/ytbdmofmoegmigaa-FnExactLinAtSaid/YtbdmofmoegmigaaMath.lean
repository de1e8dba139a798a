/- Plain mathematics of fractions on integers, with no program in it: lowest terms, the range, the order. -/
import Derived.KernelRfl
namespace Go.Proofs.Ytbdmofmoegmigaa
set_option linter.unusedVariables false
set_option linter.unusedSimpArgs false
def okB (n d : Int) : Bool := decide (-1000000000 ≤ n ∧ n ≤ 1000000000 ∧ 1 ≤ d ∧ d ≤ 1000000000 ∧ Int.gcd n d = 1)
theorem okB_iff {n d : Int} : okB n d = true ↔ (-1000000000 ≤ n ∧ n ≤ 1000000000 ∧ 1 ≤ d ∧ d ≤ 1000000000 ∧ Int.gcd n d = 1) := by unfold okB; exact decide_eq_true_iff
/-- the fraction n/d (d above 0) in lowest terms, or nothing -/
def leastR (n d : Int) : Int × Int × Bool :=
  if -1000000000 ≤ n / Int.gcd n d ∧ n / Int.gcd n d ≤ 1000000000 ∧ d / Int.gcd n d ≤ 1000000000 then (n / Int.gcd n d, d / Int.gcd n d, true) else (0, 0, false)
def ofR (n d : Int) : Int × Int × Bool :=
  if d = 0 ∨ ¬ (-1000000000 ≤ n ∧ n ≤ 1000000000 ∧ -1000000000 ≤ d ∧ d ≤ 1000000000) then (0, 0, false) else if d < 0 then leastR (-n) (-d) else leastR n d
def addR (a b c d : Int) : Int × Int × Bool := if okB a b = true ∧ okB c d = true then leastR (a * d + c * b) (b * d) else (0, 0, false)
def mulR (a b c d : Int) : Int × Int × Bool := if okB a b = true ∧ okB c d = true then leastR (a * c) (b * d) else (0, 0, false)
def lessB (a b c d : Int) : Bool := decide (okB a b = true ∧ okB c d = true ∧ a * d < c * b)
def midR (a b c d : Int) : Int × Int × Bool :=
  if (addR a b c d).2.2 = true then mulR (addR a b c d).1 (addR a b c d).2.1 1 2 else (0, 0, false)
theorem gcd_pos {n d : Int} (hd : 0 < d) : 0 < Int.gcd n d := Int.gcd_pos_of_ne_zero_right _ (by omega)
theorem gcd_emod' (a b : Int) : Int.gcd b (a % b) = Int.gcd a b := by
  rw [Int.gcd_comm a b, Int.emod_def, Int.gcd_sub_mul_left_right]
theorem mul_bd {x y : Int} (A B : Nat) (hx : -(A : Int) ≤ x ∧ x ≤ A) (hy : -(B : Int) ≤ y ∧ y ≤ B) : -((A * B : Nat) : Int) ≤ x * y ∧ x * y ≤ ((A * B : Nat) : Int) := by
  have h := Nat.mul_le_mul (show x.natAbs ≤ A by omega) (show y.natAbs ≤ B by omega)
  rw [← Int.natAbs_mul] at h
  omega
theorem mul_bd9 {x y : Int} (hx : -1000000000 ≤ x ∧ x ≤ 1000000000) (hy : -1000000000 ≤ y ∧ y ≤ 1000000000) : -1000000000000000000 ≤ x * y ∧ x * y ≤ 1000000000000000000 := by
  have := mul_bd 1000000000 1000000000 hx hy; omega
theorem mul_pos9 {x y : Int} (hx : 1 ≤ x) (hy : 1 ≤ y) : 1 ≤ x * y := by
  have := Int.mul_pos (show 0 < x by omega) (show 0 < y by omega); omega
theorem tdiv_bd {n g : Int} (B : Int) (hg : 1 ≤ g) (h : -B ≤ n ∧ n ≤ B) : -B ≤ n.tdiv g ∧ n.tdiv g ≤ B := by
  have h1 : (n.tdiv g).natAbs ≤ n.natAbs := by rw [Int.natAbs_tdiv]; exact Nat.div_le_self _ _
  omega
theorem ediv_bd {d g : Int} (hg : 1 ≤ g) (h : 0 ≤ d) : 0 ≤ d / g ∧ d / g ≤ d := by
  refine ⟨Int.ediv_nonneg h (by omega), Int.ediv_le_self _ h⟩
theorem tdiv_gcd (n d : Int) : n.tdiv (Int.gcd n d : Int) = n / (Int.gcd n d : Int) := Int.tdiv_eq_ediv_of_dvd (Int.gcd_dvd_left n d)
theorem gcd1 {n d : Int} (hd : 1 ≤ d) : 1 ≤ (Int.gcd n d : Int) := by have := gcd_pos (n := n) (show 0 < d by omega); omega
end Go.Proofs.Ytbdmofmoegmigaa
