/- Contracts of both RatMid and both RatLess. -/
import Derived.Test.YtedkalbjeeigaaaRatF
namespace Go.Proofs.Ytedkalbjeeigaaa
set_option linter.unusedVariables false
set_option linter.unusedSimpArgs false
open Go.RowKit
theorem three_cells {w1 : World} {b : Nat} {u v : Value} (hb : b < w1.heap.size) (h0 : w1.cell? ⟨b, 0, none⟩ = some u) (h1 : w1.cell? ⟨b, 1, none⟩ = some v) :
    (∀ x y o, (((w1.setCell ⟨b, 0, none⟩ x).setCell ⟨b, 1, none⟩ y).alloc o).cell? ⟨b, 0, none⟩ = some x) ∧ (∀ x y o, (((w1.setCell ⟨b, 0, none⟩ x).setCell ⟨b, 1, none⟩ y).alloc o).cell? ⟨b, 1, none⟩ = some y) := by
  obtain ⟨t0, t1⟩ := two_cells h0 h1
  refine ⟨fun x y o => ?_, fun x y o => ?_⟩
  · rw [World.cell?_alloc_lt _ _ _ (by simpa [World.setCell] using hb)]; exact t0 x y
  · rw [World.cell?_alloc_lt _ _ _ (by simpa [World.setCell] using hb)]; exact t1 x y
theorem least_val {n d : Int} (hd : 1 ≤ d) (h : (leastR n d).2.2 = true) : okB (leastR n d).1 (leastR n d).2.1 = true := by
  cases h1 : okB (n.tdiv (Int.gcd n d : Int)) (d / (Int.gcd n d : Int))
  · rw [least_bad hd h1] at h; cases h
  · rw [least_ok hd h1]; exact h1
theorem add_val {a b c d : Int} (h : (addR a b c d).2.2 = true) : okB (addR a b c d).1 (addR a b c d).2.1 = true := by
  by_cases k : okB a b = true ∧ okB c d = true
  · have x := okB_iff.1 k.1; have y := okB_iff.1 k.2
    rw [add_yes k.1 k.2] at h ⊢
    exact least_val (mul_pos9 (by omega) (by omega)) h
  · rw [add_no k] at h; cases h
theorem mul_val {a b c d : Int} (h : (mulR a b c d).2.2 = true) : okB (mulR a b c d).1 (mulR a b c d).2.1 = true := by
  by_cases k : okB a b = true ∧ okB c d = true
  · have x := okB_iff.1 k.1; have y := okB_iff.1 k.2
    rw [mul_yes k.1 k.2] at h ⊢
    exact least_val (mul_pos9 (by omega) (by omega)) h
  · rw [mul_no k] at h; cases h
theorem ok12 : okB 1 2 = true := by decide +kernel
theorem mid_no {a b c d : Int} (h : (addR a b c d).2.2 = false) : midR a b c d = (0, 0, false) := by unfold midR; rw [if_neg (by simp [h])]
theorem mid_yes {a b c d : Int} (h : (addR a b c d).2.2 = true) : midR a b c d = mulR (addR a b c d).1 (addR a b c d).2.1 1 2 := by unfold midR; rw [if_pos h]

end Go.Proofs.Ytedkalbjeeigaaa
