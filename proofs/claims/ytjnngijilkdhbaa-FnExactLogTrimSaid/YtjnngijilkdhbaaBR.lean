/- Several texts in one: RatA, RatB, RatC, RatD, RatE, RatF, RatG, RatH, RatI. -/
import Derived.Test.YtjnngijilkdhbaaBase
import Derived.Test.YtjnngijilkdhbaaBM
import Derived.WalkKit
import Derived.WalkLawsBesides
import Derived.WalkSpells
import Derived.RegionTactic
import Derived.Deep.QuietTactic
import Derived.BigQuiet
import Derived.LoopTactic
import Derived.Outline
import Derived.Deep.RegionHeld3
namespace Go.Proofs.Ytjnngijilkdhbaa
set_option linter.unusedVariables false
set_option linter.unusedSimpArgs false
open Go.RowKit

def inB (n : Int) : Bool := decide (-1000000000 ≤ n ∧ n ≤ 1000000000)
def labs (n : Int) : Int := if n < -1000000000 ∨ n > 1000000000 then 1000000001 else n.natAbs
end Go.Proofs.Ytjnngijilkdhbaa

namespace Go.Proofs.Ytjnngijilkdhbaa
set_option linter.unusedVariables false
set_option linter.unusedSimpArgs false
open Go.RowKit

theorem inB_iff {n : Int} : inB n = true ↔ -1000000000 ≤ n ∧ n ≤ 1000000000 := by unfold inB; exact decide_eq_true_iff
theorem inB_no {n : Int} (h : ¬ inB n = true) : n < -1000000000 ∨ 1000000000 < n := by unfold inB at h; simp at h; omega
theorem okB_no1 {n d : Int} (h : ¬ inB n = true) : okB n d = false := by
  unfold okB; unfold inB at h; simp at h ⊢; omega
theorem okB_no2 {n d : Int} (h : ¬ inB d = true) : okB n d = false := by
  unfold okB; unfold inB at h; simp at h ⊢; omega
theorem okB_no3 {n d : Int} (h : ¬ 0 < d) : okB n d = false := by
  unfold okB; simp; omega
theorem gcd_natAbs (n d : Int) : Int.gcd (n.natAbs : Int) d = Int.gcd n d := by
  simp [Int.gcd_eq_natAbs_gcd_natAbs]
theorem okB_eq {n d : Int} (h1 : inB n = true) (h2 : inB d = true) (h3 : 0 < d) : (((Int.gcd (n.natAbs : Int) d : Nat) : Int) == 1) = okB n d := by
  rw [gcd_natAbs]; unfold okB; have a := inB_iff.1 h1; have b := inB_iff.1 h2
  rw [Bool.eq_iff_iff]; simp; omega

end Go.Proofs.Ytjnngijilkdhbaa

namespace Go.Proofs.Ytjnngijilkdhbaa
set_option linter.unusedVariables false
set_option linter.unusedSimpArgs false
open Go.RowKit
theorem least_yes {n d : Int} (h1 : inB (n.tdiv (Int.gcd (n.natAbs : Int) d : Int)) = true) (h2 : inB (d / (Int.gcd (n.natAbs : Int) d : Int)) = true) :
    leastR n d = (n.tdiv (Int.gcd (n.natAbs : Int) d : Int), d / (Int.gcd (n.natAbs : Int) d : Int), true) := by
  rw [gcd_natAbs] at *; rw [tdiv_gcd] at *
  have a := inB_iff.1 h1; have b := inB_iff.1 h2
  unfold leastR; rw [if_pos ⟨a.1, a.2, b.2⟩]
theorem least_no1 {n d : Int} (h1 : ¬ inB (n.tdiv (Int.gcd (n.natAbs : Int) d : Int)) = true) : leastR n d = (0, 0, false) := by
  rw [gcd_natAbs] at *; rw [tdiv_gcd] at *
  unfold leastR; rw [if_neg (fun h => h1 (inB_iff.2 ⟨h.1, h.2.1⟩))]
theorem least_no2 {n d : Int} (hd : 1 ≤ d) (h2 : ¬ inB (d / (Int.gcd (n.natAbs : Int) d : Int)) = true) : leastR n d = (0, 0, false) := by
  have g1 := gcd1 (n := (n.natAbs : Int)) hd
  have := (ediv_bd g1 (show 0 ≤ d by omega)).1
  rw [gcd_natAbs] at *
  unfold leastR; rw [if_neg (fun h => h2 (inB_iff.2 ⟨by omega, h.2.2⟩))]

theorem labs_le {n : Int} : labs n ≤ 1000000000 ↔ (-1000000000 ≤ n ∧ n ≤ 1000000000) := by unfold labs; split <;> omega
theorem labs_abs {n : Int} (h : labs n ≤ 1000000000) : labs n = n.natAbs := by have := labs_le.1 h; unfold labs; rw [if_neg (by omega)]
theorem labs_bd (n : Int) : 0 ≤ labs n ∧ labs n ≤ 1000000001 := by unfold labs; split <;> omega

theorem sok_eq {n d : Int} (c1 : labs n ≤ 1000000000) (c2 : 1 ≤ d) (c3 : d ≤ 1000000000) : (((Int.gcd (labs n) d : Nat) : Int) == 1) = okB n d := by
  have := labs_le.1 c1
  rw [labs_abs c1]; exact okB_eq (inB_iff.2 this) (inB_iff.2 ⟨by omega, c3⟩) (by omega)

end Go.Proofs.Ytjnngijilkdhbaa

namespace Go.Proofs.Ytjnngijilkdhbaa
set_option linter.unusedVariables false
set_option linter.unusedSimpArgs false
open Go.RowKit
theorem two_cells {w1 : World} {b : Nat} {u v : Value} (h0 : w1.cell? ⟨b, 0, none⟩ = some u) (h1 : w1.cell? ⟨b, 1, none⟩ = some v) :
    (∀ x y, ((w1.setCell ⟨b, 0, none⟩ x).setCell ⟨b, 1, none⟩ y).cell? ⟨b, 0, none⟩ = some x) ∧ (∀ x y, ((w1.setCell ⟨b, 0, none⟩ x).setCell ⟨b, 1, none⟩ y).cell? ⟨b, 1, none⟩ = some y) := by
  refine ⟨fun x y => ?_, fun x y => ?_⟩
  · exact (World.cell?_setCell_other _ _ _ _ (by simp)).trans (World.cell?_setCell_same _ _ _ h0)
  · exact World.cell?_setCell_same _ _ _ ((World.cell?_setCell_other _ ⟨b, 0, none⟩ ⟨b, 1, none⟩ _ (by simp)).trans h1)
theorem least_pos {n d : Int} (hd : 1 ≤ d) : 1 ≤ d / (Int.gcd n d : Int) := by
  have g1 := gcd1 (n := n) hd
  have h1 : (Int.gcd n d : Int) ≤ d := Int.gcd_le_right n (by omega)
  have := Int.ediv_pos_of_pos_of_dvd (show 0 < d by omega) (show 0 ≤ (Int.gcd n d : Int) by omega) (Int.gcd_dvd_right n d)
  omega
theorem least_ok {n d : Int} (hd : 1 ≤ d) (h : okB (n.tdiv (Int.gcd n d : Int)) (d / (Int.gcd n d : Int)) = true) :
    leastR n d = (n.tdiv (Int.gcd n d : Int), d / (Int.gcd n d : Int), true) := by
  rw [tdiv_gcd] at *
  have a := okB_iff.1 h
  unfold leastR; rw [if_pos ⟨a.1, a.2.1, a.2.2.2.1⟩]
theorem least_bad {n d : Int} (hd : 1 ≤ d) (h : okB (n.tdiv (Int.gcd n d : Int)) (d / (Int.gcd n d : Int)) = false) :
    leastR n d = (0, 0, false) := by
  rw [tdiv_gcd] at *
  have p := least_pos (n := n) hd
  have g1 := gcd_pos (n := n) (show 0 < d by omega)
  have g2 := Int.gcd_ediv_gcd_ediv_gcd g1
  unfold leastR; rw [if_neg]
  intro hh
  rw [okB_iff.2 ⟨hh.1, hh.2.1, p, hh.2.2, g2⟩] at h
  cases h
theorem add_no {a b c d : Int} (h : ¬ (okB a b = true ∧ okB c d = true)) : addR a b c d = (0, 0, false) := by unfold addR; rw [if_neg h]
theorem add_yes {a b c d : Int} (h : okB a b = true) (h2 : okB c d = true) : addR a b c d = leastR (a * d + c * b) (b * d) := by unfold addR; rw [if_pos ⟨h, h2⟩]
theorem mul_no {a b c d : Int} (h : ¬ (okB a b = true ∧ okB c d = true)) : mulR a b c d = (0, 0, false) := by unfold mulR; rw [if_neg h]
theorem mul_yes {a b c d : Int} (h : okB a b = true) (h2 : okB c d = true) : mulR a b c d = leastR (a * c) (b * d) := by unfold mulR; rw [if_pos ⟨h, h2⟩]

end Go.Proofs.Ytjnngijilkdhbaa

namespace Go.Proofs.Ytjnngijilkdhbaa
set_option linter.unusedVariables false
set_option linter.unusedSimpArgs false
open Go.RowKit
theorem and9 {p1 p2 p3 p4 p5 p6 p7 p8 p9 q : Prop} (h : p1 ∧ p2 ∧ p3 ∧ p4 ∧ p5 ∧ p6 ∧ p7 ∧ p8 ∧ p9 ∧ q) : q := h.2.2.2.2.2.2.2.2.2
def rd (w : World) (b o : Nat) : Value := (w.cell? ⟨b, o, none⟩).getD undef
theorem rd_some {w : World} {b o : Nat} (h : (w.cell? ⟨b, o, none⟩).isSome = true) : w.cell? ⟨b, o, none⟩ = some (rd w b o) := by
  unfold rd; cases hc : w.cell? ⟨b, o, none⟩ with
  | none => rw [hc] at h; cases h
  | some u => rfl
def S2 (a b c d : Int) (w w' : World) : Prop := w'.cell? ⟨w.heap.size, 0, none⟩ = some (.int .i64 a) ∧ w'.cell? ⟨w.heap.size, 1, none⟩ = some (.int .i64 b) ∧ w'.cell? ⟨w.heap.size + 1, 0, none⟩ = some (.int .i64 c) ∧ w'.cell? ⟨w.heap.size + 1, 1, none⟩ = some (.int .i64 d)
      ∧ w'.cell? ⟨w.heap.size + 1 + 1, 0, none⟩ = some (rd w' (w.heap.size + 1 + 1) 0) ∧ w'.cell? ⟨w.heap.size + 1 + 1, 1, none⟩ = some (rd w' (w.heap.size + 1 + 1) 1) ∧ w'.frozen? ⟨w.heap.size + 1 + 1, 0, none⟩ = false ∧ w'.frozen? ⟨w.heap.size + 1 + 1, 1, none⟩ = false
      ∧ w.heap.size + 2 < w'.heap.size ∧ Below w.heap.size w w'
theorem S2.call {a b c d : Int} {w w' w1 : World} (hq : Below w'.heap.size w' w1) (h : S2 a b c d w w') : S2 a b c d w w1 := by
  obtain ⟨k0, k1, k2, k3, k4, k5, k6, k7, k8, k9⟩ := h
  obtain ⟨hc, hf⟩ := bcell hq
  refine ⟨?_, ?_, ?_, ?_, rd_some ?_, rd_some ?_, ?_, ?_, ?_, btr k9 hq⟩
  · rw [hc _ _ (by omega)]; exact k0
  · rw [hc _ _ (by omega)]; exact k1
  · rw [hc _ _ (by omega)]; exact k2
  · rw [hc _ _ (by omega)]; exact k3
  · rw [hc _ _ (by omega), k4]; rfl
  · rw [hc _ _ (by omega), k5]; rfl
  · rw [hf _ _ (by omega)]; exact k6
  · rw [hf _ _ (by omega)]; exact k7
  · have := hq.size; omega
theorem S2.store {a b c d : Int} {w w' : World} (h : S2 a b c d w w') (x y : Value) : S2 a b c d w ((w'.setCell ⟨w.heap.size + 1 + 1, 0, none⟩ x).setCell ⟨w.heap.size + 1 + 1, 1, none⟩ y) := by
  obtain ⟨k0, k1, k2, k3, k4, k5, k6, k7, k8, k9⟩ := h
  obtain ⟨t0, t1⟩ := two_cells k4 k5
  refine ⟨?_, ?_, ?_, ?_, rd_some ?_, rd_some ?_, ?_, ?_, ?_, bst (bst k9 (by simp <;> omega) _) (by simp <;> omega) _⟩
  · rw [World.cell?_setCell_other _ _ _ _ (by simp), World.cell?_setCell_other _ _ _ _ (by simp)]; exact k0
  · rw [World.cell?_setCell_other _ _ _ _ (by simp), World.cell?_setCell_other _ _ _ _ (by simp)]; exact k1
  · rw [World.cell?_setCell_other _ _ _ _ (by simp), World.cell?_setCell_other _ _ _ _ (by simp)]; exact k2
  · rw [World.cell?_setCell_other _ _ _ _ (by simp), World.cell?_setCell_other _ _ _ _ (by simp)]; exact k3
  · rw [t0]; rfl
  · rw [t1]; rfl
  · simpa [go_sem] using k6
  · simpa [go_sem] using k7
  · simpa [World.setCell] using k8

end Go.Proofs.Ytjnngijilkdhbaa

namespace Go.Proofs.Ytjnngijilkdhbaa
set_option linter.unusedVariables false
set_option linter.unusedSimpArgs false
open Go.RowKit
theorem of_zero {n d : Int} (h : d = 0) : ofR n d = (0, 0, false) := by unfold ofR; rw [if_pos (Or.inl h)]
theorem of_n {n d : Int} (h : ¬ inB n = true) : ofR n d = (0, 0, false) := by unfold ofR; rw [if_pos (Or.inr (fun x => h (inB_iff.2 ⟨x.1, x.2.1⟩)))]
theorem of_d {n d : Int} (h : ¬ inB d = true) : ofR n d = (0, 0, false) := by unfold ofR; rw [if_pos (Or.inr (fun x => h (inB_iff.2 ⟨x.2.2.1, x.2.2.2⟩)))]
theorem of_neg {n d : Int} (h1 : inB n = true) (h2 : inB d = true) (h : d < 0) : ofR n d = leastR (-n) (-d) := by
  have a := inB_iff.1 h1; have b := inB_iff.1 h2
  unfold ofR; rw [if_neg (by omega), if_pos h]
theorem of_pos {n d : Int} (h1 : inB n = true) (h2 : inB d = true) (h : 0 < d) : ofR n d = leastR n d := by
  have a := inB_iff.1 h1; have b := inB_iff.1 h2
  unfold ofR; rw [if_neg (by omega), if_neg (by omega)]
end Go.Proofs.Ytjnngijilkdhbaa

namespace Go.Proofs.Ytjnngijilkdhbaa
set_option linter.unusedVariables false
set_option linter.unusedSimpArgs false
open Go.RowKit
theorem three_cells {w1 : World} {b : Nat} {u v : Value} (hb : b < w1.heap.size) (h0 : w1.cell? ⟨b, 0, none⟩ = some u) (h1 : w1.cell? ⟨b, 1, none⟩ = some v) :
    (∀ x y o, (((w1.setCell ⟨b, 0, none⟩ x).setCell ⟨b, 1, none⟩ y).alloc o).cell? ⟨b, 0, none⟩ = some x) ∧ (∀ x y o, (((w1.setCell ⟨b, 0, none⟩ x).setCell ⟨b, 1, none⟩ y).alloc o).cell? ⟨b, 1, none⟩ = some y) := by
  obtain ⟨t0, t1⟩ := two_cells h0 h1
  refine ⟨fun x y o => ?_, fun x y o => ?_⟩
  · rw [World.cell?_alloc_lt _ _ _ (by simpa [World.setCell] using hb)]; exact t0 x y
  · rw [World.cell?_alloc_lt _ _ _ (by simpa [World.setCell] using hb)]; exact t1 x y
theorem least_val {n d : Int} (hd : 1 ≤ d) (h : (leastR n d).2.2 = true) : okB (leastR n d).1 (leastR n d).2.1 = true := by
  cases h1 : okB (n.tdiv (Int.gcd n d : Int)) (d / (Int.gcd n d : Int))
  · rw [least_bad hd h1] at h; cases h
  · rw [least_ok hd h1]; exact h1
theorem add_val {a b c d : Int} (h : (addR a b c d).2.2 = true) : okB (addR a b c d).1 (addR a b c d).2.1 = true := by
  by_cases k : okB a b = true ∧ okB c d = true
  · have x := okB_iff.1 k.1; have y := okB_iff.1 k.2
    rw [add_yes k.1 k.2] at h ⊢
    exact least_val (mul_pos9 (by omega) (by omega)) h
  · rw [add_no k] at h; cases h
theorem mul_val {a b c d : Int} (h : (mulR a b c d).2.2 = true) : okB (mulR a b c d).1 (mulR a b c d).2.1 = true := by
  by_cases k : okB a b = true ∧ okB c d = true
  · have x := okB_iff.1 k.1; have y := okB_iff.1 k.2
    rw [mul_yes k.1 k.2] at h ⊢
    exact least_val (mul_pos9 (by omega) (by omega)) h
  · rw [mul_no k] at h; cases h
theorem ok12 : okB 1 2 = true := by decide +kernel
theorem mid_no {a b c d : Int} (h : (addR a b c d).2.2 = false) : midR a b c d = (0, 0, false) := by unfold midR; rw [if_neg (by simp [h])]
theorem mid_yes {a b c d : Int} (h : (addR a b c d).2.2 = true) : midR a b c d = mulR (addR a b c d).1 (addR a b c d).2.1 1 2 := by unfold midR; rw [if_pos h]

end Go.Proofs.Ytjnngijilkdhbaa

namespace Go.Proofs.Ytjnngijilkdhbaa
set_option linter.unusedVariables false
set_option linter.unusedSimpArgs false
open Go.RowKit
theorem less_no {a b c d : Int} (h : ¬ (okB a b = true ∧ okB c d = true)) : lessB a b c d = false := by
  unfold lessB; simp; intro h1 h2; exact absurd ⟨h1, h2⟩ h
theorem less_yes {a b c d : Int} (h1 : okB a b = true) (h2 : okB c d = true) : lessB a b c d = decide (a * d < c * b) := by
  unfold lessB; simp [h1, h2]

def SL (a b c d : Int) (w w' : World) : Prop := w'.cell? ⟨w.heap.size, 0, none⟩ = some (.int .i64 a) ∧ w'.cell? ⟨w.heap.size, 1, none⟩ = some (.int .i64 b) ∧ w'.cell? ⟨w.heap.size + 1, 0, none⟩ = some (.int .i64 c) ∧ w'.cell? ⟨w.heap.size + 1, 1, none⟩ = some (.int .i64 d)
      ∧ w.heap.size + 1 < w'.heap.size ∧ Below w.heap.size w w'
theorem SL.call {a b c d : Int} {w w' w1 : World} (hq : Below w'.heap.size w' w1) (h : SL a b c d w w') : SL a b c d w w1 := by
  obtain ⟨k0, k1, k2, k3, k8, k9⟩ := h
  obtain ⟨hc, hf⟩ := bcell hq
  refine ⟨?_, ?_, ?_, ?_, ?_, btr k9 hq⟩
  · rw [hc _ _ (by omega)]; exact k0
  · rw [hc _ _ (by omega)]; exact k1
  · rw [hc _ _ (by omega)]; exact k2
  · rw [hc _ _ (by omega)]; exact k3
  · have := hq.size; omega

end Go.Proofs.Ytjnngijilkdhbaa

namespace Go.Proofs.Ytjnngijilkdhbaa
set_option linter.unusedVariables false
set_option linter.unusedSimpArgs false
open Go.RowKit

end Go.Proofs.Ytjnngijilkdhbaa
