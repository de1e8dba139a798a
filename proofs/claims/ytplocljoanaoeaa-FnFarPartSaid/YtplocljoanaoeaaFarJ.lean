/- Mathematics of FarSum: what follows of the first k constraints, each taken so many times. -/
import Derived.Test.YtplocljoanaoeaaFarE
import Derived.Test.YtplocljoanaoeaaLinSW
namespace Go.Proofs.Ytplocljoanaoeaa
set_option linter.unusedVariables false
set_option linter.unusedSimpArgs false
open Go.RowKit
def stepS (c : LinR) (L : Lst) (T : Nat → Int) (k : Nat) : LinR × Bool := sumR c.1 c.2.1 c.2.2.1 c.2.2.2 1 (L.N k) (L.Z k) (L.B k) (L.S k) (T k)
def sumS (L : Lst) (T : Nat → Int) : Nat → LinR × Bool
  | 0 => ((4, fun _ => 0, 0, false), true)
  | k + 1 => if (sumS L T k).2 = true then stepS (sumS L T k).1 L T k else (zeroL, false)
/-- what FarSum answers -/
def farS (n : Nat) (L : Lst) (m : Nat) (T : Nat → Int) : LinR × Bool := if okS n L = true ∧ m = n ∧ (sumS L T n).2 = true then sumS L T n else (zeroL, false)
theorem stepS_len (c : LinR) (L : Lst) (T : Nat → Int) (k : Nat) : (stepS c L T k).1.1 ≤ 4 := sumR_len _ _ _ _ _ _ _ _ _ _
theorem sumS_len (L : Lst) (T : Nat → Int) : ∀ k, (sumS L T k).1.1 ≤ 4
  | 0 => Nat.le_refl _
  | k + 1 => by
    unfold sumS
    split
    · exact stepS_len _ _ _ _
    · simp [zeroL]
theorem sumS_succ {L : Lst} {T : Nat → Int} {k : Nat} (h : (sumS L T k).2 = true) : sumS L T (k + 1) = stepS (sumS L T k).1 L T k := by
  rw [sumS, if_pos h]
theorem sumS_no {L : Lst} {T : Nat → Int} {k n : Nat} (h : (sumS L T k).2 = false) (hn : k ≤ n) : (sumS L T n).2 = false := by
  induction n with
  | zero => obtain rfl : k = 0 := by omega
            exact h
  | succ n ih =>
    by_cases e : k = n + 1
    · subst e; exact h
    · rw [sumS, if_neg (by rw [ih (by omega)]; simp)]
theorem farS_no1 {n m : Nat} {L : Lst} {T : Nat → Int} (h : okS n L = false) : farS n L m T = (zeroL, false) := by
  unfold farS; rw [if_neg]; rw [h]; simp
theorem farS_no2 {n m : Nat} {L : Lst} {T : Nat → Int} (h : m ≠ n) : farS n L m T = (zeroL, false) := by
  unfold farS; rw [if_neg]; exact fun x => h x.2.1
theorem farS_no3 {n k : Nat} {L : Lst} {T : Nat → Int} (h : (sumS L T k).2 = false) (hk : k ≤ n) : farS n L n T = (zeroL, false) := by
  unfold farS; rw [if_neg]; rw [sumS_no h hk]; simp
theorem farS_yes {n : Nat} {L : Lst} {T : Nat → Int} (h : okS n L = true) (h2 : (sumS L T n).2 = true) : farS n L n T = sumS L T n := by
  unfold farS; rw [if_pos ⟨h, rfl, h2⟩]
theorem farS_len (n : Nat) (L : Lst) (m : Nat) (T : Nat → Int) : (farS n L m T).1.1 ≤ 4 := by
  unfold farS; split
  · exact sumS_len _ _ _
  · simp [zeroL]
theorem OwnB.ownI {lo hi : Nat} {W w : World} {A : Option Addr} {n : Nat} {Z : Nat → Int} (h : OwnB lo hi w A n Z) (hl : W.heap.size ≤ lo) : OwnI W w A n Z := by
  rcases h with h | ⟨g, ha, h1, h2, hg, hc⟩
  · exact .inl h
  · exact .inr ⟨g, ha, by omega, hg, hc⟩
theorem far3f {w : World} {a : Addr} {p : Nat} {v : Bool} (x y z : Value) (h : w.frozen? a = v) : (((w.setCell ⟨p, 0, none⟩ x).setCell ⟨p, 1, none⟩ y).setCell ⟨p, 2, none⟩ z).frozen? a = v := by simpa [go_sem] using h
theorem build_lin0 (w : World) : (Instr.build 28 #[]).run Try.prog w = .ok (.agg #[.slice none 0 0, .int .i64 0, .bool false]) w := by kernel_rfl
theorem build_lin1 (g : Nat) (w : World) : (Instr.build 28 #[(0, .slice (some ⟨g, 0, none⟩) 4 4)]).run Try.prog w = .ok (.agg #[.slice (some ⟨g, 0, none⟩) 4 4, .int .i64 0, .bool false]) w := by kernel_rfl
/-- the result's block and the sum's, at the head of the loop -/
def SumI (w : World) (p : Nat) (R : LinR) (wr : World) : Prop :=
  ∃ A c lo hi, Below w.heap.size w wr ∧ w.heap.size < p ∧ R.1 ≤ c ∧ c ≤ 9223372036854775807 ∧ w.heap.size < lo ∧ (p < lo ∨ hi ≤ p) ∧ OwnB lo hi wr A R.1 R.2.1 ∧
  wr.cell? ⟨w.heap.size, 0, none⟩ = some (.slice none 0 0) ∧ wr.cell? ⟨w.heap.size, 1, none⟩ = some (.int .i64 0) ∧ wr.cell? ⟨w.heap.size, 2, none⟩ = some (.bool false) ∧
  wr.cell? ⟨p, 0, none⟩ = some (.slice A R.1 c) ∧ wr.cell? ⟨p, 1, none⟩ = some (.int .i64 R.2.2.1) ∧ wr.cell? ⟨p, 2, none⟩ = some (.bool R.2.2.2) ∧
  (∀ o, wr.frozen? ⟨w.heap.size, o, none⟩ = false) ∧ (∀ o, wr.frozen? ⟨p, o, none⟩ = false)
end Go.Proofs.Ytplocljoanaoeaa
