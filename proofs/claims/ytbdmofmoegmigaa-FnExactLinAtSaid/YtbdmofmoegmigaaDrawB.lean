/- Contracts of the draws of fractions. -/
import Derived.Test.YtbdmofmoegmigaaDraw
import Derived.Test.YtbdmofmoegmigaaRatF
import Derived.Deep.RegionHeld3
namespace Go.Proofs.Ytbdmofmoegmigaa
set_option linter.unusedVariables false
set_option linter.unusedSimpArgs false
open Go.RowKit
def IntPost (B : Nat) (w : World) (g p : Nat) (e : Ending) (w' : World) : Prop :=
  ∃ x : Int, e = .returned (.int .i64 x) ∧ w.grownBy w' (some g) ∧ RD B w' g (p + 2)
theorem int_post {B : Nat} {w w' : World} {g p : Nat} {e : Ending} (x : Int) (h2 : e = .returned (.int .i64 x)) (h3 : w.grownBy w' (some g)) (h4 : RD B w' g (p + 2)) : IntPost B w g p e w' := ⟨x, h2, h3, h4⟩
theorem RD.lt {B : Nat} {w : World} {g p : Nat} (h : RD B w g p) : g < w.heap.size := by
  obtain ⟨a, len, cap, hB, c0, _⟩ := h; exact World.block_lt_of_cell? w _ c0
def zsA : List Int := [1000000000, -1000000000, 1000000001, 9223372036854775807, -9223372036854775808, 999999937]
def zsB : List Int := [0, 1, 2, 3, -1, -2, 5, 7, -12, 30, 100]
theorem int_any (B : Nat) (w : World) (g p : Nat) (hR : RD B w g p) (hp : p ≤ 100000000) :
    Calls Try.prog 149 #[.pointer (some ⟨g, 0, none⟩)] w (IntPost B w g p) := by
  have hP := pick_any B w g p 16 hR (by omega) (by omega)
  go_enter Try.func149, Try.ntmps149
  go_wp2_with fail
  refine hP.mono ?_
  rintro e w1 ⟨x, x0, x1, rfl, hg, hR1⟩
  clear hP
  have hlt := hR1.lt
  by_cases hx : x = 0
  · subst hx
    go_wp2_with fail
    refine (num_any B _ g (p + 1) w1.heap.size 6 6 zsA (hR1.alloc _) (by omega) rfl (by decide) (by decide) (by omega) ?_).mono ?_
    · intro k hk
      simp only [zsA, List.length_cons, List.length_nil] at hk
      have hk' : k = 0 ∨ k = 1 ∨ k = 2 ∨ k = 3 ∨ k = 4 ∨ k = 5 := by omega
      rcases hk' with rfl | rfl | rfl | rfl | rfl | rfl <;> simp [go_sem, zsA]
    rintro e w2 ⟨y, _, rfl, hg2, hR2⟩
    go_wp2_with fail
    go_ret
    exact int_post y rfl (grow_trans (grow_alloc hg _) hg2) hR2
  · have hx' : (x == 0) = false := by simpa using hx
    go_wp2_with fail
    refine (num_any B _ g (p + 1) w1.heap.size 11 11 zsB (hR1.alloc _) (by omega) rfl (by decide) (by decide) (by omega) ?_).mono ?_
    · intro k hk
      simp only [zsB, List.length_cons, List.length_nil] at hk
      have hk' : k = 0 ∨ k = 1 ∨ k = 2 ∨ k = 3 ∨ k = 4 ∨ k = 5 ∨ k = 6 ∨ k = 7 ∨ k = 8 ∨ k = 9 ∨ k = 10 := by omega
      rcases hk' with rfl | rfl | rfl | rfl | rfl | rfl | rfl | rfl | rfl | rfl | rfl <;> simp [go_sem, zsB]
    rintro e w2 ⟨y, _, rfl, hg2, hR2⟩
    go_wp2_with fail
    go_ret
    exact int_post y rfl (grow_trans (grow_alloc hg _) hg2) hR2
end Go.Proofs.Ytbdmofmoegmigaa
