/- LogEnds of the program and of the model; walk of FnExactLogEnds. -/
import Derived.Test.YtjnngijilkdhbaaCcA
namespace Go.Proofs.Ytjnngijilkdhbaa
set_option linter.unusedVariables false
set_option linter.unusedSimpArgs false
open Go.RowKit
/-- the last row is there and empty -/
def leB (n : Nat) (L : Lls) : Bool := decide (0 < n) && decide (L.N (n - 1) = 0)
set_option maxHeartbeats 1000000 in
theorem logends_any (A : Option Addr) (n c : Nat) (L : Lls) (w : World) (hn : n ≤ 9223372036854775807) (hA : IntSS w A n L) :
    Calls Try.prog 11 #[.slice A n c] w fun e w' => e = .returned (.bool (leB n L)) ∧ w = w' := by
  rcases hA with rfl | ⟨g, off, rfl, hg, hcA⟩
  · go_enter Try.func11, Try.ntmps11
    go_wp2
    go_ret
    exact ⟨rfl, rfl⟩
  · by_cases h0 : n = 0
    · subst h0
      go_enter Try.func11, Try.ntmps11
      go_wp2
      go_ret
      exact ⟨rfl, rfl⟩
    obtain ⟨k, rfl⟩ : ∃ k, n = k + 1 := ⟨n - 1, by omega⟩
    obtain ⟨a, ca, a0, hNk, hI⟩ := hcA k (by omega)
    have e : leB (k + 1) L = decide (L.N k = 0) := by unfold leB; simp
    have d1 : ((k + 1 : Nat) : Int) - 1 = (k : Int) := by omega
    rw [e]
    clear hcA hI e h0
    generalize L.N k = z at *
    by_cases hz : z = 0
    · subst hz
      go_enter Try.func11, Try.ntmps11
      go_wp2
      go_ret
      exact ⟨rfl, rfl⟩
    · have d2 : decide (z = 0) = false := by simpa using hz
      have d3 : (((z : Nat) : Int) == 0) = false := by simp; omega
      rw [d2]
      clear hz
      go_enter Try.func11, Try.ntmps11
      go_wp2
      go_ret
      exact ⟨rfl, rfl⟩
set_option maxHeartbeats 1000000 in
theorem slogends_any (A : Option Addr) (n c : Nat) (L : Lls) (w : World) (hn : n ≤ 9223372036854775807) (hA : IntSS w A n L) :
    Calls Try.prog 9 #[.slice A n c] w fun e w' => e = .returned (.bool (leB n L)) ∧ w = w' := by
  rcases hA with rfl | ⟨g, off, rfl, hg, hcA⟩
  · go_enter Try.func9, Try.ntmps9
    go_wp2
    go_ret
    exact ⟨rfl, rfl⟩
  · by_cases h0 : n = 0
    · subst h0
      go_enter Try.func9, Try.ntmps9
      go_wp2
      go_ret
      exact ⟨rfl, rfl⟩
    obtain ⟨k, rfl⟩ : ∃ k, n = k + 1 := ⟨n - 1, by omega⟩
    obtain ⟨a, ca, a0, hNk, hI⟩ := hcA k (by omega)
    have e : leB (k + 1) L = decide (L.N k = 0) := by unfold leB; simp
    have d1 : ((k + 1 : Nat) : Int) - 1 = (k : Int) := by omega
    rw [e]
    clear hcA hI e h0
    generalize L.N k = z at *
    by_cases hz : z = 0
    · subst hz
      go_enter Try.func9, Try.ntmps9
      go_wp2
      go_ret
      exact ⟨rfl, rfl⟩
    · have d2 : decide (z = 0) = false := by simpa using hz
      have d3 : (((z : Nat) : Int) == 0) = false := by simp; omega
      rw [d2]
      clear hz
      go_enter Try.func9, Try.ntmps9
      go_wp2
      go_ret
      exact ⟨rfl, rfl⟩
set_option maxHeartbeats 4000000 in
set_option maxRecDepth 100000 in
theorem walk_ExactLogEnds (A : Option Addr) (n c : Nat) (L : Lls) (w : World) (hn : n ≤ 9223372036854775807) (hA : IntSS w A n L) :
    Calls Try.prog 3 #[.slice A n c] w fun e w' => e = .returned (.bool true) ∧ Below w.heap.size w w' := by
  have hS := szintss_any A n c L 1048576 w hn (by omega) hA
  go_enter Try.func3, Try.ntmps3
  go_wp2_with fail
  refine hS.mono ?_
  rintro e w1 ⟨⟨r, rfl, hr⟩, rfl⟩
  clear hS
  by_cases hneg : r < 0
  · have d1 : decide (r < 0) = true := by simpa using hneg
    go_wp2
    go_ret
    exact ⟨rfl, Below.refl _ _⟩
  have d1 : decide (r < 0) = false := by simpa using hneg
  obtain ⟨_, _, hn1, hN⟩ := hr.resolve_left hneg
  have hn2 : n ≤ 1048576 := by omega
  have hL : ∀ k, k < n → L.N k ≤ 1048576 := fun k hk => by have := hN k hk; omega
  have hT := fun W (h : Below w.heap.size w W) => tointss_any A n c L W hn2 (hA.below h) hL
  clear hr hneg hn1 hN
  go_wp2_with fail
  refine (hT _ (Below.refl _ _)).mono ?_
  rintro e w2 ⟨A2, rfl, hO2, q0⟩
  go_wp2_with fail
  refine (slogends_any A2 n n L w2 (by omega) (hO2.intss hL)).mono ?_
  rintro e w3 ⟨rfl, rfl⟩
  clear hO2
  go_wp2_with fail
  refine (hT _ q0).mono ?_
  rintro e w4 ⟨A4, rfl, hO4, hq⟩
  replace q0 := btr q0 hq
  clear hq
  go_wp2_with fail
  refine (logends_any A4 n n L w4 (by omega) (hO4.intss hL)).mono ?_
  rintro e w5 ⟨rfl, rfl⟩
  generalize leB n L = ok
  have dk : (ok != ok) = false := by simp
  go_wp2_with fail
  refine (hT _ q0).mono ?_
  rintro e w6 ⟨A6, rfl, hO6, hq⟩
  replace q0 := btr q0 hq
  replace hO4 := OwnSS.below hq hO4
  clear hq
  go_wp2_with fail
  refine (eqintss_same A4 A6 n n n L w6 (by omega) (hO4.intss hL) (hO6.intss hL)).mono ?_
  rintro e w7 ⟨rfl, hq⟩
  go_wp2_with fail
  go_ret
  exact ⟨rfl, btr q0 hq⟩
end Go.Proofs.Ytjnngijilkdhbaa
