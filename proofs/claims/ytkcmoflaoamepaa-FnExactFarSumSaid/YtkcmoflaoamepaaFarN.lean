/- Walk of the exact law of FarOk. -/
import Derived.Test.YtkcmoflaoamepaaFarM
import Derived.Test.YtkcmoflaoamepaaFarD
namespace Go.Proofs.Ytkcmoflaoamepaa
set_option linter.unusedVariables false
set_option linter.unusedSimpArgs false
open Go.RowKit
theorem eqints_same (A B : Option Addr) (n c d : Nat) (Z : Nat → Int) (w : World) (hn : n ≤ 9223372036854775807) (hA : Ints w A n Z) (hB : Ints w B n Z) :
    Calls Try.prog 17 #[.slice A n c, .slice B n d] w fun e w' => e = .returned (.bool true) ∧ Below w.heap.size w w' := by
  have h := eqints_any A B n n c d Z Z w hn hn hA hB
  rw [eqI_iff.2 ⟨rfl, fun _ _ => rfl⟩] at h
  exact h
set_option maxRecDepth 100000 in
set_option maxHeartbeats 4000000 in
theorem walk_ExactFarOk (A : Option Addr) (n c : Nat) (L : Lst) (B : Option Addr) (m d : Nat) (T : Nat → Int) (w : World) (hn : n ≤ 9223372036854775807) (hA : Lins w A n L) (hm : m ≤ 9223372036854775807) (hB : Ints w B m T) :
    Calls Try.prog 4 #[.slice A n c, .slice B m d] w fun e w' => e = .returned (.bool true) ∧ Below w.heap.size w w' := by
  by_cases hb2 : 1048576 < m
  · go_enter Try.func4, Try.ntmps4
    go_wp2
    go_ret
    exact ⟨rfl, Below.refl _ _⟩
  have hm2 : m ≤ 1048576 := by omega
  clear hb2
  have hS := fun W (h : Below w.heap.size w W) => szlins_any A n c L 1048576 W hn (by omega) (hA.below h)
  go_enter Try.func4, Try.ntmps4
  go_wp2_with fail
  refine (hS _ (Below.refl _ _)).mono ?_
  rintro e w1 ⟨r, rfl, hr, q0⟩
  clear hS
  rcases hr with hr | ⟨r1, r2, hn2, hN⟩
  · go_wp2
    go_ret
    exact ⟨rfl, q0⟩
  have hn3 : n ≤ 1048576 := by omega
  have hN3 : ∀ k, k < n → L.N k ≤ 1048576 := fun k hk => by have := hN k hk; omega
  clear hN hn2 r2
  have hT := fun W (h : Below w.heap.size w W) => tolins_any A n c L W hn3 (hA.below h) hN3
  have hR := fun W (h : Below w.heap.size w W) => toints_any B m d T W hm2 (hB.below h)
  have hP := fun (A3 : Option Addr) k3 (g4 : Nat) k4 W h1 h2 => sfarok_any A3 n k3 L (some ⟨g4, 0, none⟩) m k4 T W (by omega) h1 (by omega) h2 hN3
  have hI := fun (A3 : Option Addr) k3 (g4 : Nat) k4 W h1 h2 => farok_any A3 n k3 L (some ⟨g4, 0, none⟩) m k4 T W (by omega) h1 (by omega) h2 hN3
  generalize farOkB (farS n L m T) = ra at hP hI
  have dk : (ra != ra) = false := by simp
  have HN := hid hN3; clear hN3
  go_wp2_with fail
  refine (hT _ q0).mono ?_
  rintro e w2 ⟨A2, rfl, hO2, hq⟩
  replace q0 := btr q0 hq
  clear hq
  go_wp2_with fail
  refine (hR _ q0).mono ?_
  rintro e w3 ⟨g3, rfl, hg3, hr3, hq⟩
  replace q0 := btr q0 hq
  replace hO2 := hO2.below hq
  clear hq
  go_wp2_with fail
  refine (hP A2 n g3 m _ (hO2.lins HN.out) (Ints.of_row hr3)).mono ?_
  rintro e w4 ⟨rfl, hq⟩
  replace q0 := btr q0 hq
  clear hq hO2 hr3
  go_wp2_with fail
  refine (hT _ q0).mono ?_
  rintro e w5 ⟨A4, rfl, hO4, hq⟩
  replace q0 := btr q0 hq
  clear hq
  go_wp2_with fail
  refine (hR _ q0).mono ?_
  rintro e w6 ⟨g6, rfl, hg6, hr6, hq⟩
  replace q0 := btr q0 hq
  replace hO4 := hO4.below hq
  clear hq
  go_wp2_with fail
  refine (hI A4 n g6 m _ (hO4.lins HN.out) (Ints.of_row hr6)).mono ?_
  rintro e w7 ⟨rfl, hq⟩
  replace q0 := btr q0 hq
  replace hO4 := hO4.below hq
  replace hr6 := row_below hr6 hq
  clear hq
  go_wp2_with fail
  refine (hT _ q0).mono ?_
  rintro e w9 ⟨A7, rfl, hO7, hq7⟩
  replace q0 := btr q0 hq7
  replace hO4 := hO4.below hq7
  replace hr6 := row_below hr6 hq7
  clear hq7
  go_wp2_with fail
  refine (eqlins_same A4 A7 n n n L _ (by omega) (hO4.lins HN.out) (hO7.lins HN.out)).mono ?_
  rintro e wa ⟨rfl, hq8⟩
  replace q0 := btr q0 hq8
  replace hr6 := row_below hr6 hq8
  clear hO4 hO7 hq8
  go_wp2_with fail
  refine (hR _ q0).mono ?_
  rintro e wb ⟨gb, rfl, hgb, hrb, hq⟩
  go_wp2_with fail
  refine (eqints_same (some ⟨g6, 0, none⟩) (some ⟨gb, 0, none⟩) m m m T _ (by omega) (Ints.of_row (row_below hr6 hq)) (Ints.of_row hrb)).mono ?_
  rintro e wc ⟨rfl, hq9⟩
  go_wp2_with fail
  go_ret
  exact ⟨rfl, btr (btr q0 hq) hq9⟩
end Go.Proofs.Ytkcmoflaoamepaa
