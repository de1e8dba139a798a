/- Walk of the exact law of ClauseIs. -/
import Derived.Test.YtmnfnpmeacfebaaCbB
import Derived.Test.YtmnfnpmeacfebaaCaW
namespace Go.Proofs.Ytmnfnpmeacfebaa
set_option linter.unusedVariables false
set_option linter.unusedSimpArgs false
open Go.RowKit
set_option maxHeartbeats 2000000 in
theorem walk_ExactClauseIs (A : Option Addr) (n c : Nat) (Z : Nat → Int) (B : Option Addr) (N cB : Nat) (V : Nat → Bool) (w : World) (hn : n ≤ 9223372036854775807) (hA : Ints w A n Z) (hN : N ≤ 9223372036854775807) (hB : Bools w B N V) :
    Calls Try.prog 5 #[.slice A n c, .slice B N cB] w fun e w' => e = .returned (.bool true) ∧ Below w.heap.size w w' := by
  by_cases hb : 1048576 < n
  · go_enter Try.func5, Try.ntmps5
    go_wp2
    go_ret
    exact ⟨rfl, Below.refl _ _⟩
  by_cases hb2 : 1048576 < N
  · go_enter Try.func5, Try.ntmps5
    go_wp2
    go_ret
    exact ⟨rfl, Below.refl _ _⟩
  have hn2 : n ≤ 1048576 := by omega
  have hN2 : N ≤ 1048576 := by omega
  have hT := fun W (h : Below w.heap.size w W) => toints_any A n c Z W hn2 (hA.below h)
  have hU := fun W (h : Below w.heap.size w W) => tobools_any B N cB V W hN2 (hB.below h)
  go_enter Try.func5, Try.ntmps5
  go_wp2_with fail
  refine (hT _ (Below.refl _ _)).mono ?_
  rintro e w1 ⟨g1, rfl, _, hr1, hq⟩
  have q0 := hq
  have hI := Ints.of_row hr1
  clear hq hr1
  go_wp2_with fail
  refine (hU _ q0).mono ?_
  rintro e w2 ⟨g2, rfl, _, hr2, hq⟩
  replace q0 := btr q0 hq
  replace hI := hI.below hq
  have hJ := Bools.of_row hr2
  clear hq hr2
  go_wp2_with fail
  refine (sclauseis_any _ _ n n N N Z V w2 (by omega) (by omega) hI hJ).mono ?_
  rintro e w3 ⟨rfl, rfl⟩
  clear hI hJ
  go_wp2_with fail
  refine (hT _ q0).mono ?_
  rintro e w3 ⟨g3, rfl, _, hr3, hq⟩
  replace q0 := btr q0 hq
  have hI := Ints.of_row hr3
  clear hq hr3
  go_wp2_with fail
  refine (hU _ q0).mono ?_
  rintro e w4 ⟨g4, rfl, _, hr4, hq⟩
  replace q0 := btr q0 hq
  replace hI := hI.below hq
  have hJ := Bools.of_row hr4
  clear hq hr4
  go_wp2_with fail
  refine (clauseis_any _ _ n n N N Z V w4 (by omega) (by omega) hI hJ).mono ?_
  rintro e w5 ⟨rfl, hq⟩
  replace q0 := btr q0 hq
  replace hI := hI.below hq
  replace hJ := hJ.below hq
  clear hq
  generalize clB n Z N V = ok
  have dk : (ok != ok) = false := by simp
  go_wp2_with fail
  refine (hT _ q0).mono ?_
  rintro e w6 ⟨g6, rfl, _, hr6, hq⟩
  replace q0 := btr q0 hq
  replace hI := hI.below hq
  replace hJ := hJ.below hq
  have hK := Ints.of_row hr6
  clear hq hr6
  go_wp2_with fail
  refine (eqints_same (by omega) hI hK).mono ?_
  rintro e w7 ⟨rfl, hq⟩
  replace q0 := btr q0 hq
  replace hJ := hJ.below hq
  clear hq hI hK
  go_wp2_with fail
  refine (hU _ q0).mono ?_
  rintro e w8 ⟨g8, rfl, _, hr8, hq⟩
  replace q0 := btr q0 hq
  replace hJ := hJ.below hq
  have hK := Bools.of_row hr8
  clear hq hr8
  go_wp2_with fail
  refine (eqbools_same _ _ N N N V _ (by omega) hJ hK).mono ?_
  rintro e w9 ⟨rfl, hq⟩
  go_wp2_with fail
  go_ret
  exact ⟨rfl, btr q0 hq⟩
end Go.Proofs.Ytmnfnpmeacfebaa
