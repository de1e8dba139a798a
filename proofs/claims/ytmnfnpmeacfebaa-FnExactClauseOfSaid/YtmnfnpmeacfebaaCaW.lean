/- Walk of the exact law of ClauseOk. -/
import Derived.Test.YtmnfnpmeacfebaaCaA
namespace Go.Proofs.Ytmnfnpmeacfebaa
set_option linter.unusedVariables false
set_option linter.unusedSimpArgs false
open Go.RowKit
theorem eqints_same {A B : Option Addr} {n c d : Nat} {Z : Nat → Int} {w : World} (hn : n ≤ 9223372036854775807) (hA : Ints w A n Z) (hB : Ints w B n Z) :
    Calls Try.prog 12 #[.slice A n c, .slice B n d] w fun e w' => e = .returned (.bool true) ∧ Below w.heap.size w w' := by
  have h := eqints_any A B n n c d Z Z w hn hn hA hB
  rwa [eqI_iff.2 ⟨rfl, fun _ _ => rfl⟩] at h
set_option maxHeartbeats 2000000 in
theorem walk_ExactClauseOk (A : Option Addr) (n c : Nat) (Z : Nat → Int) (m : Int) (w : World) (hn : n ≤ 9223372036854775807) (hA : Ints w A n Z) :
    Calls Try.prog 3 #[.slice A n c, .int .i64 m] w fun e w' => e = .returned (.bool true) ∧ Below w.heap.size w w' := by
  by_cases hb : 1048576 < n
  · go_enter Try.func3, Try.ntmps3
    go_wp2
    go_ret
    exact ⟨rfl, Below.refl _ _⟩
  · have hn2 : n ≤ 1048576 := by omega
    have hT := fun W (h : Below w.heap.size w W) => toints_any A n c Z W hn2 (hA.below h)
    go_enter Try.func3, Try.ntmps3
    go_wp2_with fail
    refine (hT _ (Below.refl _ _)).mono ?_
    rintro e w1 ⟨g1, rfl, _, hr1, hq⟩
    have q0 := hq
    clear hq
    go_wp2_with fail
    refine (sclauseok_any _ n n Z m w1 (by omega) (Ints.of_row hr1)).mono ?_
    rintro e w2 ⟨rfl, rfl⟩
    clear hr1
    go_wp2_with fail
    refine (hT _ q0).mono ?_
    rintro e w3 ⟨g3, rfl, _, hr3, hq⟩
    replace q0 := btr q0 hq
    have hI := Ints.of_row hr3
    clear hq hr3
    go_wp2_with fail
    refine (clauseok_any _ n n Z m w3 (by omega) hI).mono ?_
    rintro e w4 ⟨rfl, rfl⟩
    generalize okC n Z m = ok
    have dk : (ok != ok) = false := by simp
    go_wp2_with fail
    refine (hT _ q0).mono ?_
    rintro e w5 ⟨g5, rfl, _, hr5, hq⟩
    replace q0 := btr q0 hq
    replace hI := hI.below hq
    have hJ := Ints.of_row hr5
    clear hq hr5
    go_wp2_with fail
    refine (eqints_same (by omega) hI hJ).mono ?_
    rintro e w6 ⟨rfl, hq⟩
    go_wp2_with fail
    go_ret
    exact ⟨rfl, btr q0 hq⟩
end Go.Proofs.Ytmnfnpmeacfebaa
