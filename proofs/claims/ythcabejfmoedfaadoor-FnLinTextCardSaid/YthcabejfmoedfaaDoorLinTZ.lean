/- A constraint that is none has no text. -/
import Derived.Test.YthcabejfmoedfaaDoorBL
namespace Go.Proofs.YthcabejfmoedfaaDoor
set_option linter.unusedVariables false
set_option linter.unusedSimpArgs false
open Go.RowKit
set_option maxRecDepth 100000 in
set_option maxHeartbeats 1000000 in
theorem lintext_bad {A : Option Addr} {n c : Nat} {Z : Nat → Int} {b : Int} {s : Bool} {w : World} (hn : n ≤ 9223372036854775807) (hA : Ints w A n Z) (hv : okL n Z b = false) :
    Calls Tryd.prog 22 #[.agg #[.slice A n c, .int .i64 b, .bool s]] w fun e w' => e = .returned (.string ⟨#[]⟩) ∧ Below w.heap.size w w' := by
  obtain ⟨x0, x1, x2, x3, x4, u, hx⟩ := wideV_six n Z b s
  have hW := wide_far (c := c) hn hA hv hx
  clear hv hx hA hn
  go_enter Tryd.func22, Tryd.ntmps22
  go_wp2_with fail
  refine (hW _ (bal (Below.refl _ _) _)).mono ?_
  rintro e w1 ⟨rfl, hq⟩
  go_wp2
  go_ret
  refine ⟨rfl, ?_⟩
  (repeat first | with_reducible exact Below.refl _ _ | with_reducible assumption | with_reducible refine Below.drew ?_ | with_reducible refine bdn ?_ _ | with_reducible refine bal ?_ _ | (with_reducible refine bst ?_ ?_ _; rotate_left; (simp <;> omega)) | (with_reducible refine btr ?_ (by with_reducible assumption)))
end Go.Proofs.YthcabejfmoedfaaDoor
