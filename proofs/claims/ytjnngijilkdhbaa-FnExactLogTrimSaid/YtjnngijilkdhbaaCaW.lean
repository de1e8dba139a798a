/- Walk of the exact law of ClauseOk. -/
import Derived.Test.YtjnngijilkdhbaaCaA
namespace Go.Proofs.Ytjnngijilkdhbaa
set_option linter.unusedVariables false
set_option linter.unusedSimpArgs false
open Go.RowKit
theorem eqints_same {A B : Option Addr} {n c d : Nat} {Z : Nat → Int} {w : World} (hn : n ≤ 9223372036854775807) (hA : Ints w A n Z) (hB : Ints w B n Z) :
    Calls Try.prog 26 #[.slice A n c, .slice B n d] w fun e w' => e = .returned (.bool true) ∧ Below w.heap.size w w' := by
  have h := eqints_any A B n n c d Z Z w hn hn hA hB
  rwa [eqI_iff.2 ⟨rfl, fun _ _ => rfl⟩] at h
end Go.Proofs.Ytjnngijilkdhbaa
