/- Two slices of the same numbers, compared by the laws. -/
import Derived.Test.YtppbapgjpfgmaaaBL
namespace Go.Proofs.Ytppbapgjpfgmaaa
set_option linter.unusedVariables false
open Go.RowKit
theorem eqints_same (A B : Option Addr) (n c d : Nat) (Z : Nat → Int) (w : World) (hn : n ≤ 9223372036854775807) (hA : Ints w A n Z) (hB : Ints w B n Z) :
    Calls Try.prog 15 #[.slice A n c, .slice B n d] w fun e w' => e = .returned (.bool true) ∧ Below w.heap.size w w' := by
  have h := eqints_any A B n n c d Z Z w hn hn hA hB
  rw [eqI_iff.2 ⟨rfl, fun _ _ => rfl⟩] at h
  exact h
end Go.Proofs.Ytppbapgjpfgmaaa
