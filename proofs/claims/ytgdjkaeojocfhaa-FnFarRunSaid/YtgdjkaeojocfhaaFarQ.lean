/- Walk of the exact law of FarSum. -/
import Derived.Test.YtgdjkaeojocfhaaFarN
import Derived.Test.YtgdjkaeojocfhaaFarP
namespace Go.Proofs.Ytgdjkaeojocfhaa
set_option linter.unusedVariables false
set_option linter.unusedSimpArgs false
open Go.RowKit
theorem NewI.ownB {w w' : World} {g n : Nat} {t : TypeId} {Z : Nat → Int} (hg : w.heap.size ≤ g) (hr : w'.rowIs g t n (fun k => .int .i64 (Z k))) : OwnB w.heap.size w'.heap.size w' (some ⟨g, 0, none⟩) n Z :=
  .inr ⟨g, rfl, hg, hr.lt, hr.lt, fun k hk => ⟨hr.cell hk, hr.frozen k⟩⟩
theorem MarkP.wrt {lo hi : Nat} {w w' : World} {row : Option Nat} (hg : w.grownBy w' row) (hr : ∀ g, row = some g → lo ≤ g ∧ g < hi) : Wrt lo hi w w' := Wrt.of_grown hg hr
end Go.Proofs.Ytgdjkaeojocfhaa
