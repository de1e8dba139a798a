/- Contract of the model's LinSum. -/
import Derived.Test.YtppiaclpholbfaaLinSA
namespace Go.Proofs.Ytppiaclpholbfaa
set_option linter.unusedVariables false
set_option linter.unusedSimpArgs false
open Go.RowKit
def sumR (na : Nat) (Z : Nat → Int) (b : Int) (s : Bool) (m : Int) (nb : Nat) (Y : Nat → Int) (d : Int) (u : Bool) (n : Int) : LinR × Bool :=
  if okL na Z b = true ∧ okL nb Y d = true ∧ (0 ≤ m ∧ m ≤ 1000000) ∧ (0 ≤ n ∧ n ≤ 1000000) then addR2 Z b s m Y d u n else (zeroL, false)
end Go.Proofs.Ytppiaclpholbfaa
