/- Contracts at known values, for the laws over drawn fractions. -/
import Derived.Test.YtbhagobkkobgfaaBD
import Derived.Test.YtbhagobkkobgfaaBM
import Derived.Test.YtbhagobkkobgfaaBR
import Derived.Test.YtbhagobkkobgfaaByt
namespace Go.Proofs.Ytbhagobkkobgfaa
set_option linter.unusedVariables false
set_option linter.unusedSimpArgs false
open Go.RowKit
/-- pairs that stand in W stand in every world grown from it -/
theorem KpL.gro {L : List (Nat × Value × Value)} {W : World} (h : KpL L W) (X : Gro W) : KpL L (gro W X) := KpL.mono (fun _ _ _ x => carry X.h x) h
theorem Bytes.below {B : Nat} {w w' : World} {a : Option Addr} {len : Nat} (h : Bytes B w a len) (hb : Below B w w') : Bytes B w' a len :=
  h.mono fun b o v hl hc => (hb.cell (p := ⟨b, o, none⟩) hl).trans hc
end Go.Proofs.Ytbhagobkkobgfaa
