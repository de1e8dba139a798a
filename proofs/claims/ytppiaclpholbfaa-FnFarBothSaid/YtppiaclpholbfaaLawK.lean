/- Contracts at known values, for the laws over drawn fractions. -/
import Derived.Test.YtppiaclpholbfaaBD
import Derived.Test.YtppiaclpholbfaaBM
import Derived.Test.YtppiaclpholbfaaBR
import Derived.Test.YtppiaclpholbfaaByt
namespace Go.Proofs.Ytppiaclpholbfaa
set_option linter.unusedVariables false
set_option linter.unusedSimpArgs false
open Go.RowKit
theorem rof_at {n d x y : Int} {v : Bool} (w : World) (h : ofR n d = (x, y, v)) :
    Calls Try.prog 65 #[.int .i64 n, .int .i64 d] w fun e w' => e = .returned (.tuple #[.agg #[.int .i64 x, .int .i64 y], .bool v]) ∧ Below w.heap.size w w' := by
  have := rof_any n d w; rw [h] at this; exact this
/-- pairs that stand in W stand in every world grown from it -/
theorem KpL.gro {L : List (Nat × Value × Value)} {W : World} (h : KpL L W) (X : Gro W) : KpL L (gro W X) := KpL.mono (fun _ _ _ x => carry X.h x) h
theorem Bytes.below {B : Nat} {w w' : World} {a : Option Addr} {len : Nat} (h : Bytes B w a len) (hb : Below B w w') : Bytes B w' a len :=
  h.mono fun b o v hl hc => (hb.cell (p := ⟨b, o, none⟩) hl).trans hc
end Go.Proofs.Ytppiaclpholbfaa
