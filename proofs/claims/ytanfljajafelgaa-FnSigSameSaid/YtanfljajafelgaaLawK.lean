/- Contracts at known values, for the laws over drawn fractions. -/
import Derived.Test.YtanfljajafelgaaBD
import Derived.Test.YtanfljajafelgaaBM
import Derived.Test.YtanfljajafelgaaBR
import Derived.Test.YtanfljajafelgaaByt
namespace Go.Proofs.Ytanfljajafelgaa
set_option linter.unusedVariables false
set_option linter.unusedSimpArgs false
open Go.RowKit
theorem sok_at (n d : Int) (w : World) {v : Bool} (h : okB n d = v) :
    Calls Try.prog 224 #[.agg #[.int .i64 n, .int .i64 d]] w fun e w' => e = .returned (.bool v) ∧ Below w.heap.size w w' := by subst h; exact sok_any n d w
theorem rless_at {a b c d : Int} {v : Bool} (w : World) (h : lessB a b c d = v) :
    Calls Try.prog 255 #[.agg #[.int .i64 a, .int .i64 b], .agg #[.int .i64 c, .int .i64 d]] w fun e w' => e = .returned (.bool v) ∧ Below w.heap.size w w' := by
  subst h; exact rless_any a b c d w
theorem sless_at {a b c d : Int} {v : Bool} (w : World) (h : lessB a b c d = v) :
    Calls Try.prog 240 #[.agg #[.int .i64 a, .int .i64 b], .agg #[.int .i64 c, .int .i64 d]] w fun e w' => e = .returned (.bool v) ∧ Below w.heap.size w w' := by
  subst h; exact sless_any a b c d w
/-- pairs that stand in W stand in every world grown from it -/
theorem KpL.gro {L : List (Nat × Value × Value)} {W : World} (h : KpL L W) (X : Gro W) : KpL L (gro W X) := KpL.mono (fun _ _ _ x => carry X.h x) h
theorem Bytes.below {B : Nat} {w w' : World} {a : Option Addr} {len : Nat} (h : Bytes B w a len) (hb : Below B w w') : Bytes B w' a len :=
  h.mono fun b o v hl hc => (hb.cell (p := ⟨b, o, none⟩) hl).trans hc
end Go.Proofs.Ytanfljajafelgaa
