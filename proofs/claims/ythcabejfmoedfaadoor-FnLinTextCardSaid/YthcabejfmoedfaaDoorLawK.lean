/- Contracts at known values, for the laws over drawn fractions. -/
import Derived.Test.YthcabejfmoedfaaDoorBD
import Derived.Test.YthcabejfmoedfaaDoorBM
import Derived.Test.YthcabejfmoedfaaDoorBR
import Derived.Test.YthcabejfmoedfaaDoorByt
namespace Go.Proofs.YthcabejfmoedfaaDoor
set_option linter.unusedVariables false
set_option linter.unusedSimpArgs false
open Go.RowKit
theorem ratok_at (n d : Int) (w : World) {v : Bool} (h : okB n d = v) :
    Calls Tryd.prog 18 #[.agg #[.int .i64 n, .int .i64 d]] w fun e w' => e = .returned (.bool v) ∧ Below w.heap.size w w' := by subst h; exact ratok_any n d w
theorem sok_at (n d : Int) (w : World) {v : Bool} (h : okB n d = v) :
    Calls Tryd.prog 16 #[.agg #[.int .i64 n, .int .i64 d]] w fun e w' => e = .returned (.bool v) ∧ Below w.heap.size w w' := by subst h; exact sok_any n d w
theorem sof_at {n d x y : Int} {v : Bool} (w : World) (h : ofR n d = (x, y, v)) :
    Calls Tryd.prog 97 #[.int .i64 n, .int .i64 d] w fun e w' => e = .returned (.tuple #[.agg #[.int .i64 x, .int .i64 y], .bool v]) ∧ Below w.heap.size w w' := by
  have := sof_any n d w; rw [h] at this; exact this
/-- pairs that stand in W stand in every world grown from it -/
theorem KpL.gro {L : List (Nat × Value × Value)} {W : World} (h : KpL L W) (X : Gro W) : KpL L (gro W X) := KpL.mono (fun _ _ _ x => carry X.h x) h
theorem Bytes.below {B : Nat} {w w' : World} {a : Option Addr} {len : Nat} (h : Bytes B w a len) (hb : Below B w w') : Bytes B w' a len :=
  h.mono fun b o v hl hc => (hb.cell (p := ⟨b, o, none⟩) hl).trans hc
end Go.Proofs.YthcabejfmoedfaaDoor
