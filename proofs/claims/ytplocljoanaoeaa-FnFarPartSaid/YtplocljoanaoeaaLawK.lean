/- Contracts at known values, for the laws over drawn fractions. -/
import Derived.Test.YtplocljoanaoeaaBD
import Derived.Test.YtplocljoanaoeaaBM
import Derived.Test.YtplocljoanaoeaaBR
import Derived.Test.YtplocljoanaoeaaByt
namespace Go.Proofs.Ytplocljoanaoeaa
set_option linter.unusedVariables false
set_option linter.unusedSimpArgs false
open Go.RowKit
theorem ratok_at (n d : Int) (w : World) {v : Bool} (h : okB n d = v) :
    Calls Try.prog 29 #[.agg #[.int .i64 n, .int .i64 d]] w fun e w' => e = .returned (.bool v) ∧ Below w.heap.size w w' := by subst h; exact ratok_any n d w
theorem sok_at (n d : Int) (w : World) {v : Bool} (h : okB n d = v) :
    Calls Try.prog 88 #[.agg #[.int .i64 n, .int .i64 d]] w fun e w' => e = .returned (.bool v) ∧ Below w.heap.size w w' := by subst h; exact sok_any n d w
theorem radd_at {a b c d x y : Int} {v : Bool} (w : World) (h : addR a b c d = (x, y, v)) :
    Calls Try.prog 79 #[.agg #[.int .i64 a, .int .i64 b], .agg #[.int .i64 c, .int .i64 d]] w fun e w' => e = .returned (.tuple #[.agg #[.int .i64 x, .int .i64 y], .bool v]) ∧ Below w.heap.size w w' := by
  have := radd_any a b c d w; rw [h] at this; exact this
theorem sadd_at {a b c d x y : Int} {v : Bool} (w : World) (h : addR a b c d = (x, y, v)) :
    Calls Try.prog 110 #[.agg #[.int .i64 a, .int .i64 b], .agg #[.int .i64 c, .int .i64 d]] w fun e w' => e = .returned (.tuple #[.agg #[.int .i64 x, .int .i64 y], .bool v]) ∧ Below w.heap.size w w' := by
  have := sadd_any a b c d w; rw [h] at this; exact this
theorem rmul_at {a b c d x y : Int} {v : Bool} (w : World) (h : mulR a b c d = (x, y, v)) :
    Calls Try.prog 78 #[.agg #[.int .i64 a, .int .i64 b], .agg #[.int .i64 c, .int .i64 d]] w fun e w' => e = .returned (.tuple #[.agg #[.int .i64 x, .int .i64 y], .bool v]) ∧ Below w.heap.size w w' := by
  have := rmul_any a b c d w; rw [h] at this; exact this
theorem smul_at {a b c d x y : Int} {v : Bool} (w : World) (h : mulR a b c d = (x, y, v)) :
    Calls Try.prog 111 #[.agg #[.int .i64 a, .int .i64 b], .agg #[.int .i64 c, .int .i64 d]] w fun e w' => e = .returned (.tuple #[.agg #[.int .i64 x, .int .i64 y], .bool v]) ∧ Below w.heap.size w w' := by
  have := smul_any a b c d w; rw [h] at this; exact this
theorem rmid_at {a b c d x y : Int} {v : Bool} (w : World) (h : midR a b c d = (x, y, v)) :
    Calls Try.prog 115 #[.agg #[.int .i64 a, .int .i64 b], .agg #[.int .i64 c, .int .i64 d]] w fun e w' => e = .returned (.tuple #[.agg #[.int .i64 x, .int .i64 y], .bool v]) ∧ Below w.heap.size w w' := by
  have := rmid_any a b c d w; rw [h] at this; exact this
theorem smid_at {a b c d x y : Int} {v : Bool} (w : World) (h : midR a b c d = (x, y, v)) :
    Calls Try.prog 109 #[.agg #[.int .i64 a, .int .i64 b], .agg #[.int .i64 c, .int .i64 d]] w fun e w' => e = .returned (.tuple #[.agg #[.int .i64 x, .int .i64 y], .bool v]) ∧ Below w.heap.size w w' := by
  have := smid_any a b c d w; rw [h] at this; exact this
theorem rof_at {n d x y : Int} {v : Bool} (w : World) (h : ofR n d = (x, y, v)) :
    Calls Try.prog 116 #[.int .i64 n, .int .i64 d] w fun e w' => e = .returned (.tuple #[.agg #[.int .i64 x, .int .i64 y], .bool v]) ∧ Below w.heap.size w w' := by
  have := rof_any n d w; rw [h] at this; exact this
theorem sof_at {n d x y : Int} {v : Bool} (w : World) (h : ofR n d = (x, y, v)) :
    Calls Try.prog 63 #[.int .i64 n, .int .i64 d] w fun e w' => e = .returned (.tuple #[.agg #[.int .i64 x, .int .i64 y], .bool v]) ∧ Below w.heap.size w w' := by
  have := sof_any n d w; rw [h] at this; exact this
theorem rless_at {a b c d : Int} {v : Bool} (w : World) (h : lessB a b c d = v) :
    Calls Try.prog 48 #[.agg #[.int .i64 a, .int .i64 b], .agg #[.int .i64 c, .int .i64 d]] w fun e w' => e = .returned (.bool v) ∧ Below w.heap.size w w' := by
  subst h; exact rless_any a b c d w
theorem sless_at {a b c d : Int} {v : Bool} (w : World) (h : lessB a b c d = v) :
    Calls Try.prog 87 #[.agg #[.int .i64 a, .int .i64 b], .agg #[.int .i64 c, .int .i64 d]] w fun e w' => e = .returned (.bool v) ∧ Below w.heap.size w w' := by
  subst h; exact sless_any a b c d w
/-- pairs that stand in W stand in every world grown from it -/
theorem KpL.gro {L : List (Nat × Value × Value)} {W : World} (h : KpL L W) (X : Gro W) : KpL L (gro W X) := KpL.mono (fun _ _ _ x => carry X.h x) h
theorem Bytes.below {B : Nat} {w w' : World} {a : Option Addr} {len : Nat} (h : Bytes B w a len) (hb : Below B w w') : Bytes B w' a len :=
  h.mono fun b o v hl hc => (hb.cell (p := ⟨b, o, none⟩) hl).trans hc
end Go.Proofs.Ytplocljoanaoeaa
