/- Contract of DrawLinNot: one constraint that may be bent. -/
import Derived.Test.YthcabejfmoedfaaDoorLinDD
namespace Go.Proofs.YthcabejfmoedfaaDoor
set_option linter.unusedVariables false
set_option linter.unusedSimpArgs false
open Go.RowKit
/-- a drawn constraint -/
def OneD (w : World) (e : Ending) (w' : World) : Prop :=
  ∃ A n c Z b s, e = .returned (.agg #[.slice A n c, .int .i64 b, .bool s]) ∧ n ≤ 5 ∧ Ints w' A n Z ∧ Below w.heap.size w w'
end Go.Proofs.YthcabejfmoedfaaDoor
