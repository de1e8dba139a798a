/- Walk of the exact law of LinSum. -/
import Derived.Test.YtplocljoanaoeaaMark
import Derived.Test.YtplocljoanaoeaaLinSE
import Derived.Test.YtplocljoanaoeaaPlanB
namespace Go.Proofs.Ytplocljoanaoeaa
set_option linter.unusedVariables false
set_option linter.unusedSimpArgs false
open Go.RowKit
theorem KcL.two (w : World) (x0 x1 x2 y0 y1 y2 : Value) (t : TypeId) : KcL [(w.heap.size, 0, x0), (w.heap.size, 1, x1), (w.heap.size, 2, x2), (w.heap.size + 1, 0, y0), (w.heap.size + 1, 1, y1), (w.heap.size + 1, 2, y2)] ((w.alloc (.cells #[x0, x1, x2] t)).alloc (.cells #[y0, y1, y2] t)) :=
  (KcL.alloc (KcL.new3 w x0 x1 x2 t rfl) _).app (KcL.new3 (w.alloc (.cells #[x0, x1, x2] t)) y0 y1 y2 t (by simp))
theorem sumR_len (na : Nat) (Z : Nat → Int) (b : Int) (s : Bool) (m : Int) (nb : Nat) (Y : Nat → Int) (d : Int) (u : Bool) (n : Int) : (sumR na Z b s m nb Y d u n).1.1 ≤ 4 := by
  unfold sumR addR2
  split
  · split <;> simp [zeroL]
  · simp [zeroL]
end Go.Proofs.Ytplocljoanaoeaa
