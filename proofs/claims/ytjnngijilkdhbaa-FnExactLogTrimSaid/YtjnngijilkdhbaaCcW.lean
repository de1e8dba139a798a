/- Walk of the exact law of CnfOk. -/
import Derived.Test.YtjnngijilkdhbaaCcC
import Derived.Test.YtjnngijilkdhbaaBT
namespace Go.Proofs.Ytjnngijilkdhbaa
set_option linter.unusedVariables false
set_option linter.unusedSimpArgs false
open Go.RowKit
theorem KcL.new2c (w : World) (x y : Value) (t : TypeId) : KcL [(w.heap.size, 0, x), (w.heap.size, 1, y)] (w.alloc (.cells #[x, y] t)) := ⟨(pair_new w x y t).1, (pair_new w x y t).2, trivial⟩
end Go.Proofs.Ytjnngijilkdhbaa
