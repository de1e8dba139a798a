/- Walks of the exact laws of constraints that answer a bool: LinOk, LinBad, LinFree. -/
import Derived.Test.YtppbapgjpfgmaaaLinN
namespace Go.Proofs.Ytppbapgjpfgmaaa
set_option linter.unusedVariables false
set_option linter.unusedSimpArgs false
open Go.RowKit
theorem new3 (w : World) (x y z : Value) (t : TypeId) : (w.alloc (.cells #[x, y, z] t)).cell? ⟨w.heap.size, 0, none⟩ = some x ∧ (w.alloc (.cells #[x, y, z] t)).cell? ⟨w.heap.size, 1, none⟩ = some y ∧ (w.alloc (.cells #[x, y, z] t)).cell? ⟨w.heap.size, 2, none⟩ = some z := by
  refine ⟨?_, ?_, ?_⟩ <;> simp [go_sem]
theorem eqlin_same {A B : Option Addr} {n c d : Nat} {Z : Nat → Int} {b : Int} {s : Bool} {w : World} (hn : n ≤ 9223372036854775807) (hA : Ints w A n Z) (hB : Ints w B n Z) :
    Calls Try.prog 28 #[.agg #[.slice A n c, .int .i64 b, .bool s], .agg #[.slice B n d, .int .i64 b, .bool s]] w fun e w' => e = .returned (.bool true) ∧ Below w.heap.size w w' := by
  have h := eqlin_any A B n n c d Z Z b b s s w hn hn hA hB
  rw [eqL_self] at h
  exact h
end Go.Proofs.Ytppbapgjpfgmaaa
