/- Contract of the model's ClauseOf. -/
import Derived.Test.YtjnngijilkdhbaaCfD
namespace Go.Proofs.Ytjnngijilkdhbaa
set_option linter.unusedVariables false
set_option linter.unusedSimpArgs false
open Go.RowKit
theorem of6_yes {x : Int} (h0 : x ≠ 0) (h : ¬ 60 < ab6 x) : ofC x 60 = true := by
  have := ab6_le (x := x) (m := 60) (by omega) (by omega)
  exact ofC_iff.2 ⟨h0, this.1, this.2.1⟩
theorem of6_no {x : Int} (h : 60 < ab6 x) : ofC x 60 = false := ofC_no (fun e => by
  have := ab6_in (x := x) (by omega) (by omega)
  rw [this] at h
  split at h <;> omega)
/-- what ClauseOf answers, said of a call -/
def ClP (w : World) (n : Nat) (Z : Nat → Int) (e : Ending) (w' : World) : Prop :=
  ∃ A' c', e = .returned (.tuple #[.slice A' (clR n Z).length c', .bool (okF n Z)]) ∧ Ints w' A' (clR n Z).length (fun k => (clR n Z).getD k 0) ∧ Below w.heap.size w w'
def ClPN (w : World) (n : Nat) (Z : Nat → Int) (e : Ending) (w' : World) : Prop :=
  ∃ A' c', e = .returned (.tuple #[.slice A' (clR n Z).length c', .bool (okF n Z)]) ∧ ((clR n Z).length = 0 ∨ ∃ g off, A' = some ⟨g, off, none⟩ ∧ w.heap.size ≤ g) ∧ Ints w' A' (clR n Z).length (fun k => (clR n Z).getD k 0) ∧ Below w.heap.size w w'
theorem ClPN.no {w w' : World} {n : Nat} {Z : Nat → Int} {A' : Option Addr} {c' : Nat} (h : ¬ OkF n Z) (hb : Below w.heap.size w w') : ClPN w n Z (.returned (.tuple #[.slice A' 0 c', .bool false])) w' :=
  ⟨A', c', by rw [clR_no h, okF_no h]; rfl, .inl (by rw [clR_no h]; rfl), by rw [clR_no h]; exact .inl rfl, hb⟩
theorem ClP.no {w w' : World} {n : Nat} {Z : Nat → Int} {A' : Option Addr} {c' : Nat} (h : ¬ OkF n Z) (hb : Below w.heap.size w w') : ClP w n Z (.returned (.tuple #[.slice A' 0 c', .bool false])) w' :=
  ⟨A', c', by rw [clR_no h, okF_no h]; rfl, by rw [clR_no h]; exact .inl rfl, hb⟩
end Go.Proofs.Ytjnngijilkdhbaa
