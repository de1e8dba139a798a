/- Arguments of the laws of clauses, read: slices of numbers and of truth values. -/
import Derived.Test.YtmnfnpmeacfebaaFram
import Derived.Deep.Slices
namespace Go.Proofs.Ytmnfnpmeacfebaa
set_option linter.unusedVariables false
set_option linter.unusedSimpArgs false
open Go.ChangeShapes Go.WideShapes Go.ChangeAt Go.RowKit Go.Joins
set_option maxRecDepth 100000 in
theorem intsW_open {H : Type} {enc : TypeId × Value → H} {W : World} {base : Nat} {v : Value} {d : DataW H} {p : List MemPlace}
    (hv : Value.okWide Try.prog W .any base 22 v) (h : DataW.Trod enc Try.prog W 0 (fun _ => true) true 22 v d p) :
    ∃ A n c Z, v = .slice A n c ∧ Ints W A n Z ∧ n ≤ 9223372036854775807 := by
  obtain ⟨A, n, c, rfl⟩ := okWide_slice Try.underlying22 hv
  obtain ⟨fuel, h⟩ := h
  obtain ⟨A', n', c', Z, e, hZ, h1, h2⟩ := ints_open Try.underlying22 Try.underlying3 cellsI h
  injection e with e1 e2 e3
  subst e1 e2 e3
  exact ⟨A, n, c, Z, rfl, hZ, Nat.le_trans h1 h2⟩
end Go.Proofs.Ytmnfnpmeacfebaa
