/- A list of terms as an argument of a law, read. -/
import Derived.Test.YtcnlolocppbcjaaFramA
namespace Go.Proofs.Ytcnlolocppbcjaa
set_option linter.unusedVariables false
set_option linter.unusedSimpArgs false
open Go.ChangeShapes Go.WideShapes Go.ChangeAt Go.RowKit Go.Joins
set_option maxRecDepth 100000 in
theorem terms_open {H : Type} {enc : TypeId × Value → H} {W : World} {base : Nat} {v : Value} {d : DataW H} {p : List MemPlace}
    (hv : Value.okWide Try.prog W .any base 31 v) (h : DataW.Trod enc Try.prog W 0 (fun _ => true) true 31 v d p) :
    ∃ A n c kid, v = .slice A n c ∧ n ≤ 9223372036854775807 ∧ (∀ k, k < n → Fits 9223372036854775807 (kid k)) ∧ Kids 0 W (.mk ⟨#[]⟩ n kid) A := by
  obtain ⟨a, len, cap, rfl⟩ := okWide_slice Try.underlying31 hv
  obtain ⟨fuel, hf⟩ := h
  exact terms_cells fuel (.slice a len cap) _ (by exact hf)
end Go.Proofs.Ytcnlolocppbcjaa
