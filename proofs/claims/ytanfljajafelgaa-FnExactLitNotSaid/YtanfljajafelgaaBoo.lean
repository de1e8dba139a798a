/- Truth values of statements. -/
import Derived.Test.YtanfljajafelgaaBase
namespace Go.Proofs.Ytanfljajafelgaa
set_option linter.unusedVariables false
theorem bool_of (p : Prop) : ∃ b : Bool, b = true ↔ p := by
  classical
  exact ⟨decide p, by simp⟩
theorem b_yes {b : Bool} {p : Prop} (h : b = true ↔ p) (hp : p) : b = true := h.2 hp
theorem b_no {b : Bool} {p : Prop} (h : b = true ↔ p) (hp : ¬ p) : b = false := by
  cases b
  · rfl
  · exact absurd (h.1 rfl) hp
end Go.Proofs.Ytanfljajafelgaa
