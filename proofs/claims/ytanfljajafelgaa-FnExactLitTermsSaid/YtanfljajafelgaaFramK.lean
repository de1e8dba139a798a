/- A literal as an argument of a law, read. -/
import Derived.Test.YtanfljajafelgaaFramA
import Derived.Test.YtanfljajafelgaaBG
namespace Go.Proofs.Ytanfljajafelgaa
set_option linter.unusedVariables false
set_option linter.unusedSimpArgs false
open Go.ChangeShapes Go.WideShapes Go.ChangeAt Go.RowKit Go.Joins
theorem cellsLt : Try.prog.cellsOf 100 = 10 := by kernel_rfl
set_option maxRecDepth 100000 in
theorem lit_cells {H : Type} {enc : TypeId × Value → H} {W : World} (fuel : Nat) (cs : List Value) (x : DataW H × List MemPlace) (h : DataW.trod enc Try.prog W 0 (fun _ => true) true fuel 100 cs = some x) :
    ∃ x no A1 c1 A2 c2 A3 c3 A4 c4, cs = (At.lit x no A1 c1 A2 c2 A3 c3 A4 c4).toList ∧ AtF 9223372036854775807 x ∧ AtK W x A1 A2 A3 A4 := by
  obtain ⟨xs, k', hk, hxy, hlen, hxl, hf⟩ := DataW.trod_struct Try.underlying100 h
  rw [cellsLt] at hlen
  match xs, hxl, cs, hlen with
  | [y0, y1], _, [v0, v1, v2, v3, v4, v5, v6, v7, v8, v9], _ =>
    have g0 := hf 0 _ rfl
    have g1 := hf 1 _ rfl
    obtain ⟨x, A1, c1, A2, c2, A3, c3, A4, c4, e, hF, hA⟩ := atom_cells k' [v0, v1, v2, v3, v4, v5, v6, v7, v8] _ (by exact g0)
    obtain ⟨no, w6, _⟩ := DataW.trod_bool Try.underlying4 g1
    have w6' : [v9] = [Value.bool no] := w6
    simp only [At.cs, List.cons.injEq, and_true] at w6' e
    obtain ⟨rfl, rfl, rfl, rfl, rfl, rfl, rfl, rfl, rfl⟩ := e
    subst w6'
    exact ⟨x, no, A1, c1, A2, c2, A3, c3, A4, c4, rfl, hF, hA⟩
set_option maxRecDepth 100000 in
theorem lit_open {H : Type} {enc : TypeId × Value → H} {W : World} {base : Nat} {v : Value} {d : DataW H} {p : List MemPlace}
    (hv : Value.okWide Try.prog W .any base 100 v) (h : DataW.Trod enc Try.prog W 0 (fun _ => true) true 100 v d p) :
    ∃ x no A1 c1 A2 c2 A3 c3 A4 c4, v = .agg (At.lit x no A1 c1 A2 c2 A3 c3 A4 c4) ∧ AtF 9223372036854775807 x ∧ AtK W x A1 A2 A3 A4 := by
  obtain ⟨cs, rfl, hsz⟩ := okWide_struct Try.underlying100 hv
  obtain ⟨fuel, hf⟩ := h
  obtain ⟨x, no, A1, c1, A2, c2, A3, c3, A4, c4, e, hF, hA⟩ := lit_cells fuel cs.toList _ (by exact hf)
  exact ⟨x, no, A1, c1, A2, c2, A3, c3, A4, c4, by rw [show cs = At.lit x no A1 c1 A2 c2 A3 c3 A4 c4 from Array.toList_inj.1 e], hF, hA⟩
end Go.Proofs.Ytanfljajafelgaa
