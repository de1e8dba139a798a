/- An argument of bytes, read: what the draws ask of it. -/
import Derived.Test.YtoechhdahokoiaaBD
import Derived.ProofKit
import Derived.OpenShut
namespace Go.Proofs.Ytoechhdahokoiaa
set_option linter.unusedVariables false
set_option linter.unusedSimpArgs false
open Go.ChangeShapes Go.WideShapes Go.ChangeAt Go.RowKit
theorem bytes_of {H : Type} {enc : TypeId × Value → H} {P : Program} {W : World} {t e : TypeId} {a : Option Addr} {len cap : Nat} {d : DataW H} {ps : List MemPlace}
    (ht : P.underlying t = some (.slice e)) (he : P.underlying e = some (.int .u8)) (hc : P.cellsOf e = 1) (h : DataW.Trod enc P W 0 (fun _ => true) true t (.slice a len cap) d ps) :
    Bytes W.heap.size W a len ∧ len ≤ cap ∧ cap ≤ 9223372036854775807 := by
  obtain ⟨fuel, hf⟩ := h
  rcases open_ints ht he hc hf with ⟨hcs, hx⟩ | ⟨b, len', cap', zs, hcs, _, hl, hm, hz, hx, hcell, hwz⟩
  · simp [Value.cells] at hcs
    obtain ⟨rfl, rfl, rfl⟩ := hcs
    exact ⟨.inl rfl, by omega, by omega⟩
  · simp [Value.cells] at hcs
    obtain ⟨rfl, rfl, rfl⟩ := hcs
    simp only [if_true] at hz
    unfold maxLen at hm
    refine ⟨?_, hl, by omega⟩
    by_cases hl0 : len = 0
    · exact .inl hl0
    · obtain ⟨b, off, spot⟩ := b
      have hspot : spot = none := by simpa [Addr.add] using World.cell?_spot (hcell 0 (by omega))
      subst hspot
      have c0 := hcell 0 (by omega)
      rw [add_plain] at c0
      have hb := World.block_lt_of_cell? W _ c0
      refine .inr ⟨b, off, fun k => zs.getD k 0, rfl, hb, fun k => ?_, fun k hk => ?_⟩
      · show 0 ≤ zs.getD k 0 ∧ zs.getD k 0 ≤ 255
        by_cases hk : k < zs.length
        · rw [List.getD_eq_getElem?_getD, List.getElem?_eq_getElem hk]
          exact bounds_u8 (hwz _ (List.getElem_mem hk))
        · rw [List.getD_eq_getElem?_getD, List.getElem?_eq_none (by omega)]; simp
      · have := hcell k (by omega)
        rwa [add_plain] at this
end Go.Proofs.Ytoechhdahokoiaa
