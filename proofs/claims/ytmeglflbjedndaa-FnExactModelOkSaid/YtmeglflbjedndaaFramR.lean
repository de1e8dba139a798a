/- A slice of fractions as an argument of a law, read. -/
import Derived.Test.YtmeglflbjedndaaFram
import Derived.Test.YtmeglflbjedndaaLinU
import Derived.Deep.Slices
namespace Go.Proofs.Ytmeglflbjedndaa
set_option linter.unusedVariables false
set_option linter.unusedSimpArgs false
open Go.ChangeShapes Go.WideShapes Go.ChangeAt Go.RowKit Go.Joins
theorem cellsR : Try.prog.cellsOf 236 = 2 := by kernel_rfl
set_option maxRecDepth 100000 in
theorem rats_open {H : Type} {enc : TypeId × Value → H} {W : World} {base : Nat} {v : Value} {d : DataW H} {p : List MemPlace}
    (hv : Value.okWide Try.prog W .any base 235 v) (h : DataW.Trod enc Try.prog W 0 (fun _ => true) true 235 v d p) :
    ∃ A n c N D, v = .slice A n c ∧ Rats W A n N D ∧ n ≤ 9223372036854775807 := by
  obtain ⟨A, n, c, rfl⟩ := okWide_slice Try.underlying235 hv
  obtain ⟨fuel, h⟩ := h
  rcases Go.Deep.open_slice Try.underlying235 h with ⟨hcs, hx⟩ | ⟨a, len, cap, m, k, Dt, Pl, hcs, hb, hl, hm, hmm, hx, hi⟩
  · obtain ⟨rfl, rfl, rfl⟩ : A = none ∧ n = 0 ∧ c = 0 := by simpa [Value.cells] using hcs
    exact ⟨none, 0, 0, fun _ => 0, fun _ => 0, rfl, .inl rfl, by omega⟩
  · obtain ⟨rfl, rfl, rfl⟩ : A = some a ∧ n = len ∧ c = cap := by simpa [Value.cells] using hcs
    simp only [if_true] at hmm
    unfold maxLen at hm
    rw [cellsR] at hi
    have each : ∀ i, i < c → ∃ q : Int × Int, W.cell? (a.add (i * 2)) = some (.int .i64 q.1) ∧ W.cell? (a.add (i * 2 + 1)) = some (.int .i64 q.2) := by
      intro i him
      obtain ⟨cs', h1, h2⟩ := hi i (by omega)
      obtain ⟨_, hlen, hcell⟩ := World.cells?_some h1
      obtain ⟨xs, k', hk, hxy, _, hxl, hf⟩ := DataW.trod_struct Try.underlying236 h2
      match xs, hxl, cs', hlen with
      | [y0, y1], _, [v0, v1], _ =>
        have g0 := hf 0 _ rfl
        have g1 := hf 1 _ rfl
        have e0 := hcell 0 (by omega)
        have e1 := hcell 1 (by omega)
        rw [Go.Deep.add_add] at e0 e1
        obtain ⟨z0, w0, _, _⟩ := DataW.trod_int Try.underlying3 g0
        obtain ⟨z1, w1, _, _⟩ := DataW.trod_int Try.underlying3 g1
        have w0' : [v0] = [Value.int .i64 z0] := w0
        have w1' : [v1] = [Value.int .i64 z1] := w1
        simp only [List.cons.injEq, and_true] at w0' w1'
        subst w0'; subst w1'
        exact ⟨(z0, z1), by simpa using e0, by simpa using e1⟩
    obtain ⟨q, hq⟩ := Go.Deep.choose_lt each
    by_cases hl0 : n = 0
    · exact ⟨some a, n, c, fun _ => 0, fun _ => 0, rfl, .inl hl0, by omega⟩
    · obtain ⟨b, off, spot⟩ := a
      have c0 := (hq 0 (by omega)).1
      have hspot : spot = none := by simpa [Addr.add] using World.cell?_spot c0
      subst hspot
      rw [add_plain] at c0
      have hbl := World.block_lt_of_cell? W _ c0
      refine ⟨some ⟨b, off, none⟩, n, c, fun k => (q k).1, fun k => (q k).2, rfl, .inr ⟨b, off, rfl, hbl, fun k hk => ?_⟩, by omega⟩
      have := hq k (by omega)
      rw [add_plain, add_plain] at this
      exact ⟨this.1, by rw [Nat.add_assoc]; exact this.2⟩
end Go.Proofs.Ytmeglflbjedndaa
