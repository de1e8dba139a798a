/- A slice of constraints as an argument of a law, read. -/
import Derived.Test.YtppbapgjpfgmaaaFram
import Derived.Test.YtppbapgjpfgmaaaFarA
import Derived.Deep.Slices
namespace Go.Proofs.Ytppbapgjpfgmaaa
set_option linter.unusedVariables false
set_option linter.unusedSimpArgs false
open Go.ChangeShapes Go.WideShapes Go.ChangeAt Go.RowKit Go.Joins
set_option maxRecDepth 100000 in
theorem intsW_open {H : Type} {enc : TypeId × Value → H} {W : World} {base : Nat} {v : Value} {d : DataW H} {p : List MemPlace}
    (hv : Value.okWide Try.prog W .any base 32 v) (h : DataW.Trod enc Try.prog W 0 (fun _ => true) true 32 v d p) :
    ∃ A n c Z, v = .slice A n c ∧ Ints W A n Z ∧ n ≤ 9223372036854775807 := by
  obtain ⟨A, n, c, rfl⟩ := okWide_slice Try.underlying32 hv
  obtain ⟨fuel, h⟩ := h
  obtain ⟨A', n', c', Z, e, hZ, h1, h2⟩ := ints_open Try.underlying32 Try.underlying3 cellsI h
  injection e with e1 e2 e3
  subst e1 e2 e3
  exact ⟨A, n, c, Z, rfl, hZ, Nat.le_trans h1 h2⟩
set_option maxRecDepth 100000 in
theorem lins_open {H : Type} {enc : TypeId × Value → H} {W : World} {base : Nat} {v : Value} {d : DataW H} {p : List MemPlace}
    (hv : Value.okWide Try.prog W .any base 22 v) (h : DataW.Trod enc Try.prog W 0 (fun _ => true) true 22 v d p) :
    ∃ A n c L, v = .slice A n c ∧ Lins W A n L ∧ n ≤ 9223372036854775807 := by
  obtain ⟨A, n, c, rfl⟩ := okWide_slice Try.underlying22 hv
  obtain ⟨fuel, h⟩ := h
  rcases Go.Deep.open_slice Try.underlying22 h with ⟨hcs, hx⟩ | ⟨a, len, cap, m, k, Dt, Pl, hcs, hb, hl, hm, hmm, hx, hi⟩
  · obtain ⟨rfl, rfl, rfl⟩ : A = none ∧ n = 0 ∧ c = 0 := by simpa [Value.cells] using hcs
    exact ⟨none, 0, 0, ⟨fun _ => 0, fun _ _ => 0, fun _ => 0, fun _ => false⟩, rfl, .inl rfl, by omega⟩
  · obtain ⟨rfl, rfl, rfl⟩ : A = some a ∧ n = len ∧ c = cap := by simpa [Value.cells] using hcs
    simp only [if_true] at hmm
    unfold maxLen at hm
    rw [cellsL] at hi
    have each : ∀ i, i < c → ∃ q : Option Addr × Nat × Nat × (Nat → Int) × Int × Bool, W.cell? (a.add (i * 3)) = some (.slice q.1 q.2.1 q.2.2.1) ∧ W.cell? (a.add (i * 3 + 1)) = some (.int .i64 q.2.2.2.2.1) ∧ W.cell? (a.add (i * 3 + 2)) = some (.bool q.2.2.2.2.2) ∧ q.2.1 ≤ 9223372036854775807 ∧ Ints W q.1 q.2.1 q.2.2.2.1 := by
      intro i him
      obtain ⟨cs', h1, h2⟩ := hi i (by omega)
      obtain ⟨_, hlen, hcell⟩ := World.cells?_some h1
      obtain ⟨xs, k', hk, hxy, _, hxl, hf⟩ := DataW.trod_struct Try.underlying42 h2
      match xs, hxl, cs', hlen with
      | [y0, y1, y2], _, [v0, v1, v2], _ =>
        have g0 := hf 0 _ rfl
        have g1 := hf 1 _ rfl
        have g2 := hf 2 _ rfl
        have e0 := hcell 0 (by omega)
        have e1 := hcell 1 (by omega)
        have e2 := hcell 2 (by omega)
        rw [Go.Deep.add_add] at e0 e1 e2
        obtain ⟨A', n', c', Z, w0, hZ, hn', hc'⟩ := ints_open Try.underlying32 Try.underlying3 cellsI g0
        obtain ⟨b, w1, _, _⟩ := DataW.trod_int Try.underlying3 g1
        obtain ⟨s, w2, _⟩ := DataW.trod_bool Try.underlying4 g2
        have w1' : [v1] = [Value.int .i64 b] := w1
        have w2' : [v2] = [Value.bool s] := w2
        simp only [List.cons.injEq, and_true] at w1' w2'
        subst w1'; subst w2'
        have w0' : v0 = .slice A' n' c' := w0
        subst w0'
        exact ⟨(A', n', c', Z, b, s), by simpa using e0, by simpa using e1, by simpa using e2, Nat.le_trans hn' hc', hZ⟩
    obtain ⟨q, hq⟩ := Go.Deep.choose_lt each
    by_cases hl0 : n = 0
    · exact ⟨some a, n, c, ⟨fun _ => 0, fun _ _ => 0, fun _ => 0, fun _ => false⟩, rfl, .inl hl0, by omega⟩
    · obtain ⟨b, off, spot⟩ := a
      have c0 := (hq 0 (by omega)).1
      have hspot : spot = none := by simpa [Addr.add] using World.cell?_spot c0
      subst hspot
      rw [add_plain] at c0
      have hbl := World.block_lt_of_cell? W _ c0
      refine ⟨some ⟨b, off, none⟩, n, c, ⟨fun k => (q k).2.1, fun k => (q k).2.2.2.1, fun k => (q k).2.2.2.2.1, fun k => (q k).2.2.2.2.2⟩, rfl, .inr ⟨b, off, rfl, hbl, fun k hk => ?_⟩, by omega⟩
      have := hq k (by omega)
      rw [add_plain, add_plain, add_plain] at this
      exact ⟨(q k).1, (q k).2.2.1, this.1, by rw [Nat.add_assoc]; exact this.2.1, by rw [Nat.add_assoc]; exact this.2.2.1, this.2.2.2.1, this.2.2.2.2⟩
end Go.Proofs.Ytppbapgjpfgmaaa
