/- Arguments of the laws of clauses, read: slices of numbers and of truth values, formulas in conjunctive normal form. -/
import Derived.Test.YtjnngijilkdhbaaFram
import Derived.Deep.Slices
import Derived.Test.YtjnngijilkdhbaaCcA
namespace Go.Proofs.Ytjnngijilkdhbaa
set_option linter.unusedVariables false
set_option linter.unusedSimpArgs false
open Go.ChangeShapes Go.WideShapes Go.ChangeAt Go.RowKit Go.Joins
set_option maxRecDepth 100000 in
theorem intsW_open {H : Type} {enc : TypeId × Value → H} {W : World} {base : Nat} {v : Value} {d : DataW H} {p : List MemPlace}
    (hv : Value.okWide Try.prog W .any base 38 v) (h : DataW.Trod enc Try.prog W 0 (fun _ => true) true 38 v d p) :
    ∃ A n c Z, v = .slice A n c ∧ Ints W A n Z ∧ n ≤ 9223372036854775807 := by
  obtain ⟨A, n, c, rfl⟩ := okWide_slice Try.underlying38 hv
  obtain ⟨fuel, h⟩ := h
  obtain ⟨A', n', c', Z, e, hZ, h1, h2⟩ := ints_open Try.underlying38 Try.underlying3 cellsI h
  injection e with e1 e2 e3
  subst e1 e2 e3
  exact ⟨A, n, c, Z, rfl, hZ, Nat.le_trans h1 h2⟩
theorem cellsBl : Try.prog.cellsOf 4 = 1 := by kernel_rfl
set_option maxRecDepth 100000 in
theorem bools_open {H : Type} {enc : TypeId × Value → H} {W : World} {base : Nat} {v : Value} {d : DataW H} {p : List MemPlace}
    (hv : Value.okWide Try.prog W .any base 56 v) (h : DataW.Trod enc Try.prog W 0 (fun _ => true) true 56 v d p) :
    ∃ A n c V, v = .slice A n c ∧ Bools W A n V ∧ n ≤ 9223372036854775807 := by
  obtain ⟨A, n, c, rfl⟩ := okWide_slice Try.underlying56 hv
  obtain ⟨fuel, h⟩ := h
  rcases Go.Deep.open_slice1 Try.underlying56 cellsBl h with ⟨hcs, hx⟩ | ⟨a, len, cap, m, k, V, Dt, Pl, hcs, hb, hl, hm, hmm, hx, hi⟩
  · obtain ⟨rfl, rfl, rfl⟩ : A = none ∧ n = 0 ∧ c = 0 := by simpa [Value.cells] using hcs
    exact ⟨none, 0, 0, fun _ => false, rfl, .inl rfl, by omega⟩
  · obtain ⟨rfl, rfl, rfl⟩ : A = some a ∧ n = len ∧ c = cap := by simpa [Value.cells] using hcs
    simp only [if_true] at hmm
    unfold maxLen at hm
    have each : ∀ i, i < c → ∃ q : Bool, W.cell? (a.add i) = some (.bool q) := by
      intro i him
      obtain ⟨h1, h2⟩ := hi i (by omega)
      obtain ⟨s, w2, _⟩ := DataW.trod_bool Try.underlying4 h2
      have w2' : [V i] = [Value.bool s] := w2
      simp only [List.cons.injEq, and_true] at w2'
      rw [w2'] at h1
      exact ⟨s, h1⟩
    obtain ⟨q, hq⟩ := Go.Deep.choose_lt each
    by_cases hl0 : n = 0
    · exact ⟨some a, n, c, fun _ => false, rfl, .inl hl0, by omega⟩
    · obtain ⟨b, off, spot⟩ := a
      have c0 := hq 0 (by omega)
      have hspot : spot = none := by simpa [Addr.add] using World.cell?_spot c0
      subst hspot
      rw [add_plain] at c0
      have hbl := World.block_lt_of_cell? W _ c0
      refine ⟨some ⟨b, off, none⟩, n, c, q, rfl, .inr ⟨b, off, rfl, hbl, fun k hk => ?_⟩, by omega⟩
      have := hq k (by omega)
      rwa [add_plain] at this
theorem cellsIS : Try.prog.cellsOf 38 = 1 := by kernel_rfl
theorem cellsCnf : Try.prog.cellsOf 28 = 2 := by kernel_rfl
set_option maxRecDepth 100000 in
theorem intss_cells {H : Type} {enc : TypeId × Value → H} {W : World} {v : Value} {fuel : Nat} {y : DataW H × List MemPlace} (h : DataW.trod enc Try.prog W 0 (fun _ => true) true fuel 22 [v] = some y) :
    ∃ A n c L, v = .slice A n c ∧ IntSS W A n L ∧ n ≤ 9223372036854775807 := by
  rcases Go.Deep.open_slice1 Try.underlying22 cellsIS h with ⟨hcs, hx⟩ | ⟨a, len, cap, m, k, V, Dt, Pl, hcs, hb, hl, hm, hmm, hx, hi⟩
  · obtain rfl : v = .slice none 0 0 := by simpa using hcs
    exact ⟨none, 0, 0, ⟨fun _ => 0, fun _ _ => 0⟩, rfl, .inl rfl, by omega⟩
  · obtain rfl : v = .slice (some a) len cap := by simpa using hcs
    simp only [if_true] at hmm
    unfold maxLen at hm
    have each : ∀ i, i < cap → ∃ q : Option Addr × Nat × Nat × (Nat → Int), W.cell? (a.add i) = some (.slice q.1 q.2.1 q.2.2.1) ∧ q.2.1 ≤ 9223372036854775807 ∧ Ints W q.1 q.2.1 q.2.2.2 := by
      intro i him
      obtain ⟨h1, h2⟩ := hi i (by omega)
      obtain ⟨A', n', c', Z, w0, hZ, hn', hc'⟩ := ints_open Try.underlying38 Try.underlying3 cellsI h2
      rw [w0] at h1
      exact ⟨(A', n', c', Z), h1, Nat.le_trans hn' hc', hZ⟩
    obtain ⟨q, hq⟩ := Go.Deep.choose_lt each
    by_cases hl0 : len = 0
    · exact ⟨some a, len, cap, ⟨fun _ => 0, fun _ _ => 0⟩, rfl, .inl hl0, by omega⟩
    · obtain ⟨b, off, spot⟩ := a
      have c0 := (hq 0 (by omega)).1
      have hspot : spot = none := by simpa [Addr.add] using World.cell?_spot c0
      subst hspot
      rw [add_plain] at c0
      have hbl := World.block_lt_of_cell? W _ c0
      refine ⟨some ⟨b, off, none⟩, len, cap, ⟨fun k => (q k).2.1, fun k => (q k).2.2.2⟩, rfl, .inr ⟨b, off, rfl, hbl, fun k hk => ?_⟩, by omega⟩
      have := hq k (by omega)
      rw [add_plain] at this
      exact ⟨(q k).1, (q k).2.2.1, this.1, this.2.1, this.2.2⟩
set_option maxRecDepth 100000 in
theorem intssW_open {H : Type} {enc : TypeId × Value → H} {W : World} {base : Nat} {v : Value} {d : DataW H} {p : List MemPlace}
    (hv : Value.okWide Try.prog W .any base 22 v) (h : DataW.Trod enc Try.prog W 0 (fun _ => true) true 22 v d p) :
    ∃ A n c L, v = .slice A n c ∧ IntSS W A n L ∧ n ≤ 9223372036854775807 := by
  obtain ⟨A, n, c, rfl⟩ := okWide_slice Try.underlying22 hv
  obtain ⟨fuel, h⟩ := h
  exact intss_cells h
set_option maxRecDepth 100000 in
theorem cnf_open {H : Type} {enc : TypeId × Value → H} {W : World} {base : Nat} {v : Value} {d : DataW H} {p : List MemPlace}
    (hv : Value.okWide Try.prog W .any base 28 v) (h : DataW.Trod enc Try.prog W 0 (fun _ => true) true 28 v d p) :
    ∃ m A n c L, v = .agg #[.int .i64 m, .slice A n c] ∧ IntSS W A n L ∧ n ≤ 9223372036854775807 := by
  obtain ⟨v0, v1, y0, y1, mm, rfl, rfl, rfl, h0, h1⟩ := open_agg2 Try.underlying28 (by kernel_rfl) cellsCnf hv h
  obtain ⟨b, e1, _, _⟩ := DataW.trod_int Try.underlying3 h0
  obtain rfl : v0 = .int .i64 b := by simpa using e1
  obtain ⟨A, n, c, L, rfl, hZ, hn⟩ := intss_cells h1
  exact ⟨b, A, n, c, L, rfl, hZ, hn⟩
end Go.Proofs.Ytjnngijilkdhbaa
