/- A vocabulary as an argument of a law, read. -/
import Derived.Test.YtmeglflbjedndaaFram
import Derived.Test.YtmeglflbjedndaaBS
import Derived.Deep.Slices
namespace Go.Proofs.Ytmeglflbjedndaa
set_option linter.unusedVariables false
set_option linter.unusedSimpArgs false
open Go.ChangeShapes Go.WideShapes Go.ChangeAt Go.RowKit Go.Joins
theorem cellsSy : Try.prog.cellsOf 241 = 3 := by kernel_rfl
theorem cellsSg : Try.prog.cellsOf 34 = 1 := by kernel_rfl
set_option maxRecDepth 100000 in
theorem syms_open {H : Type} {enc : TypeId × Value → H} {W : World} {v : Value} {fuel : Nat} {y : DataW H × List MemPlace}
    (h : DataW.trod enc Try.prog W 0 (fun _ => true) true fuel 32 [v] = some y) :
    ∃ A n c L, v = .slice A n c ∧ Syms W A n L ∧ n ≤ 9223372036854775807 := by
  rcases Go.Deep.open_slice Try.underlying32 h with ⟨hcs, hx⟩ | ⟨a, len, cap, m, k, Dt, Pl, hcs, hb, hl, hm, hmm, hx, hi⟩
  · obtain rfl : v = .slice none 0 0 := by simpa using hcs
    exact ⟨none, 0, 0, ⟨fun _ => ⟨#[]⟩, fun _ => 0, fun _ _ => 0, fun _ => 0⟩, rfl, .inl rfl, by omega⟩
  · obtain rfl : v = .slice (some a) len cap := by simpa using hcs
    simp only [if_true] at hmm
    unfold maxLen at hm
    rw [cellsSy] at hi
    have each : ∀ i, i < cap → ∃ q : ByteArray × Option Addr × Nat × Nat × (Nat → Int) × Int, W.cell? (a.add (i * 3)) = some (.string q.1) ∧ W.cell? (a.add (i * 3 + 1)) = some (.slice q.2.1 q.2.2.1 q.2.2.2.1) ∧ W.cell? (a.add (i * 3 + 2)) = some (.int .i64 q.2.2.2.2.2) ∧ q.1.size ≤ 9223372036854775807 ∧ q.2.2.1 ≤ 9223372036854775807 ∧ Ints W q.2.1 q.2.2.1 q.2.2.2.2.1 := by
      intro i him
      obtain ⟨cs', h1, h2⟩ := hi i (by omega)
      obtain ⟨_, hlen, hcell⟩ := World.cells?_some h1
      obtain ⟨xs, k', hk, hxy, _, hxl, hf⟩ := DataW.trod_struct Try.underlying241 h2
      match xs, hxl, cs', hlen with
      | [y0, y1, y2], _, [v0, v1, v2], _ =>
        have g0 := hf 0 _ rfl
        have g1 := hf 1 _ rfl
        have g2 := hf 2 _ rfl
        have e0 := hcell 0 (by omega)
        have e1 := hcell 1 (by omega)
        have e2 := hcell 2 (by omega)
        rw [Go.Deep.add_add] at e0 e1 e2
        obtain ⟨s, w0, _, hs⟩ := DataW.trod_string Try.underlying9 g0
        obtain ⟨A', n', c', Z, w1, hZ, hn', hc'⟩ := ints_open Try.underlying58 Try.underlying3 cellsI g1
        obtain ⟨b, w2, _, _⟩ := DataW.trod_int Try.underlying3 g2
        have w0' : [v0] = [Value.string s] := w0
        have w2' : [v2] = [Value.int .i64 b] := w2
        simp only [List.cons.injEq, and_true] at w0' w2'
        subst w0'; subst w2'
        have w1' : v1 = .slice A' n' c' := w1
        subst w1'
        exact ⟨(s, A', n', c', Z, b), by simpa using e0, by simpa using e1, by simpa using e2, hs, Nat.le_trans hn' hc', hZ⟩
    obtain ⟨q, hq⟩ := Go.Deep.choose_lt each
    by_cases hl0 : len = 0
    · exact ⟨some a, len, cap, ⟨fun _ => ⟨#[]⟩, fun _ => 0, fun _ _ => 0, fun _ => 0⟩, rfl, .inl hl0, by omega⟩
    · obtain ⟨b, off, spot⟩ := a
      have c0 := (hq 0 (by omega)).1
      have hspot : spot = none := by simpa [Addr.add] using World.cell?_spot c0
      subst hspot
      rw [add_plain] at c0
      have hbl := World.block_lt_of_cell? W _ c0
      refine ⟨some ⟨b, off, none⟩, len, cap, ⟨fun k => (q k).1, fun k => (q k).2.2.1, fun k => (q k).2.2.2.2.1, fun k => (q k).2.2.2.2.2⟩, rfl, .inr ⟨b, off, rfl, hbl, fun k hk => ?_⟩, by omega⟩
      have := hq k (by omega)
      rw [add_plain, add_plain, add_plain] at this
      exact ⟨(q k).2.1, (q k).2.2.2.1, this.1, by rw [Nat.add_assoc]; exact this.2.1, by rw [Nat.add_assoc]; exact this.2.2.1, this.2.2.2.1, this.2.2.2.2.1, this.2.2.2.2.2⟩
set_option maxRecDepth 100000 in
theorem sig_open {H : Type} {enc : TypeId × Value → H} {W : World} {base : Nat} {v : Value} {d : DataW H} {p : List MemPlace}
    (hv : Value.okWide Try.prog W .any base 34 v) (h : DataW.Trod enc Try.prog W 0 (fun _ => true) true 34 v d p) :
    ∃ A n c L, v = .agg #[.slice A n c] ∧ Syms W A n L ∧ n ≤ 9223372036854775807 := by
  obtain ⟨cs, rfl, hsz⟩ := okWide_struct Try.underlying34 hv
  obtain ⟨fuel, hf⟩ := h
  obtain ⟨xs, k', hk, hxy, _, hxl, hg⟩ := DataW.trod_struct Try.underlying34 hf
  have h1 : cs.size = 1 := hsz.trans cellsSg
  obtain ⟨v0, rfl⟩ : ∃ v0, cs = #[v0] := by
    match cs, h1 with
    | ⟨[v0]⟩, _ => exact ⟨v0, rfl⟩
  match xs, hxl with
  | [y0], _ =>
    have g0 := hg 0 _ rfl
    obtain ⟨A, n, c, L, w0, hL, hn⟩ := syms_open (v := v0) (by exact g0)
    subst w0
    exact ⟨A, n, c, L, rfl, hL, hn⟩
end Go.Proofs.Ytmeglflbjedndaa
