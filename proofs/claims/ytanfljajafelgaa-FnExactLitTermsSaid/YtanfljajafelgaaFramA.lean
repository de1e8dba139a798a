/- An atom as an argument of a law, read. -/
import Derived.Test.YtanfljajafelgaaFramT
import Derived.Test.YtanfljajafelgaaFramL
import Derived.Test.YtanfljajafelgaaBA
namespace Go.Proofs.Ytanfljajafelgaa
set_option linter.unusedVariables false
set_option linter.unusedSimpArgs false
open Go.ChangeShapes Go.WideShapes Go.ChangeAt Go.RowKit Go.Joins
theorem cellsAt : Try.prog.cellsOf 91 = 9 := by kernel_rfl
set_option maxRecDepth 100000 in
theorem terms_cells {H : Type} {enc : TypeId × Value → H} {W : World} (fuel : Nat) (v1 : Value) (x : DataW H × List MemPlace) (h : DataW.trod enc Try.prog W 0 (fun _ => true) true fuel 48 [v1] = some x) :
    ∃ A n c kid, v1 = .slice A n c ∧ n ≤ 9223372036854775807 ∧ (∀ k, k < n → Fits 9223372036854775807 (kid k)) ∧ Kids 0 W (.mk ⟨#[]⟩ n kid) A := by
  rcases DataW.trod_slice Try.underlying48 h with ⟨hcs, hx⟩ | ⟨a, len, cap, elems, rest, n', hk2, hcs, hx, hb, hl, hm, hel, hi, _, _⟩
  · have hcs' : [v1] = [Value.slice none 0 0] := hcs
    simp only [List.cons.injEq, and_true] at hcs'
    exact ⟨none, 0, 0, fun _ => .bad, hcs', by omega, fun k hk => absurd hk (by omega), .inl rfl⟩
  · have hcs' : [v1] = [Value.slice (some a) len cap] := hcs
    simp only [List.cons.injEq, and_true] at hcs'
    unfold maxLen at hm
    have each : ∀ i, i < len → ∃ q : Tm × Option Addr × Nat, W.cell? (a.add (i * 2)) = some (.string q.1.nm) ∧ W.cell? (a.add (i * 2 + 1)) = some (.slice q.2.1 q.1.n q.2.2) ∧ Fits 9223372036854775807 q.1 ∧ Kids 0 W q.1 q.2.1 := by
      intro i him
      have key := hi i him
      rw [List.getElem?_eq_getElem (by omega)] at key
      obtain ⟨cs', h1, h2⟩ := Option.bind_eq_some_iff.1 key
      have h1' : W.cells? 0 (a.add (i * 2)) 2 = some cs' := h1
      obtain ⟨t, A, c, rfl, ht, hA⟩ := term_cells n' _ _ h2
      obtain ⟨_, _, hcell⟩ := World.cells?_some h1'
      have e0 := hcell 0 (by omega)
      have e1 := hcell 1 (by omega)
      rw [Go.Deep.add_add] at e0 e1
      exact ⟨(t, A, c), by simpa using e0, by simpa using e1, ht, hA⟩
    obtain ⟨q, hq⟩ := Go.Deep.choose_lt each
    by_cases hl0 : len = 0
    · exact ⟨some a, len, cap, fun _ => .bad, hcs', by omega, fun k hk => absurd hk (by omega), .inl hl0⟩
    · obtain ⟨b, off, spot⟩ := a
      have c0 := (hq 0 (by omega)).1
      have hspot : spot = none := by simpa [Addr.add] using World.cell?_spot c0
      subst hspot
      rw [add_plain] at c0
      have hbl := World.block_lt_of_cell? W _ c0
      refine ⟨some ⟨b, off, none⟩, len, cap, fun k => (q k).1, hcs', by omega, fun k hk => (hq k hk).2.2.1, .inr ⟨b, off, rfl, Nat.zero_le _, hbl, fun k hk => ?_⟩⟩
      have := hq k (by omega)
      rw [add_plain, add_plain] at this
      exact ⟨(q k).2.1, (q k).2.2, this.1, by rw [Nat.add_assoc]; exact this.2.1, this.2.2.2⟩
/-- the cells of an atom hold it -/
def AtomC (W : World) (cs : List Value) : Prop :=
  ∃ x A1 c1 A2 c2 A3 c3 A4 c4, cs = (At.cs x A1 c1 A2 c2 A3 c3 A4 c4).toList ∧ AtF 9223372036854775807 x ∧ AtK W x A1 A2 A3 A4
set_option maxRecDepth 100000 in
theorem atom_cells {H : Type} {enc : TypeId × Value → H} {W : World} (fuel : Nat) (cs : List Value) (x : DataW H × List MemPlace) (h : DataW.trod enc Try.prog W 0 (fun _ => true) true fuel 91 cs = some x) : AtomC W cs := by
  obtain ⟨xs, k', hk, hxy, hlen, hxl, hf⟩ := DataW.trod_struct Try.underlying91 h
  rw [cellsAt] at hlen
  match xs, hxl, cs, hlen with
  | [y0, y1, y2, y3, y4, y5, y6], _, [v0, v1, v2, v3, v4, v5, v6, v7, v8], _ =>
    have g0 := hf 0 _ rfl
    have g1 := hf 1 _ rfl
    have g2 := hf 2 _ rfl
    have g3 := hf 3 _ rfl
    have g4 := hf 4 _ rfl
    have g5 := hf 5 _ rfl
    have g6 := hf 6 _ rfl
    obtain ⟨kd, w0, _, _⟩ := DataW.trod_int Try.underlying3 g0
    have w0' : [v0] = [Value.int .i64 kd] := w0
    obtain ⟨a, A1, c1, w1, fa, ka⟩ := term_cells k' [v1, v2] _ (by exact g1)
    obtain ⟨b, A2, c2, w2, fb, kb⟩ := term_cells k' [v3, v4] _ (by exact g2)
    obtain ⟨A3, n, c3, kid, w3, hn, fk, kk⟩ := terms_cells k' v5 _ (by exact g3)
    obtain ⟨A4, m, c4, Z, w4, hZ, hm, hc4⟩ := ints_open Try.underlying31 Try.underlying3 cellsI (v := v6) (by exact g4)
    obtain ⟨bd, w5, _, _⟩ := DataW.trod_int Try.underlying3 g5
    have w5' : [v7] = [Value.int .i64 bd] := w5
    obtain ⟨st, w6, _⟩ := DataW.trod_bool Try.underlying4 g6
    have w6' : [v8] = [Value.bool st] := w6
    simp only [List.cons.injEq, and_true] at w0' w1 w2 w5' w6'
    obtain ⟨rfl, rfl⟩ := w1
    obtain ⟨rfl, rfl⟩ := w2
    subst w0' w3 w5' w6'
    have w4' : v6 = .slice A4 m c4 := w4
    subst w4'
    exact ⟨⟨kd, a, b, n, kid, m, Z, bd, st⟩, A1, c1, A2, c2, A3, c3, A4, c4, rfl, ⟨fa, fb, hn, fk, Nat.le_trans hm hc4⟩, ⟨ka, kb, kk, hZ⟩⟩
set_option maxRecDepth 100000 in
theorem atom_open {H : Type} {enc : TypeId × Value → H} {W : World} {base : Nat} {v : Value} {d : DataW H} {p : List MemPlace}
    (hv : Value.okWide Try.prog W .any base 91 v) (h : DataW.Trod enc Try.prog W 0 (fun _ => true) true 91 v d p) :
    ∃ x A1 c1 A2 c2 A3 c3 A4 c4, v = .agg (At.cs x A1 c1 A2 c2 A3 c3 A4 c4) ∧ AtF 9223372036854775807 x ∧ AtK W x A1 A2 A3 A4 := by
  obtain ⟨cs, rfl, hsz⟩ := okWide_struct Try.underlying91 hv
  obtain ⟨fuel, hf⟩ := h
  obtain ⟨x, A1, c1, A2, c2, A3, c3, A4, c4, e, hF, hA⟩ := atom_cells fuel cs.toList _ (by exact hf)
  exact ⟨x, A1, c1, A2, c2, A3, c3, A4, c4, by rw [show cs = At.cs x A1 c1 A2 c2 A3 c3 A4 c4 from Array.toList_inj.1 e], hF, hA⟩
end Go.Proofs.Ytanfljajafelgaa
