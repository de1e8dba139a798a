/- A term as an argument of a law, read. -/
import Derived.Test.YtanfljajafelgaaFram
import Derived.Test.YtanfljajafelgaaBU
import Derived.Deep.Slices
namespace Go.Proofs.Ytanfljajafelgaa
set_option linter.unusedVariables false
set_option linter.unusedSimpArgs false
open Go.ChangeShapes Go.WideShapes Go.ChangeAt Go.RowKit Go.Joins
theorem cellsT : Try.prog.cellsOf 72 = 2 := by kernel_rfl
instance : Inhabited Tm := ⟨.bad⟩
/-- the cells of a term hold it -/
def TermC (W : World) (cs : List Value) : Prop :=
  ∃ t A c, cs = [.string (Tm.nm t), .slice A t.n c] ∧ Fits 9223372036854775807 t ∧ Kids 0 W t A
set_option maxRecDepth 100000 in
theorem term_cells {H : Type} {enc : TypeId × Value → H} {W : World} : ∀ (fuel : Nat) (cs : List Value) (x : DataW H × List MemPlace),
    DataW.trod enc Try.prog W 0 (fun _ => true) true fuel 72 cs = some x → TermC W cs := by
  intro fuel
  induction fuel using Nat.strongRecOn with
  | ind fuel IH =>
  intro cs x h
  obtain ⟨xs, k', hk, hxy, hlen, hxl, hf⟩ := DataW.trod_struct Try.underlying72 h
  rw [cellsT] at hlen
  match xs, hxl, cs, hlen with
  | [y0, y1], _, [v0, v1], _ =>
    have g0 := hf 0 _ rfl
    have g1 := hf 1 _ rfl
    obtain ⟨s, w0, _, hs⟩ := DataW.trod_string Try.underlying9 g0
    have w0' : [v0] = [Value.string s] := w0
    simp only [List.cons.injEq, and_true] at w0'
    subst w0'
    rcases DataW.trod_slice Try.underlying48 g1 with ⟨hcs, hx⟩ | ⟨a, len, cap, elems, rest, n', hk2, hcs, hx, hb, hl, hm, hel, hi, _, _⟩
    · have hcs' : [v1] = [Value.slice none 0 0] := hcs
      simp only [List.cons.injEq, and_true] at hcs'
      subst hcs'
      exact ⟨.mk s 0 fun _ => .bad, none, 0, rfl, ⟨hs, by omega, fun k hk => absurd hk (by omega)⟩, .inl rfl⟩
    · have hcs' : [v1] = [Value.slice (some a) len cap] := hcs
      simp only [List.cons.injEq, and_true] at hcs'
      subst hcs'
      unfold maxLen at hm
      have each : ∀ i, i < len → ∃ q : Tm × Option Addr × Nat, W.cell? (a.add (i * 2)) = some (.string q.1.nm) ∧ W.cell? (a.add (i * 2 + 1)) = some (.slice q.2.1 q.1.n q.2.2) ∧ Fits 9223372036854775807 q.1 ∧ Kids 0 W q.1 q.2.1 := by
        intro i him
        have key := hi i him
        rw [List.getElem?_eq_getElem (by omega)] at key
        obtain ⟨cs', h1, h2⟩ := Option.bind_eq_some_iff.1 key
        have h1' : W.cells? 0 (a.add (i * 2)) 2 = some cs' := h1
        obtain ⟨t, A, c, rfl, ht, hA⟩ := IH n' (by omega) _ _ h2
        obtain ⟨_, _, hcell⟩ := World.cells?_some h1'
        have e0 := hcell 0 (by omega)
        have e1 := hcell 1 (by omega)
        rw [Go.Deep.add_add] at e0 e1
        exact ⟨(t, A, c), by simpa using e0, by simpa using e1, ht, hA⟩
      obtain ⟨q, hq⟩ := Go.Deep.choose_lt each
      by_cases hl0 : len = 0
      · exact ⟨.mk s len fun _ => .bad, some a, cap, rfl, ⟨hs, by omega, fun k hk => absurd hk (by omega)⟩, .inl hl0⟩
      · obtain ⟨b, off, spot⟩ := a
        have c0 := (hq 0 (by omega)).1
        have hspot : spot = none := by simpa [Addr.add] using World.cell?_spot c0
        subst hspot
        rw [add_plain] at c0
        have hbl := World.block_lt_of_cell? W _ c0
        refine ⟨.mk s len fun k => (q k).1, some ⟨b, off, none⟩, cap, rfl, ⟨hs, by omega, fun k hk => (hq k hk).2.2.1⟩, .inr ⟨b, off, rfl, Nat.zero_le _, hbl, fun k hk => ?_⟩⟩
        have := hq k (by omega)
        rw [add_plain, add_plain] at this
        exact ⟨(q k).2.1, (q k).2.2, this.1, by rw [Nat.add_assoc]; exact this.2.1, this.2.2.2⟩
set_option maxRecDepth 100000 in
theorem term_open {H : Type} {enc : TypeId × Value → H} {W : World} {base : Nat} {v : Value} {d : DataW H} {p : List MemPlace}
    (hv : Value.okWide Try.prog W .any base 72 v) (h : DataW.Trod enc Try.prog W 0 (fun _ => true) true 72 v d p) :
    ∃ t A c, v = .agg #[.string (Tm.nm t), .slice A t.n c] ∧ Fits 9223372036854775807 t ∧ Kids 0 W t A := by
  obtain ⟨cs, rfl, hsz⟩ := okWide_struct Try.underlying72 hv
  obtain ⟨fuel, hf⟩ := h
  have h1 : cs.size = 2 := hsz.trans cellsT
  obtain ⟨v0, v1, rfl⟩ : ∃ v0 v1, cs = #[v0, v1] := by
    match cs, h1 with
    | ⟨[v0, v1]⟩, _ => exact ⟨v0, v1, rfl⟩
  obtain ⟨t, A, c, e, hF, hA⟩ := term_cells fuel [v0, v1] _ (by exact hf)
  simp only [List.cons.injEq, and_true] at e
  obtain ⟨rfl, rfl⟩ := e
  exact ⟨t, A, c, rfl, hF, hA⟩
end Go.Proofs.Ytanfljajafelgaa
