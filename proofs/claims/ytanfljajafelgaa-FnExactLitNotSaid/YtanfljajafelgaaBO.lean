/- Several texts in one: Fram, FramL, FramT, FramA, FramK. -/
import Derived.Test.YtanfljajafelgaaBL
import Derived.ProofKit
import Derived.OpenShut
import Derived.Lib.SmallJoins
import Derived.Test.YtanfljajafelgaaFarA
import Derived.Deep.Slices
import Derived.Test.YtanfljajafelgaaBU
import Derived.Test.YtanfljajafelgaaBA
import Derived.Test.YtanfljajafelgaaBG
namespace Go.Proofs.Ytanfljajafelgaa
set_option linter.unusedVariables false
set_option linter.unusedSimpArgs false
open Go.ChangeShapes Go.WideShapes Go.ChangeAt Go.RowKit Go.Joins
theorem ints_open {H : Type} {enc : TypeId × Value → H} {P : Program} {W : World} {t e : TypeId} {v : Value} {fuel : Nat} {y : DataW H × List MemPlace}
    (ht : P.underlying t = some (.slice e)) (he : P.underlying e = some (.int .i64)) (hc : P.cellsOf e = 1) (h : DataW.trod enc P W 0 (fun _ => true) true fuel t [v] = some y) :
    ∃ A n c Z, v = .slice A n c ∧ Ints W A n Z ∧ n ≤ c ∧ c ≤ 9223372036854775807 := by
  rcases open_ints ht he hc h with ⟨hcs, hx⟩ | ⟨b, len', cap', zs, hcs, _, hl, hm, hz, hx, hcell, hwz⟩
  · obtain rfl : v = .slice none 0 0 := by simpa using hcs
    exact ⟨none, 0, 0, fun _ => 0, rfl, .inl rfl, by omega, by omega⟩
  · obtain rfl : v = .slice (some b) len' cap' := by simpa using hcs
    simp only [if_true] at hz
    unfold maxLen at hm
    by_cases hl0 : len' = 0
    · exact ⟨some b, len', cap', fun _ => 0, rfl, .inl hl0, hl, by omega⟩
    · obtain ⟨b, off, spot⟩ := b
      have hspot : spot = none := by simpa [Addr.add] using World.cell?_spot (hcell 0 (by omega))
      subst hspot
      have c0 := hcell 0 (by omega)
      rw [add_plain] at c0
      have hb := World.block_lt_of_cell? W _ c0
      refine ⟨some ⟨b, off, none⟩, len', cap', fun k => zs.getD k 0, rfl, .inr ⟨b, off, rfl, hb, fun k hk => ?_⟩, hl, by omega⟩
      have := hcell k (by omega)
      rwa [add_plain] at this
theorem cellsI : Try.prog.cellsOf 3 = 1 := by kernel_rfl
theorem cellsL : Try.prog.cellsOf 147 = 3 := by kernel_rfl
set_option maxRecDepth 100000 in
theorem lin_open {H : Type} {enc : TypeId × Value → H} {W : World} {base : Nat} {v : Value} {d : DataW H} {p : List MemPlace}
    (hv : Value.okWide Try.prog W .any base 147 v) (h : DataW.Trod enc Try.prog W 0 (fun _ => true) true 147 v d p) :
    ∃ A n c Z b s, v = .agg #[.slice A n c, .int .i64 b, .bool s] ∧ Ints W A n Z ∧ n ≤ 9223372036854775807 := by
  obtain ⟨v0, v1, v2, y0, y1, y2, m, rfl, rfl, rfl, h0, h1, h2⟩ := open_agg3 Try.underlying147 (by kernel_rfl) cellsL hv h
  obtain ⟨A, n, c, Z, rfl, hZ, hn, hc⟩ := ints_open Try.underlying31 Try.underlying3 cellsI h0
  obtain ⟨b, e1, _, _⟩ := DataW.trod_int Try.underlying3 h1
  obtain ⟨s, e2, _⟩ := DataW.trod_bool Try.underlying4 h2
  obtain rfl : v1 = .int .i64 b := by simpa using e1
  obtain rfl : v2 = .bool s := by simpa using e2
  exact ⟨A, n, c, Z, b, s, rfl, hZ, by omega⟩
theorem trodAll_four {H : Type} {enc : TypeId × Value → H} {P : Program} {w : World} {base : Nat} {spare : Nat → Bool} {held : Bool} {t1 t2 t3 t4 : TypeId} {args : Array Value} {ds : List (DataW H)} {ps : List MemPlace} (h : DataW.TrodAll enc P w base spare held [t1, t2, t3, t4] args.toList ds ps) :
    ∃ v1 v2 v3 v4 d1 d2 d3 d4 p1 p2 p3 p4, args = #[v1, v2, v3, v4] ∧ ds = [d1, d2, d3, d4] ∧ ps = p1 ++ (p2 ++ (p3 ++ p4)) ∧ DataW.Trod enc P w base spare held t1 v1 d1 p1 ∧ DataW.Trod enc P w base spare held t2 v2 d2 p2 ∧ DataW.Trod enc P w base spare held t3 v3 d3 p3 ∧ DataW.Trod enc P w base spare held t4 v4 d4 p4 := by
  obtain ⟨v1, vs1, d1, ds1, p1, q1, hargs, rfl, rfl, hd1, hr1⟩ := trodAll_cons h
  obtain ⟨v2, vs2, d2, ds2, p2, q2, rfl, rfl, rfl, hd2, hr2⟩ := trodAll_cons hr1
  obtain ⟨v3, vs3, d3, ds3, p3, q3, rfl, rfl, rfl, hd3, hr3⟩ := trodAll_cons hr2
  obtain ⟨v4, vs4, d4, ds4, p4, q4, rfl, rfl, rfl, hd4, hr4⟩ := trodAll_cons hr3
  obtain ⟨rfl, rfl, rfl⟩ := trodAll_nil hr4
  exact ⟨v1, v2, v3, v4, d1, d2, d3, d4, p1, p2, p3, p4, by cases args; simp_all, rfl, by simp, hd1, hd2, hd3, hd4⟩
theorem trodAll_mk4 {H : Type} {enc : TypeId × Value → H} {P : Program} {w : World} {base : Nat} {spare : Nat → Bool} {held : Bool} {t1 t2 t3 t4 : TypeId} {v1 v2 v3 v4 : Value} {d1 d2 d3 d4 : DataW H} {p1 p2 p3 p4 : List MemPlace}
    (h1 : DataW.Trod enc P w base spare held t1 v1 d1 p1) (h2 : DataW.Trod enc P w base spare held t2 v2 d2 p2) (h3 : DataW.Trod enc P w base spare held t3 v3 d3 p3) (h4 : DataW.Trod enc P w base spare held t4 v4 d4 p4) :
    DataW.TrodAll enc P w base spare held [t1, t2, t3, t4] [v1, v2, v3, v4] [d1, d2, d3, d4] (p1 ++ (p2 ++ (p3 ++ p4))) := ⟨p1, _, h1, trodAll_mk3 h2 h3 h4, rfl⟩
end Go.Proofs.Ytanfljajafelgaa

namespace Go.Proofs.Ytanfljajafelgaa
set_option linter.unusedVariables false
set_option linter.unusedSimpArgs false
open Go.ChangeShapes Go.WideShapes Go.ChangeAt Go.RowKit Go.Joins
set_option maxRecDepth 100000 in
theorem intsW_open {H : Type} {enc : TypeId × Value → H} {W : World} {base : Nat} {v : Value} {d : DataW H} {p : List MemPlace}
    (hv : Value.okWide Try.prog W .any base 31 v) (h : DataW.Trod enc Try.prog W 0 (fun _ => true) true 31 v d p) :
    ∃ A n c Z, v = .slice A n c ∧ Ints W A n Z ∧ n ≤ 9223372036854775807 := by
  obtain ⟨A, n, c, rfl⟩ := okWide_slice Try.underlying31 hv
  obtain ⟨fuel, h⟩ := h
  obtain ⟨A', n', c', Z, e, hZ, h1, h2⟩ := ints_open Try.underlying31 Try.underlying3 cellsI h
  injection e with e1 e2 e3
  subst e1 e2 e3
  exact ⟨A, n, c, Z, rfl, hZ, Nat.le_trans h1 h2⟩
set_option maxRecDepth 100000 in
theorem lins_open {H : Type} {enc : TypeId × Value → H} {W : World} {base : Nat} {v : Value} {d : DataW H} {p : List MemPlace}
    (hv : Value.okWide Try.prog W .any base 35 v) (h : DataW.Trod enc Try.prog W 0 (fun _ => true) true 35 v d p) :
    ∃ A n c L, v = .slice A n c ∧ Lins W A n L ∧ n ≤ 9223372036854775807 := by
  obtain ⟨A, n, c, rfl⟩ := okWide_slice Try.underlying35 hv
  obtain ⟨fuel, h⟩ := h
  rcases Go.Deep.open_slice Try.underlying35 h with ⟨hcs, hx⟩ | ⟨a, len, cap, m, k, Dt, Pl, hcs, hb, hl, hm, hmm, hx, hi⟩
  · obtain ⟨rfl, rfl, rfl⟩ : A = none ∧ n = 0 ∧ c = 0 := by simpa [Value.cells] using hcs
    exact ⟨none, 0, 0, ⟨fun _ => 0, fun _ _ => 0, fun _ => 0, fun _ => false⟩, rfl, .inl rfl, by omega⟩
  · obtain ⟨rfl, rfl, rfl⟩ : A = some a ∧ n = len ∧ c = cap := by simpa [Value.cells] using hcs
    simp only [if_true] at hmm
    unfold maxLen at hm
    rw [cellsL] at hi
    have each : ∀ i, i < c → ∃ q : Option Addr × Nat × Nat × (Nat → Int) × Int × Bool, W.cell? (a.add (i * 3)) = some (.slice q.1 q.2.1 q.2.2.1) ∧ W.cell? (a.add (i * 3 + 1)) = some (.int .i64 q.2.2.2.2.1) ∧ W.cell? (a.add (i * 3 + 2)) = some (.bool q.2.2.2.2.2) ∧ q.2.1 ≤ 9223372036854775807 ∧ Ints W q.1 q.2.1 q.2.2.2.1 := by
      intro i him
      obtain ⟨cs', h1, h2⟩ := hi i (by omega)
      obtain ⟨_, hlen, hcell⟩ := World.cells?_some h1
      obtain ⟨xs, k', hk, hxy, _, hxl, hf⟩ := DataW.trod_struct Try.underlying147 h2
      match xs, hxl, cs', hlen with
      | [y0, y1, y2], _, [v0, v1, v2], _ =>
        have g0 := hf 0 _ rfl
        have g1 := hf 1 _ rfl
        have g2 := hf 2 _ rfl
        have e0 := hcell 0 (by omega)
        have e1 := hcell 1 (by omega)
        have e2 := hcell 2 (by omega)
        rw [Go.Deep.add_add] at e0 e1 e2
        obtain ⟨A', n', c', Z, w0, hZ, hn', hc'⟩ := ints_open Try.underlying31 Try.underlying3 cellsI g0
        obtain ⟨b, w1, _, _⟩ := DataW.trod_int Try.underlying3 g1
        obtain ⟨s, w2, _⟩ := DataW.trod_bool Try.underlying4 g2
        have w1' : [v1] = [Value.int .i64 b] := w1
        have w2' : [v2] = [Value.bool s] := w2
        simp only [List.cons.injEq, and_true] at w1' w2'
        subst w1'; subst w2'
        have w0' : v0 = .slice A' n' c' := w0
        subst w0'
        exact ⟨(A', n', c', Z, b, s), by simpa using e0, by simpa using e1, by simpa using e2, Nat.le_trans hn' hc', hZ⟩
    obtain ⟨q, hq⟩ := Go.Deep.choose_lt each
    by_cases hl0 : n = 0
    · exact ⟨some a, n, c, ⟨fun _ => 0, fun _ _ => 0, fun _ => 0, fun _ => false⟩, rfl, .inl hl0, by omega⟩
    · obtain ⟨b, off, spot⟩ := a
      have c0 := (hq 0 (by omega)).1
      have hspot : spot = none := by simpa [Addr.add] using World.cell?_spot c0
      subst hspot
      rw [add_plain] at c0
      have hbl := World.block_lt_of_cell? W _ c0
      refine ⟨some ⟨b, off, none⟩, n, c, ⟨fun k => (q k).2.1, fun k => (q k).2.2.2.1, fun k => (q k).2.2.2.2.1, fun k => (q k).2.2.2.2.2⟩, rfl, .inr ⟨b, off, rfl, hbl, fun k hk => ?_⟩, by omega⟩
      have := hq k (by omega)
      rw [add_plain, add_plain, add_plain] at this
      exact ⟨(q k).1, (q k).2.2.1, this.1, by rw [Nat.add_assoc]; exact this.2.1, by rw [Nat.add_assoc]; exact this.2.2.1, this.2.2.2.1, this.2.2.2.2⟩
end Go.Proofs.Ytanfljajafelgaa

namespace Go.Proofs.Ytanfljajafelgaa
set_option linter.unusedVariables false
set_option linter.unusedSimpArgs false
open Go.ChangeShapes Go.WideShapes Go.ChangeAt Go.RowKit Go.Joins
theorem cellsT : Try.prog.cellsOf 72 = 2 := by kernel_rfl
instance : Inhabited Tm := ⟨.bad⟩
/-- the cells of a term hold it -/
def TermC (W : World) (cs : List Value) : Prop :=
  ∃ t A c, cs = [.string (Tm.nm t), .slice A t.n c] ∧ Fits 9223372036854775807 t ∧ Kids 0 W t A
set_option maxRecDepth 100000 in
theorem term_cells {H : Type} {enc : TypeId × Value → H} {W : World} : ∀ (fuel : Nat) (cs : List Value) (x : DataW H × List MemPlace),
    DataW.trod enc Try.prog W 0 (fun _ => true) true fuel 72 cs = some x → TermC W cs := by
  intro fuel
  induction fuel using Nat.strongRecOn with
  | ind fuel IH =>
  intro cs x h
  obtain ⟨xs, k', hk, hxy, hlen, hxl, hf⟩ := DataW.trod_struct Try.underlying72 h
  rw [cellsT] at hlen
  match xs, hxl, cs, hlen with
  | [y0, y1], _, [v0, v1], _ =>
    have g0 := hf 0 _ rfl
    have g1 := hf 1 _ rfl
    obtain ⟨s, w0, _, hs⟩ := DataW.trod_string Try.underlying9 g0
    have w0' : [v0] = [Value.string s] := w0
    simp only [List.cons.injEq, and_true] at w0'
    subst w0'
    rcases DataW.trod_slice Try.underlying48 g1 with ⟨hcs, hx⟩ | ⟨a, len, cap, elems, rest, n', hk2, hcs, hx, hb, hl, hm, hel, hi, _, _⟩
    · have hcs' : [v1] = [Value.slice none 0 0] := hcs
      simp only [List.cons.injEq, and_true] at hcs'
      subst hcs'
      exact ⟨.mk s 0 fun _ => .bad, none, 0, rfl, ⟨hs, by omega, fun k hk => absurd hk (by omega)⟩, .inl rfl⟩
    · have hcs' : [v1] = [Value.slice (some a) len cap] := hcs
      simp only [List.cons.injEq, and_true] at hcs'
      subst hcs'
      unfold maxLen at hm
      have each : ∀ i, i < len → ∃ q : Tm × Option Addr × Nat, W.cell? (a.add (i * 2)) = some (.string q.1.nm) ∧ W.cell? (a.add (i * 2 + 1)) = some (.slice q.2.1 q.1.n q.2.2) ∧ Fits 9223372036854775807 q.1 ∧ Kids 0 W q.1 q.2.1 := by
        intro i him
        have key := hi i him
        rw [List.getElem?_eq_getElem (by omega)] at key
        obtain ⟨cs', h1, h2⟩ := Option.bind_eq_some_iff.1 key
        have h1' : W.cells? 0 (a.add (i * 2)) 2 = some cs' := h1
        obtain ⟨t, A, c, rfl, ht, hA⟩ := IH n' (by omega) _ _ h2
        obtain ⟨_, _, hcell⟩ := World.cells?_some h1'
        have e0 := hcell 0 (by omega)
        have e1 := hcell 1 (by omega)
        rw [Go.Deep.add_add] at e0 e1
        exact ⟨(t, A, c), by simpa using e0, by simpa using e1, ht, hA⟩
      obtain ⟨q, hq⟩ := Go.Deep.choose_lt each
      by_cases hl0 : len = 0
      · exact ⟨.mk s len fun _ => .bad, some a, cap, rfl, ⟨hs, by omega, fun k hk => absurd hk (by omega)⟩, .inl hl0⟩
      · obtain ⟨b, off, spot⟩ := a
        have c0 := (hq 0 (by omega)).1
        have hspot : spot = none := by simpa [Addr.add] using World.cell?_spot c0
        subst hspot
        rw [add_plain] at c0
        have hbl := World.block_lt_of_cell? W _ c0
        refine ⟨.mk s len fun k => (q k).1, some ⟨b, off, none⟩, cap, rfl, ⟨hs, by omega, fun k hk => (hq k hk).2.2.1⟩, .inr ⟨b, off, rfl, Nat.zero_le _, hbl, fun k hk => ?_⟩⟩
        have := hq k (by omega)
        rw [add_plain, add_plain] at this
        exact ⟨(q k).2.1, (q k).2.2, this.1, by rw [Nat.add_assoc]; exact this.2.1, this.2.2.2⟩
set_option maxRecDepth 100000 in
theorem term_open {H : Type} {enc : TypeId × Value → H} {W : World} {base : Nat} {v : Value} {d : DataW H} {p : List MemPlace}
    (hv : Value.okWide Try.prog W .any base 72 v) (h : DataW.Trod enc Try.prog W 0 (fun _ => true) true 72 v d p) :
    ∃ t A c, v = .agg #[.string (Tm.nm t), .slice A t.n c] ∧ Fits 9223372036854775807 t ∧ Kids 0 W t A := by
  obtain ⟨cs, rfl, hsz⟩ := okWide_struct Try.underlying72 hv
  obtain ⟨fuel, hf⟩ := h
  have h1 : cs.size = 2 := hsz.trans cellsT
  obtain ⟨v0, v1, rfl⟩ : ∃ v0 v1, cs = #[v0, v1] := by
    match cs, h1 with
    | ⟨[v0, v1]⟩, _ => exact ⟨v0, v1, rfl⟩
  obtain ⟨t, A, c, e, hF, hA⟩ := term_cells fuel [v0, v1] _ (by exact hf)
  simp only [List.cons.injEq, and_true] at e
  obtain ⟨rfl, rfl⟩ := e
  exact ⟨t, A, c, rfl, hF, hA⟩
end Go.Proofs.Ytanfljajafelgaa

namespace Go.Proofs.Ytanfljajafelgaa
set_option linter.unusedVariables false
set_option linter.unusedSimpArgs false
open Go.ChangeShapes Go.WideShapes Go.ChangeAt Go.RowKit Go.Joins
theorem cellsAt : Try.prog.cellsOf 91 = 9 := by kernel_rfl
set_option maxRecDepth 100000 in
theorem terms_cells {H : Type} {enc : TypeId × Value → H} {W : World} (fuel : Nat) (v1 : Value) (x : DataW H × List MemPlace) (h : DataW.trod enc Try.prog W 0 (fun _ => true) true fuel 48 [v1] = some x) :
    ∃ A n c kid, v1 = .slice A n c ∧ n ≤ 9223372036854775807 ∧ (∀ k, k < n → Fits 9223372036854775807 (kid k)) ∧ Kids 0 W (.mk ⟨#[]⟩ n kid) A := by
  rcases DataW.trod_slice Try.underlying48 h with ⟨hcs, hx⟩ | ⟨a, len, cap, elems, rest, n', hk2, hcs, hx, hb, hl, hm, hel, hi, _, _⟩
  · have hcs' : [v1] = [Value.slice none 0 0] := hcs
    simp only [List.cons.injEq, and_true] at hcs'
    exact ⟨none, 0, 0, fun _ => .bad, hcs', by omega, fun k hk => absurd hk (by omega), .inl rfl⟩
  · have hcs' : [v1] = [Value.slice (some a) len cap] := hcs
    simp only [List.cons.injEq, and_true] at hcs'
    unfold maxLen at hm
    have each : ∀ i, i < len → ∃ q : Tm × Option Addr × Nat, W.cell? (a.add (i * 2)) = some (.string q.1.nm) ∧ W.cell? (a.add (i * 2 + 1)) = some (.slice q.2.1 q.1.n q.2.2) ∧ Fits 9223372036854775807 q.1 ∧ Kids 0 W q.1 q.2.1 := by
      intro i him
      have key := hi i him
      rw [List.getElem?_eq_getElem (by omega)] at key
      obtain ⟨cs', h1, h2⟩ := Option.bind_eq_some_iff.1 key
      have h1' : W.cells? 0 (a.add (i * 2)) 2 = some cs' := h1
      obtain ⟨t, A, c, rfl, ht, hA⟩ := term_cells n' _ _ h2
      obtain ⟨_, _, hcell⟩ := World.cells?_some h1'
      have e0 := hcell 0 (by omega)
      have e1 := hcell 1 (by omega)
      rw [Go.Deep.add_add] at e0 e1
      exact ⟨(t, A, c), by simpa using e0, by simpa using e1, ht, hA⟩
    obtain ⟨q, hq⟩ := Go.Deep.choose_lt each
    by_cases hl0 : len = 0
    · exact ⟨some a, len, cap, fun _ => .bad, hcs', by omega, fun k hk => absurd hk (by omega), .inl hl0⟩
    · obtain ⟨b, off, spot⟩ := a
      have c0 := (hq 0 (by omega)).1
      have hspot : spot = none := by simpa [Addr.add] using World.cell?_spot c0
      subst hspot
      rw [add_plain] at c0
      have hbl := World.block_lt_of_cell? W _ c0
      refine ⟨some ⟨b, off, none⟩, len, cap, fun k => (q k).1, hcs', by omega, fun k hk => (hq k hk).2.2.1, .inr ⟨b, off, rfl, Nat.zero_le _, hbl, fun k hk => ?_⟩⟩
      have := hq k (by omega)
      rw [add_plain, add_plain] at this
      exact ⟨(q k).2.1, (q k).2.2, this.1, by rw [Nat.add_assoc]; exact this.2.1, this.2.2.2⟩
/-- the cells of an atom hold it -/
def AtomC (W : World) (cs : List Value) : Prop :=
  ∃ x A1 c1 A2 c2 A3 c3 A4 c4, cs = (At.cs x A1 c1 A2 c2 A3 c3 A4 c4).toList ∧ AtF 9223372036854775807 x ∧ AtK W x A1 A2 A3 A4
set_option maxRecDepth 100000 in
theorem atom_cells {H : Type} {enc : TypeId × Value → H} {W : World} (fuel : Nat) (cs : List Value) (x : DataW H × List MemPlace) (h : DataW.trod enc Try.prog W 0 (fun _ => true) true fuel 91 cs = some x) : AtomC W cs := by
  obtain ⟨xs, k', hk, hxy, hlen, hxl, hf⟩ := DataW.trod_struct Try.underlying91 h
  rw [cellsAt] at hlen
  match xs, hxl, cs, hlen with
  | [y0, y1, y2, y3, y4, y5, y6], _, [v0, v1, v2, v3, v4, v5, v6, v7, v8], _ =>
    have g0 := hf 0 _ rfl
    have g1 := hf 1 _ rfl
    have g2 := hf 2 _ rfl
    have g3 := hf 3 _ rfl
    have g4 := hf 4 _ rfl
    have g5 := hf 5 _ rfl
    have g6 := hf 6 _ rfl
    obtain ⟨kd, w0, _, _⟩ := DataW.trod_int Try.underlying3 g0
    have w0' : [v0] = [Value.int .i64 kd] := w0
    obtain ⟨a, A1, c1, w1, fa, ka⟩ := term_cells k' [v1, v2] _ (by exact g1)
    obtain ⟨b, A2, c2, w2, fb, kb⟩ := term_cells k' [v3, v4] _ (by exact g2)
    obtain ⟨A3, n, c3, kid, w3, hn, fk, kk⟩ := terms_cells k' v5 _ (by exact g3)
    obtain ⟨A4, m, c4, Z, w4, hZ, hm, hc4⟩ := ints_open Try.underlying31 Try.underlying3 cellsI (v := v6) (by exact g4)
    obtain ⟨bd, w5, _, _⟩ := DataW.trod_int Try.underlying3 g5
    have w5' : [v7] = [Value.int .i64 bd] := w5
    obtain ⟨st, w6, _⟩ := DataW.trod_bool Try.underlying4 g6
    have w6' : [v8] = [Value.bool st] := w6
    simp only [List.cons.injEq, and_true] at w0' w1 w2 w5' w6'
    obtain ⟨rfl, rfl⟩ := w1
    obtain ⟨rfl, rfl⟩ := w2
    subst w0' w3 w5' w6'
    have w4' : v6 = .slice A4 m c4 := w4
    subst w4'
    exact ⟨⟨kd, a, b, n, kid, m, Z, bd, st⟩, A1, c1, A2, c2, A3, c3, A4, c4, rfl, ⟨fa, fb, hn, fk, Nat.le_trans hm hc4⟩, ⟨ka, kb, kk, hZ⟩⟩
set_option maxRecDepth 100000 in
theorem atom_open {H : Type} {enc : TypeId × Value → H} {W : World} {base : Nat} {v : Value} {d : DataW H} {p : List MemPlace}
    (hv : Value.okWide Try.prog W .any base 91 v) (h : DataW.Trod enc Try.prog W 0 (fun _ => true) true 91 v d p) :
    ∃ x A1 c1 A2 c2 A3 c3 A4 c4, v = .agg (At.cs x A1 c1 A2 c2 A3 c3 A4 c4) ∧ AtF 9223372036854775807 x ∧ AtK W x A1 A2 A3 A4 := by
  obtain ⟨cs, rfl, hsz⟩ := okWide_struct Try.underlying91 hv
  obtain ⟨fuel, hf⟩ := h
  obtain ⟨x, A1, c1, A2, c2, A3, c3, A4, c4, e, hF, hA⟩ := atom_cells fuel cs.toList _ (by exact hf)
  exact ⟨x, A1, c1, A2, c2, A3, c3, A4, c4, by rw [show cs = At.cs x A1 c1 A2 c2 A3 c3 A4 c4 from Array.toList_inj.1 e], hF, hA⟩
end Go.Proofs.Ytanfljajafelgaa

namespace Go.Proofs.Ytanfljajafelgaa
set_option linter.unusedVariables false
set_option linter.unusedSimpArgs false
open Go.ChangeShapes Go.WideShapes Go.ChangeAt Go.RowKit Go.Joins
theorem cellsLt : Try.prog.cellsOf 100 = 10 := by kernel_rfl
set_option maxRecDepth 100000 in
theorem lit_cells {H : Type} {enc : TypeId × Value → H} {W : World} (fuel : Nat) (cs : List Value) (x : DataW H × List MemPlace) (h : DataW.trod enc Try.prog W 0 (fun _ => true) true fuel 100 cs = some x) :
    ∃ x no A1 c1 A2 c2 A3 c3 A4 c4, cs = (At.lit x no A1 c1 A2 c2 A3 c3 A4 c4).toList ∧ AtF 9223372036854775807 x ∧ AtK W x A1 A2 A3 A4 := by
  obtain ⟨xs, k', hk, hxy, hlen, hxl, hf⟩ := DataW.trod_struct Try.underlying100 h
  rw [cellsLt] at hlen
  match xs, hxl, cs, hlen with
  | [y0, y1], _, [v0, v1, v2, v3, v4, v5, v6, v7, v8, v9], _ =>
    have g0 := hf 0 _ rfl
    have g1 := hf 1 _ rfl
    obtain ⟨x, A1, c1, A2, c2, A3, c3, A4, c4, e, hF, hA⟩ := atom_cells k' [v0, v1, v2, v3, v4, v5, v6, v7, v8] _ (by exact g0)
    obtain ⟨no, w6, _⟩ := DataW.trod_bool Try.underlying4 g1
    have w6' : [v9] = [Value.bool no] := w6
    simp only [At.cs, List.cons.injEq, and_true] at w6' e
    obtain ⟨rfl, rfl, rfl, rfl, rfl, rfl, rfl, rfl, rfl⟩ := e
    subst w6'
    exact ⟨x, no, A1, c1, A2, c2, A3, c3, A4, c4, rfl, hF, hA⟩
set_option maxRecDepth 100000 in
theorem lit_open {H : Type} {enc : TypeId × Value → H} {W : World} {base : Nat} {v : Value} {d : DataW H} {p : List MemPlace}
    (hv : Value.okWide Try.prog W .any base 100 v) (h : DataW.Trod enc Try.prog W 0 (fun _ => true) true 100 v d p) :
    ∃ x no A1 c1 A2 c2 A3 c3 A4 c4, v = .agg (At.lit x no A1 c1 A2 c2 A3 c3 A4 c4) ∧ AtF 9223372036854775807 x ∧ AtK W x A1 A2 A3 A4 := by
  obtain ⟨cs, rfl, hsz⟩ := okWide_struct Try.underlying100 hv
  obtain ⟨fuel, hf⟩ := h
  obtain ⟨x, no, A1, c1, A2, c2, A3, c3, A4, c4, e, hF, hA⟩ := lit_cells fuel cs.toList _ (by exact hf)
  exact ⟨x, no, A1, c1, A2, c2, A3, c3, A4, c4, by rw [show cs = At.lit x no A1 c1 A2 c2 A3 c3 A4 c4 from Array.toList_inj.1 e], hF, hA⟩
end Go.Proofs.Ytanfljajafelgaa
