/- Equations as an argument of a law, read. -/
import Derived.Test.YtmeglflbjedndaaFramA
import Derived.Test.YtmeglflbjedndaaBE
import Derived.Deep.Slices
namespace Go.Proofs.Ytmeglflbjedndaa
set_option linter.unusedVariables false
set_option linter.unusedSimpArgs false
open Go.ChangeShapes Go.WideShapes Go.ChangeAt Go.RowKit Go.Joins
theorem cellsEq : Try.prog.cellsOf 163 = 4 := by kernel_rfl
set_option maxRecDepth 100000 in
theorem eqs_open {H : Type} {enc : TypeId × Value → H} {W : World} {base : Nat} {v : Value} {d : DataW H} {p : List MemPlace}
    (hv : Value.okWide Try.prog W .any base 81 v) (h : DataW.Trod enc Try.prog W 0 (fun _ => true) true 81 v d p) :
    ∃ A n c kid, v = .slice A n c ∧ n ≤ 9223372036854775807 ∧ (∀ k, k < n * 2 → Fits 9223372036854775807 (kid k)) ∧ EqK W A n kid := by
  obtain ⟨A, n, c, rfl⟩ := okWide_slice Try.underlying81 hv
  obtain ⟨fuel, h⟩ := h
  rcases Go.Deep.open_slice Try.underlying81 h with ⟨hcs, hx⟩ | ⟨a, len, cap, m, k, Dt, Pl, hcs, hb, hl, hm, hmm, hx, hi⟩
  · obtain ⟨rfl, rfl, rfl⟩ : A = none ∧ n = 0 ∧ c = 0 := by simpa [Value.cells] using hcs
    exact ⟨none, 0, 0, fun _ => .bad, rfl, by omega, fun k hk => absurd hk (by omega), .inl rfl⟩
  · obtain ⟨rfl, rfl, rfl⟩ : A = some a ∧ n = len ∧ c = cap := by simpa [Value.cells] using hcs
    simp only [if_true] at hmm
    unfold maxLen at hm
    rw [cellsEq] at hi
    have each : ∀ i, i < n → ∃ q : (Tm × Option Addr × Nat) × Tm × Option Addr × Nat, W.cell? (a.add (i * 4)) = some (.string q.1.1.nm) ∧ W.cell? (a.add (i * 4 + 1)) = some (.slice q.1.2.1 q.1.1.n q.1.2.2) ∧ W.cell? (a.add (i * 4 + 2)) = some (.string q.2.1.nm) ∧ W.cell? (a.add (i * 4 + 3)) = some (.slice q.2.2.1 q.2.1.n q.2.2.2) ∧ Fits 9223372036854775807 q.1.1 ∧ Fits 9223372036854775807 q.2.1 ∧ Kids 0 W q.1.1 q.1.2.1 ∧ Kids 0 W q.2.1 q.2.2.1 := by
      intro i him
      obtain ⟨cs', h1, h2⟩ := hi i (by omega)
      obtain ⟨_, hlen, hcell⟩ := World.cells?_some h1
      obtain ⟨xs, k', hk, hxy, _, hxl, hf⟩ := DataW.trod_struct Try.underlying163 h2
      match xs, hxl, cs', hlen with
      | [y0, y1], _, [v0, v1, v2, v3], _ =>
        have g0 := hf 0 _ rfl
        have g1 := hf 1 _ rfl
        have e0 := hcell 0 (by omega)
        have e1 := hcell 1 (by omega)
        have e2 := hcell 2 (by omega)
        have e3 := hcell 3 (by omega)
        rw [Go.Deep.add_add] at e0 e1 e2 e3
        obtain ⟨t, A1, c1, w1, ft, kt⟩ := term_cells k' [v0, v1] _ (by exact g0)
        obtain ⟨u, A2, c2, w2, fu, ku⟩ := term_cells k' [v2, v3] _ (by exact g1)
        simp only [List.cons.injEq, and_true] at w1 w2
        obtain ⟨rfl, rfl⟩ := w1
        obtain ⟨rfl, rfl⟩ := w2
        exact ⟨((t, A1, c1), u, A2, c2), by simpa using e0, by simpa using e1, by simpa using e2, by simpa using e3, ft, fu, kt, ku⟩
    obtain ⟨q, hq⟩ := Go.Deep.choose_lt each
    by_cases hl0 : n = 0
    · exact ⟨some a, n, c, fun _ => .bad, rfl, by omega, fun k hk => absurd hk (by omega), .inl (by omega)⟩
    · obtain ⟨b, off, spot⟩ := a
      have c0 := (hq 0 (by omega)).1
      have hspot : spot = none := by simpa [Addr.add] using World.cell?_spot c0
      subst hspot
      rw [add_plain] at c0
      have hbl := World.block_lt_of_cell? W _ c0
      have key : ∀ j, j < n * 2 → (Fits 9223372036854775807 (if j % 2 = 0 then (q (j / 2)).1.1 else (q (j / 2)).2.1)) ∧ ∃ a c, W.cell? ⟨b, off + j * 2, none⟩ = some (.string (if j % 2 = 0 then (q (j / 2)).1.1 else (q (j / 2)).2.1).nm) ∧ W.cell? ⟨b, off + j * 2 + 1, none⟩ = some (.slice a (if j % 2 = 0 then (q (j / 2)).1.1 else (q (j / 2)).2.1).n c) ∧ Kids 0 W (if j % 2 = 0 then (q (j / 2)).1.1 else (q (j / 2)).2.1) a := by
        intro j hj
        obtain ⟨h0, h1, h2, h3, h4, h5, h6, h7⟩ := hq (j / 2) (by omega)
        rw [add_plain] at h0 h1 h2 h3
        by_cases e : j % 2 = 0
        · rw [if_pos e]
          rw [show off + j / 2 * 4 = off + j * 2 by omega] at h0
          rw [show off + (j / 2 * 4 + 1) = off + j * 2 + 1 by omega] at h1
          exact ⟨h4, _, _, h0, h1, h6⟩
        · rw [if_neg e]
          rw [show off + (j / 2 * 4 + 2) = off + j * 2 by omega] at h2
          rw [show off + (j / 2 * 4 + 3) = off + j * 2 + 1 by omega] at h3
          exact ⟨h5, _, _, h2, h3, h7⟩
      exact ⟨some ⟨b, off, none⟩, n, c, fun j => if j % 2 = 0 then (q (j / 2)).1.1 else (q (j / 2)).2.1, rfl, by omega, fun j hj => (key j hj).1, .inr ⟨b, off, rfl, Nat.zero_le _, hbl, fun j hj => (key j hj).2⟩⟩
end Go.Proofs.Ytmeglflbjedndaa
