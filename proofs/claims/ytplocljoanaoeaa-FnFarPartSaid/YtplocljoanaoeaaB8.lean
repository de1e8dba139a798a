/- Several texts in one: FvB, FvD. -/
import Derived.Test.YtplocljoanaoeaaB4
import Derived.Maps.AppendAt
namespace Go.Proofs.Ytplocljoanaoeaa
set_option linter.unusedVariables false
set_option linter.unusedSimpArgs false
open Go.RowKit
def valsJ (l : List Int) : List Value := l.map fun z => Value.int .i64 z
theorem valsJ_at {l : List Int} {k : Nat} (h : k < l.length) : (valsJ l)[k]? = some (.int .i64 (l.getD k 0)) := by
  unfold valsJ; rw [List.getElem?_map, List.getElem?_eq_getElem h, List.getD_eq_getElem?_getD, List.getElem?_eq_getElem h]; rfl
theorem valsJ_snoc (l : List Int) (x : Int) : valsJ (l ++ [x]) = valsJ l ++ [.int .i64 x] := by unfold valsJ; rw [List.map_append]; rfl
/-- an owned row of numbers, read -/
theorem own_intsJ {w : World} {base : Nat} {v : Value} {l : List Int} (h : w.ownsRow base 3 1 v l.length (valsJ l)) :
    ∃ A c, v = .slice A l.length c ∧ (l.length = 0 ∨ ∃ g, A = some ⟨g, 0, none⟩ ∧ base ≤ g ∧ g < w.heap.size ∧ (∀ o, w.frozen? ⟨g, o, none⟩ = false) ∧ ∀ k, k < l.length → w.cell? ⟨g, k, none⟩ = some (.int .i64 (l.getD k 0))) := by
  have h0 := h
  obtain ⟨hl, ⟨rfl, h⟩ | ⟨g, cap, cur, rfl, hg, hh, h1, h2, h3, h4⟩⟩ := h
  · exact ⟨none, 0, by rw [h], .inl h⟩
  · refine ⟨_, cap, rfl, ?_⟩
    by_cases hn : l.length = 0
    · exact .inl hn
    · exact .inr ⟨g, rfl, hg, (Array.getElem?_eq_some_iff.1 hh).1, fun o => h0.frozenAt o, fun k hk => (h0.cellAt k (by omega)).trans (valsJ_at hk)⟩
/-- the state of a loop that appends numbers -/
structure IB (Bd lo : Nat) (w0 : World) (g p : Nat) (v : Value) (l : List Int) (wr : World) : Prop where
  grown : w0.grownBy wr (some g)
  own : wr.ownsRow lo 3 1 v l.length (valsJ l)
  rd : ∃ q, q ≤ p ∧ RD Bd wr g q
theorem IB.grow {Bd lo : Nat} {w0 : World} {g p p' : Nat} {v : Value} {l : List Int} {wr w2 : World} (h : IB Bd lo w0 g p v l wr) (hg : wr.grownBy w2 (some g)) (hlo : g < lo) (hR : ∃ q, q ≤ p' ∧ RD Bd w2 g q) : IB Bd lo w0 g p' v l w2 where
  grown := grow_trans h.grown hg
  own := h.own.kept hg (by
    cases hv : v.ownBlock with
    | none => exact .inl rfl
    | some x => have := (h.own.lt x hv).1; exact .inr (by simp; omega))
  rd := hR
theorem IB.step {Bd lo : Nat} {w0 : World} {g p : Nat} {v v' : Value} {l : List Int} {x : Int} {w2 w3 : World} {o : Obj} (h : IB Bd lo w0 g p v l w2) (hlo : g < lo) (hBd : Bd ≤ lo) (hw0 : w0.heap.size ≤ lo)
    (hown : w3.ownsRow lo 3 1 v' (l.length + 1) (valsJ l ++ [.int .i64 x])) (hg : (w2.alloc o).grownBy w3 v.ownBlock) :
    IB Bd lo w0 g p v' (l ++ [x]) w3 := by
  have hne : ∀ r, r < lo → v.ownBlock ≠ some r := by
    intro r hr he
    have := (h.own.lt r he).1
    omega
  obtain ⟨q, hq, hR⟩ := h.rd
  have hR3 : RD Bd w3 g q := (hR.alloc _).grow hg fun r hr => by
    have := (h.own.lt r hr).1
    omega
  refine ⟨⟨hg.os.trans h.grown.os, hg.tape.trans h.grown.tape, hg.output.trans h.grown.output, Nat.le_trans h.grown.size (Nat.le_trans (by simp) hg.size), fun i hi hr => ?_⟩, ?_, q, hq, hR3⟩
  · have hi2 := Nat.lt_of_lt_of_le hi h.grown.size
    rw [hg.block i (by simp; omega) (Ne.symm (hne i (by omega)))]
    exact (World.grownBy_alloc w2 _ none).block i hi2 (by simp) |>.trans (h.grown.block i hi hr)
  · rw [valsJ_snoc, List.length_append]; exact hown
/-- how many times, drawn -/
def TimP (w : World) (g : Nat) (e : Ending) (w' : World) : Prop :=
  ∃ A m c T, e = .returned (.slice A m c) ∧ m ≤ 40 ∧ Ints w' A m T ∧ w.grownBy w' (some g)
def zsT6 : List Int := [0, 1, 2, 0, 1, 3]
def zsT4 : List Int := [-1, 1000000, 1000001, 9223372036854775807]
theorem row6T (w : World) (t : TypeId) : ∀ k, k < zsT6.length → (w.alloc (.cells #[.int .i64 0, .int .i64 1, .int .i64 2, .int .i64 0, .int .i64 1, .int .i64 3] t)).cell? ⟨w.heap.size, k, none⟩ = some (.int .i64 (zsT6.getD k 0)) := by
  intro k hk
  simp only [zsT6, List.length_cons, List.length_nil] at hk
  have hk' : k = 0 ∨ k = 1 ∨ k = 2 ∨ k = 3 ∨ k = 4 ∨ k = 5 := by omega
  rcases hk' with rfl | rfl | rfl | rfl | rfl | rfl <;> simp [go_sem, zsT6]
theorem row4T (w : World) (t : TypeId) : ∀ k, k < zsT4.length → (w.alloc (.cells #[.int .i64 (-1), .int .i64 1000000, .int .i64 1000001, .int .i64 9223372036854775807] t)).cell? ⟨w.heap.size, k, none⟩ = some (.int .i64 (zsT4.getD k 0)) := by
  intro k hk
  simp only [zsT4, List.length_cons, List.length_nil] at hk
  have hk' : k = 0 ∨ k = 1 ∨ k = 2 ∨ k = 3 := by omega
  rcases hk' with rfl | rfl | rfl | rfl <;> simp [go_sem, zsT4]
theorem FarE.k_le (n : Nat) (R : FarE) : R.k n ≤ n := by cases R <;> simp [FarE.k]
theorem IntZ.far {z Bd g p : Nat} {w w' : World} {A : Option Addr} {m : Nat} {Z : Nat → Int} (h : IntZ z w A m Z) (hg : w.grownBy w' (some g)) (hR : RD Bd w g p) : IntZ z w' A m Z := by
  by_cases h0 : m = 0
  · exact .inl h0
  rcases h with h | ⟨b, ha, h1, h2, hc⟩
  · exact absurd h h0
  · have hne : b ≠ g := fun e => by
      subst e
      obtain ⟨_, _, _, _, c0, _⟩ := hR
      have := hc 0 (by omega)
      rw [c0] at this
      cases this
    exact .inr ⟨b, ha, h1, Nat.lt_of_lt_of_le h2 hg.size, fun k hk => grow_cell hg hne (hc k hk)⟩
theorem RatZ.far {z Bd g p : Nat} {w w' : World} {A : Option Addr} {m : Nat} {N D : Nat → Int} (h : RatZ z w A m N D) (hg : w.grownBy w' (some g)) (hR : RD Bd w g p) : RatZ z w' A m N D := by
  by_cases h0 : m = 0
  · exact .inl h0
  rcases h with h | ⟨b, ha, h1, h2, hc⟩
  · exact absurd h h0
  · have hne : b ≠ g := fun e => by
      subst e
      obtain ⟨_, _, _, _, c0, _⟩ := hR
      have := (hc 0 (by omega)).1
      rw [Nat.zero_mul, c0] at this
      cases this
    exact .inr ⟨b, ha, h1, Nat.lt_of_lt_of_le h2 hg.size, fun k hk => ⟨grow_cell hg hne (hc k hk).1, grow_cell hg hne (hc k hk).2⟩⟩
theorem set_ints {W : World} {g : Nat} {x : Int} {l : List Int} (h0 : 0 < l.length) (hg : g < W.heap.size) (hc : ∀ k, k < l.length → W.cell? ⟨g, k, none⟩ = some (.int .i64 (l.getD k 0))) : Ints (W.setCell ⟨g, 0, none⟩ (.int .i64 x)) (some ⟨g, 0, none⟩) l.length (fun k => if k = 0 then x else l.getD k 0) :=
  .inr ⟨g, 0, rfl, by simpa [World.setCell] using hg, fun k hk => by
    rw [Nat.zero_add]
    by_cases e : k = 0
    · subst e; simp only [if_true]; exact World.cell?_setCell_same _ _ _ (hc 0 h0)
    · simp only [if_neg e]; rw [World.cell?_setCell_other _ _ _ _ (by simp <;> omega)]; exact hc k hk⟩
set_option maxRecDepth 100000 in
set_option maxHeartbeats 16000000 in
theorem l3times_any (Bd : Nat) (w : World) (g p : Nat) (A : Option Addr) (n c : Nat) (L : Lst) (hR : RD Bd w g p) (hp : p ≤ 100000) (hn : n ≤ 30) (hA : Lins w A n L) (hN : ∀ k, k < n → L.N k ≤ 1048576) :
    Calls Try.prog 41 #[.pointer (some ⟨g, 0, none⟩), .slice A n c] w (TimP w g) := by
  obtain ⟨i0, hi, hz0, hz1, hz2⟩ := info_parts infoI
  have hlt := hR.lt
  have hle := hR.le
  have hF := sfarrun_any A n c L w (by omega) hA hN
  have hk := FarE.k_le n (runE n L)
  generalize runE n L = R at hF hk
  clear hA hN
  go_enter Try.func41, Try.ntmps41
  go_wp2_with fail
  refine hF.mono ?_
  rintro e w1 ⟨A1, c1, B1, dd1, rfl, hq, _, hI1⟩
  clear hF
  have hg1 : w.grownBy w1 (some g) := grow_of_below hq (some g)
  have hR1 : RD Bd w1 g p := hR.below hq
  have hs1 := hq.size
  clear hq hR
  by_cases hc : R.code = 1
  · have d1 : (R.code == 1) = true := by simpa using hc
    clear hc
    go_wp2_with fail
    refine (pick_any Bd _ g p 3 hR1 (by omega) (by omega)).mono ?_
    rintro e w2 ⟨x, x0, x1, rfl, hg2, hR2⟩
    have hg2' := grow_trans hg1 hg2
    by_cases hx : 0 < x
    · have d2 : decide (0 < x) = true := decide_eq_true hx
      have hI2 : Ints w2 B1 (R.k n) R.U := (hI1.far hg2 hR1).ints
      go_wp2
      go_ret
      exact ⟨B1, R.k n, dd1, R.U, rfl, by omega, hI2, hg2'⟩
    · have d2 : decide (0 < x) = false := decide_eq_false hx
      have h0 : IB Bd w2.heap.size w g (p + 1) (.slice (some ⟨w2.heap.size, 0, none⟩) 0 0) [] (w2.alloc (.cells #[] 3)) :=
        ⟨grow_trans hg2' (grow_alloc (grow_refl _ _) _), own_empty w2 3 1, _, by omega, hR2.alloc _⟩
      have hsW := hg2'.size
      have hltW : g < w2.heap.size := by omega
      have hsl : w2.heap.size ≤ (w2.alloc (.cells #[] 3)).heap.size := by simp
      go_wp2_with fail
      generalize w2.heap.size = lo at *
      go_loopw [8, 9] (fun v i wr => ∃ (k : Nat) (l : List Int), k ≤ n ∧ i = .int .i64 k ∧ l.length = k ∧ lo ≤ wr.heap.size ∧ IB Bd lo w g (p + 1 + k) v l wr) (fun _ i _ => n - (intOf i).toNat)
      case atStart => exact ⟨0, [], Nat.zero_le _, rfl, rfl, hsl, h0⟩
      case round =>
        clear h0
        obtain ⟨k, l, hk, rfl, hl, hsz, h⟩ := hrel
        obtain ⟨q, hq, hRq⟩ := h.rd
        by_cases hltk : k < n
        · go_wp2_with fail
          refine (num_any Bd _ g q wr.heap.size 6 6 zsT6 (hRq.alloc _) (by omega) rfl (by decide) (by decide) (by have := hRq.lt; omega) (row6T wr 3)).mono ?_
          rintro e w3 ⟨x1, _, rfl, hg3, hR3⟩
          have h1 := h.grow (p' := p + 1 + (k + 1)) (grow_trans (grow_alloc (grow_refl _ _) _) hg3) hltW ⟨_, by omega, hR3⟩
          have hs3 := hg3.size
          simp only [World.size_alloc] at hs3
          clear hg3 h hRq hq
          go_wp2_with ((at_builtin; refine wpList_append_own_at _ rfl _ _ 24 rfl lo 3 i0 (.int .i64 0) 1 8 Try.underlying24 hi hz0 hz1 hz2 rfl (by decide) _ _ _ rfl (h1.own.alloc _) ⟨w3.heap.size, 0, none⟩ 1 1 [.int .i64 x1] rfl rfl (cell_one_new _ _ _) (fun u hu => by simp at hu; subst hu; rfl) (by unfold maxLen; omega) (by omega) (by simp; omega) ?_; intro v' w5 hown hgrow _ _; have H5 := hid (h1.step hltW (by omega) (by omega) hown hgrow); have hs5 := hgrow.size))
          exact ⟨⟨k + 1, l ++ [x1], by omega, by go_num, by simp [hl], by simp at hs5; omega, H5.out⟩, by simp [intOf]; omega⟩
        · have hkn : k = n := by omega
          subst hkn
          obtain ⟨Av, cv, rfl, hv⟩ := own_intsJ h.own
          go_wp2_with fail
          refine (pick_any Bd _ g q 20 hRq (by omega) (by omega)).mono ?_
          rintro e w3 ⟨x, _, _, rfl, hg3, hR3⟩
          have h1 := h.grow (p' := p + 2 + k) hg3 hltW ⟨_, by omega, hR3⟩
          have hs3 := hg3.size
          clear h hg3 hRq hq hv
          have hl5 : l.length ≤ 30 := by omega
          obtain ⟨q3, hq3, hR3'⟩ := h1.rd
          obtain ⟨A', c', e', hv'⟩ := own_intsJ h1.own
          injection e' with e1' e2' e3'
          subst e1'
          subst e3'
          have HL := hid hl
          have hI3 : Ints w3 Av l.length (fun k => l.getD k 0) := by
            rcases hv' with h0 | ⟨gA, rfl, _, hgA, _, hcA⟩
            · exact .inl h0
            · exact .inr ⟨gA, 0, rfl, hgA, fun k hk => by rw [Nat.zero_add]; exact hcA k hk⟩
          have hsz3 : lo ≤ w3.heap.size := Nat.le_trans hsz hs3
          clear hl
          by_cases e0 : x = 0
          · have d0 : (x == 0) = true := by simpa using e0
            clear e0
            go_wp2_with ((at_builtin; (refine wpList_append_own_at _ rfl _ _ 24 rfl lo 3 i0 (.int .i64 0) 1 8 Try.underlying24 hi hz0 hz1 hz2 rfl (by decide) _ _ _ rfl (h1.own.alloc _) ⟨w3.heap.size, 0, none⟩ 1 1 [.int .i64 1] rfl rfl (cell_one_new _ _ _) (fun u hu => by simp at hu; subst hu; rfl) (by unfold maxLen; omega) (by omega) (by simp; omega) ?_); intro v' w5 hown hgrow _ _; have H5 := h1.step hltW (by omega) (by omega) hown hgrow))
            obtain ⟨A5, c5, rfl, hv5⟩ := own_intsJ H5.own
            go_ret
            refine ⟨A5, _, c5, fun k => (l ++ [1]).getD k 0, rfl, by simp; omega, ?_, H5.grown⟩
            rcases hv5 with h0 | ⟨gA, rfl, _, hgA, _, hcA⟩
            · exact .inl h0
            · exact .inr ⟨gA, 0, rfl, hgA, fun k hk => by rw [Nat.zero_add]; exact hcA k hk⟩
          have d0 : (x == 0) = false := by simpa using e0
          by_cases e1 : x = 1
          · have d1 : (x == 1) = true := by simpa using e1
            clear e0 e1
            by_cases hn0 : 0 < l.length
            · rcases hv' with h0 | ⟨gA, rfl, hlo, hgA, hfA, hcA⟩
              · omega
              go_wp2_with fail
              refine (num_any Bd _ g q3 w3.heap.size 4 4 zsT4 (hR3'.alloc _) (by omega) rfl (by decide) (by decide) (by have := hR3'.lt; omega) (row4T w3 3)).mono ?_
              rintro e w4 ⟨y, _, rfl, hg4, hR4⟩
              have hg4' := grow_trans (grow_alloc (grow_refl w3 (some g)) _) hg4
              have hc4 : ∀ k, k < l.length → w4.cell? ⟨gA, k, none⟩ = some (.int .i64 (l.getD k 0)) := fun k hk => grow_cell hg4' (by omega) (hcA k hk)
              have x0 := hc4 0 hn0
              have f0 : w4.frozen? ⟨gA, 0, none⟩ = false := frzR hg4' hgA (by simp; omega) hfA 0
              have HC4 := hid hc4
              have hgA4 : gA < w4.heap.size := Nat.lt_of_lt_of_le hgA hg4'.size
              have hgr := grow_trans h1.grown hg4'
              clear hc4 hcA hfA
              go_wp2
              go_ret
              exact ⟨some ⟨gA, 0, none⟩, l.length, cv, _, rfl, by omega, set_ints hn0 hgA4 HC4.out, grow_setNew hgr (show w.heap.size ≤ gA by omega) 0 _⟩
            · have d2 : decide (0 < (l.length : Int)) = false := decide_eq_false (by omega)
              go_wp2
              go_ret
              exact ⟨Av, l.length, cv, _, rfl, by omega, hI3, h1.grown⟩
          · have d1 : (x == 1) = false := by simpa using e1
            clear e0 e1
            go_wp2
            go_ret
            exact ⟨Av, l.length, cv, _, rfl, by omega, hI3, h1.grown⟩
  · have d1 : (R.code == 1) = false := by simpa using hc
    have h0 : IB Bd w1.heap.size w g (p + 1) (.slice (some ⟨w1.heap.size, 0, none⟩) 0 0) [] (w1.alloc (.cells #[] 3)) :=
      ⟨grow_trans hg1 (grow_alloc (grow_refl _ _) _), own_empty w1 3 1, _, by omega, hR1.alloc _⟩
    have hsW := hg1.size
    have hltW : g < w1.heap.size := by omega
    have hsl : w1.heap.size ≤ (w1.alloc (.cells #[] 3)).heap.size := by simp
    go_wp2_with fail
    generalize w1.heap.size = lo at *
    go_loopw [8, 9] (fun v i wr => ∃ (k : Nat) (l : List Int), k ≤ n ∧ i = .int .i64 k ∧ l.length = k ∧ lo ≤ wr.heap.size ∧ IB Bd lo w g (p + 1 + k) v l wr) (fun _ i _ => n - (intOf i).toNat)
    case atStart => exact ⟨0, [], Nat.zero_le _, rfl, rfl, hsl, h0⟩
    case round =>
      clear h0
      obtain ⟨k, l, hk, rfl, hl, hsz, h⟩ := hrel
      obtain ⟨q, hq, hRq⟩ := h.rd
      by_cases hltk : k < n
      · go_wp2_with fail
        refine (num_any Bd _ g q wr.heap.size 6 6 zsT6 (hRq.alloc _) (by omega) rfl (by decide) (by decide) (by have := hRq.lt; omega) (row6T wr 3)).mono ?_
        rintro e w3 ⟨x1, _, rfl, hg3, hR3⟩
        have h1 := h.grow (p' := p + 1 + (k + 1)) (grow_trans (grow_alloc (grow_refl _ _) _) hg3) hltW ⟨_, by omega, hR3⟩
        have hs3 := hg3.size
        simp only [World.size_alloc] at hs3
        clear hg3 h hRq hq
        go_wp2_with ((at_builtin; refine wpList_append_own_at _ rfl _ _ 24 rfl lo 3 i0 (.int .i64 0) 1 8 Try.underlying24 hi hz0 hz1 hz2 rfl (by decide) _ _ _ rfl (h1.own.alloc _) ⟨w3.heap.size, 0, none⟩ 1 1 [.int .i64 x1] rfl rfl (cell_one_new _ _ _) (fun u hu => by simp at hu; subst hu; rfl) (by unfold maxLen; omega) (by omega) (by simp; omega) ?_; intro v' w5 hown hgrow _ _; have H5 := hid (h1.step hltW (by omega) (by omega) hown hgrow); have hs5 := hgrow.size))
        exact ⟨⟨k + 1, l ++ [x1], by omega, by go_num, by simp [hl], by simp at hs5; omega, H5.out⟩, by simp [intOf]; omega⟩
      · have hkn : k = n := by omega
        subst hkn
        obtain ⟨Av, cv, rfl, hv⟩ := own_intsJ h.own
        go_wp2_with fail
        refine (pick_any Bd _ g q 20 hRq (by omega) (by omega)).mono ?_
        rintro e w3 ⟨x, _, _, rfl, hg3, hR3⟩
        have h1 := h.grow (p' := p + 2 + k) hg3 hltW ⟨_, by omega, hR3⟩
        have hs3 := hg3.size
        clear h hg3 hRq hq hv
        have hl5 : l.length ≤ 30 := by omega
        obtain ⟨q3, hq3, hR3'⟩ := h1.rd
        obtain ⟨A', c', e', hv'⟩ := own_intsJ h1.own
        injection e' with e1' e2' e3'
        subst e1'
        subst e3'
        have HL := hid hl
        have hI3 : Ints w3 Av l.length (fun k => l.getD k 0) := by
          rcases hv' with h0 | ⟨gA, rfl, _, hgA, _, hcA⟩
          · exact .inl h0
          · exact .inr ⟨gA, 0, rfl, hgA, fun k hk => by rw [Nat.zero_add]; exact hcA k hk⟩
        have hsz3 : lo ≤ w3.heap.size := Nat.le_trans hsz hs3
        clear hl
        by_cases e0 : x = 0
        · have d0 : (x == 0) = true := by simpa using e0
          clear e0
          go_wp2_with ((at_builtin; (refine wpList_append_own_at _ rfl _ _ 24 rfl lo 3 i0 (.int .i64 0) 1 8 Try.underlying24 hi hz0 hz1 hz2 rfl (by decide) _ _ _ rfl (h1.own.alloc _) ⟨w3.heap.size, 0, none⟩ 1 1 [.int .i64 1] rfl rfl (cell_one_new _ _ _) (fun u hu => by simp at hu; subst hu; rfl) (by unfold maxLen; omega) (by omega) (by simp; omega) ?_); intro v' w5 hown hgrow _ _; have H5 := h1.step hltW (by omega) (by omega) hown hgrow))
          obtain ⟨A5, c5, rfl, hv5⟩ := own_intsJ H5.own
          go_ret
          refine ⟨A5, _, c5, fun k => (l ++ [1]).getD k 0, rfl, by simp; omega, ?_, H5.grown⟩
          rcases hv5 with h0 | ⟨gA, rfl, _, hgA, _, hcA⟩
          · exact .inl h0
          · exact .inr ⟨gA, 0, rfl, hgA, fun k hk => by rw [Nat.zero_add]; exact hcA k hk⟩
        have d0 : (x == 0) = false := by simpa using e0
        by_cases e1 : x = 1
        · have d1 : (x == 1) = true := by simpa using e1
          clear e0 e1
          by_cases hn0 : 0 < l.length
          · rcases hv' with h0 | ⟨gA, rfl, hlo, hgA, hfA, hcA⟩
            · omega
            go_wp2_with fail
            refine (num_any Bd _ g q3 w3.heap.size 4 4 zsT4 (hR3'.alloc _) (by omega) rfl (by decide) (by decide) (by have := hR3'.lt; omega) (row4T w3 3)).mono ?_
            rintro e w4 ⟨y, _, rfl, hg4, hR4⟩
            have hg4' := grow_trans (grow_alloc (grow_refl w3 (some g)) _) hg4
            have hc4 : ∀ k, k < l.length → w4.cell? ⟨gA, k, none⟩ = some (.int .i64 (l.getD k 0)) := fun k hk => grow_cell hg4' (by omega) (hcA k hk)
            have x0 := hc4 0 hn0
            have f0 : w4.frozen? ⟨gA, 0, none⟩ = false := frzR hg4' hgA (by simp; omega) hfA 0
            have HC4 := hid hc4
            have hgA4 : gA < w4.heap.size := Nat.lt_of_lt_of_le hgA hg4'.size
            have hgr := grow_trans h1.grown hg4'
            clear hc4 hcA hfA
            go_wp2
            go_ret
            exact ⟨some ⟨gA, 0, none⟩, l.length, cv, _, rfl, by omega, set_ints hn0 hgA4 HC4.out, grow_setNew hgr (show w.heap.size ≤ gA by omega) 0 _⟩
          · have d2 : decide (0 < (l.length : Int)) = false := decide_eq_false (by omega)
            go_wp2
            go_ret
            exact ⟨Av, l.length, cv, _, rfl, by omega, hI3, h1.grown⟩
        · have d1 : (x == 1) = false := by simpa using e1
          clear e0 e1
          go_wp2
          go_ret
          exact ⟨Av, l.length, cv, _, rfl, by omega, hI3, h1.grown⟩
end Go.Proofs.Ytplocljoanaoeaa

namespace Go.Proofs.Ytplocljoanaoeaa
set_option linter.unusedVariables false
set_option linter.unusedSimpArgs false
open Go.RowKit
/-- a drawn list, and how many times each -/
def DrwS (w : World) (e : Ending) (w' : World) : Prop :=
  ∃ a n c L B m d T, e = .returned (.tuple #[.slice a n c, .slice B m d]) ∧ n ≤ 30 ∧ Lins w' a n L ∧ (∀ k, k < n → L.N k ≤ 5) ∧ m ≤ 40 ∧ Ints w' B m T ∧ Below w.heap.size w w'
set_option maxHeartbeats 4000000 in
theorem drawfarsum_any (B : Nat) (w : World) (a : Option Addr) (len cap : Nat) (hB : B ≤ w.heap.size) (hby : Bytes B w a len) (hlc : len ≤ cap) (hc : cap ≤ 9223372036854775807) :
    Calls Try.prog 17 #[.slice a len cap] w (DrwS w) := by
  have hO := open_any B w a len cap hB hby hlc hc
  go_enter Try.func17, Try.ntmps17
  go_wp2_with fail
  refine hO.mono ?_
  rintro e w1 ⟨g, rfl, hb, hR, hg⟩
  clear hO
  go_wp2_with fail
  refine (l3some_any B w1 g 0 hR (by omega)).mono ?_
  rintro e w2 ⟨v, ds, q, rfl, hd, hn, hg2, hR2, hq2⟩
  obtain ⟨a3, c3, rfl⟩ := hd.sl
  have hsm := hd.small
  have hlt := hR.lt
  go_wp2_with fail
  refine (l3times_any B w2 g q a3 ds.length c3 (lstD ds) hR2 (by omega) hn hd.lins (fun k hk => by have := hsm k hk; omega)).mono ?_
  rintro e w3 ⟨A, m, d, T, rfl, hm, hI, hg3⟩
  have hd3 := hd.far hg3 hlt
  have hz := hb.size
  go_wp2
  go_ret2
  refine ⟨a3, ds.length, c3, lstD ds, A, m, d, T, rfl, hn, hd3.lins, hsm, hm, hI, hb.grown (grow_trans hg2 hg3) hb.size (fun r hr => ?_)⟩
  have := Option.some.inj hr
  omega
set_option maxHeartbeats 4000000 in
theorem drawfarok_any (B : Nat) (w : World) (a : Option Addr) (len cap : Nat) (hB : B ≤ w.heap.size) (hby : Bytes B w a len) (hlc : len ≤ cap) (hc : cap ≤ 9223372036854775807) :
    Calls Try.prog 11 #[.slice a len cap] w (DrwS w) := by
  have hS := drawfarsum_any B w a len cap hB hby hlc hc
  go_enter Try.func11, Try.ntmps11
  go_wp2_with fail
  refine hS.mono ?_
  rintro e w1 ⟨a, n, c, L, B, m, d, T, rfl, h⟩
  go_wp2
  go_ret2
  exact ⟨a, n, c, L, B, m, d, T, rfl, h⟩
/-- a drawn list and drawn numbers -/
def DrwA (w : World) (e : Ending) (w' : World) : Prop :=
  ∃ a n c L D m d N M, e = .returned (.tuple #[.slice a n c, .slice D m d]) ∧ n ≤ 30 ∧ Lins w' a n L ∧ (∀ k, k < n → L.N k ≤ 5) ∧ m ≤ 4 ∧ Rats w' D m N M ∧ Below w.heap.size w w'
theorem FarE.m_le (R : FarE) : R.m ≤ 4 := by cases R <;> simp [FarE.m]
set_option maxHeartbeats 4000000 in
theorem drawfarall_any (B : Nat) (w : World) (a : Option Addr) (len cap : Nat) (hB : B ≤ w.heap.size) (hby : Bytes B w a len) (hlc : len ≤ cap) (hc : cap ≤ 9223372036854775807) :
    Calls Try.prog 27 #[.slice a len cap] w (DrwA w) := by
  have hO := open_any B w a len cap hB hby hlc hc
  go_enter Try.func27, Try.ntmps27
  go_wp2_with fail
  refine hO.mono ?_
  rintro e w1 ⟨g, rfl, hb, hR, hg⟩
  clear hO
  go_wp2_with fail
  refine (l3some_any B w1 g 0 hR (by omega)).mono ?_
  rintro e w2 ⟨v, ds, q, rfl, hd, hn, hg2, hR2, hq2⟩
  obtain ⟨a3, c3, rfl⟩ := hd.sl
  have hsm := hd.small
  have hlt := hR.lt
  have hz := hb.size
  have hk := FarE.m_le (runE ds.length (lstD ds))
  have hF := sfarrun_any a3 ds.length c3 (lstD ds) w2 (by omega) hd.lins (fun k hk => by have := hsm k hk; omega)
  generalize runE ds.length (lstD ds) = R at hF hk
  go_wp2_with fail
  refine hF.mono ?_
  rintro e w3 ⟨A1, c1, B1, dd1, rfl, hq, hV, _⟩
  have hg3 : w2.grownBy w3 (some g) := grow_of_below hq (some g)
  have hR3 : RD B w3 g q := hR2.below hq
  have hgA := grow_trans hg2 hg3
  have hdA := hd.far hg3 hlt
  clear hF hq
  by_cases h0 : R.code = 0
  · have d0 : (R.code == 0) = true := by simpa using h0
    clear h0
    go_wp2_with fail
    refine (pick_any B _ g q 2 hR3 (by omega) (by omega)).mono ?_
    rintro e w4 ⟨x, x0, x1, rfl, hg4, hR4⟩
    have hV4 := (hV.far hg4 hR3).rats
    have hd4 := hdA.far hg4 hlt
    have hg5 := grow_trans hgA hg4
    by_cases hx : x = 0
    · have d1 : (x == 0) = true := by simpa using hx
      clear hx
      go_wp2
      go_ret2
      refine ⟨a3, ds.length, c3, lstD ds, A1, R.m, c1, _, _, rfl, hn, hd4.lins, hsm, hk, hV4, hb.grown hg5 hb.size (fun r hr => ?_)⟩
      have := Option.some.inj hr
      omega
    · have d1 : (x == 0) = false := by simpa using hx
      clear hx
      go_wp2_with fail
      refine (l2numbers_any B _ g (q + 1) hR4 (by omega)).mono ?_
      rintro e w5 ⟨D, m, d, N, M, q2, rfl, hm, hNR, hg6, _, _⟩
      have hd5 := hd4.far hg6 hlt
      go_wp2
      go_ret2
      refine ⟨a3, ds.length, c3, lstD ds, D, m, d, N, M, rfl, hn, hd5.lins, hsm, hm, hNR.rats, hb.grown (grow_trans hg5 hg6) hb.size (fun r hr => ?_)⟩
      have := Option.some.inj hr
      omega
  · have d0 : (R.code == 0) = false := by simpa using h0
    clear h0
    go_wp2_with fail
    refine (l2numbers_any B _ g q hR3 (by omega)).mono ?_
    rintro e w5 ⟨D, m, d, N, M, q2, rfl, hm, hNR, hg6, _, _⟩
    have hd5 := hdA.far hg6 hlt
    go_wp2
    go_ret2
    refine ⟨a3, ds.length, c3, lstD ds, D, m, d, N, M, rfl, hn, hd5.lins, hsm, hm, hNR.rats, hb.grown (grow_trans hgA hg6) hb.size (fun r hr => ?_)⟩
    have := Option.some.inj hr
    omega
end Go.Proofs.Ytplocljoanaoeaa
