/- Contract of the draw of one constraint. -/
import Derived.Test.YthcabejfmoedfaaDoorLinDA
import Derived.Test.YthcabejfmoedfaaDoorLinL
namespace Go.Proofs.YthcabejfmoedfaaDoor
set_option linter.unusedVariables false
set_option linter.unusedSimpArgs false
open Go.RowKit
def zsK : List Int := [0, 1, -1, 2, 5, -4, 7]
def zsL : List Int := [0, 1, -1, 1, -1, 2, -2, 3]
theorem OwnI.newRow {W w : World} {A : Option Addr} {n : Nat} {Z : Nat → Int} (h : OwnI W w A n Z) : NewRow W.heap.size w A n Z := by
  rcases h with h | ⟨g, ha, h1, h2, hc⟩
  · exact .inl h
  · exact .inr ⟨g, 0, ha, h1, h2, fun k hk => by rw [Nat.zero_add]; exact (hc k hk).1⟩
theorem row7 (w : World) (t : TypeId) : ∀ k, k < zsK.length → (w.alloc (.cells #[.int .i64 0, .int .i64 1, .int .i64 (-1), .int .i64 2, .int .i64 5, .int .i64 (-4), .int .i64 7] t)).cell? ⟨w.heap.size, k, none⟩ = some (.int .i64 (zsK.getD k 0)) := by
  intro k hk
  simp only [zsK, List.length_cons, List.length_nil] at hk
  have hk' : k = 0 ∨ k = 1 ∨ k = 2 ∨ k = 3 ∨ k = 4 ∨ k = 5 ∨ k = 6 := by omega
  rcases hk' with rfl | rfl | rfl | rfl | rfl | rfl | rfl <;> simp [go_sem, zsK]
theorem row8 (w : World) (t : TypeId) : ∀ k, k < zsL.length → (w.alloc (.cells #[.int .i64 0, .int .i64 1, .int .i64 (-1), .int .i64 1, .int .i64 (-1), .int .i64 2, .int .i64 (-2), .int .i64 3] t)).cell? ⟨w.heap.size, k, none⟩ = some (.int .i64 (zsL.getD k 0)) := by
  intro k hk
  simp only [zsL, List.length_cons, List.length_nil] at hk
  have hk' : k = 0 ∨ k = 1 ∨ k = 2 ∨ k = 3 ∨ k = 4 ∨ k = 5 ∨ k = 6 ∨ k = 7 := by omega
  rcases hk' with rfl | rfl | rfl | rfl | rfl | rfl | rfl | rfl <;> simp [go_sem, zsL]
set_option maxRecDepth 100000 in
set_option maxHeartbeats 4000000 in
theorem l2any_any (Bd : Nat) (w : World) (g p : Nat) (hR : RD Bd w g p) (hp : p ≤ 1000000) :
    Calls Tryd.prog 73 #[.pointer (some ⟨g, 0, none⟩)] w (AnyP Bd w g p) := by
  have hlt := hR.lt
  have hle := hR.le
  go_enter Tryd.func73, Tryd.ntmps73
  go_wp2_with fail
  refine (num_any Bd _ g p (w.heap.size + 1) 7 7 zsK ((hR.alloc _).alloc _) (by omega) rfl (by decide) (by decide) (by omega) ?_).mono ?_
  · have := row7 (w.alloc (.cells #[.slice none 0 0, .int .i64 0, .bool false] 39)) 3
    simpa only [World.size_alloc] using this
  rintro e w1 ⟨b, _, rfl, hg1, hR1⟩
  have hgA : w.grownBy w1 (some g) := grow_trans (grow_alloc (grow_alloc (grow_refl _ _) _) _) hg1
  have K1 := KcL.new3 w (.slice none 0 0) (.int .i64 0) (.bool false) 39 rfl
  have f0 : w1.frozen? ⟨w.heap.size, 0, none⟩ = false := (World.frozen?_of_block (w := (w.alloc (.cells #[.slice none 0 0, .int .i64 0, .bool false] 39)).alloc (.cells #[.int .i64 0, .int .i64 1, .int .i64 (-1), .int .i64 2, .int .i64 5, .int .i64 (-4), .int .i64 7] 3)) (a := ⟨w.heap.size, 0, none⟩) (hg1.block _ (by simp; omega) (by simp; omega))).trans (by simp [go_sem])
  have f1 : w1.frozen? ⟨w.heap.size, 1, none⟩ = false := (World.frozen?_of_block (w := (w.alloc (.cells #[.slice none 0 0, .int .i64 0, .bool false] 39)).alloc (.cells #[.int .i64 0, .int .i64 1, .int .i64 (-1), .int .i64 2, .int .i64 5, .int .i64 (-4), .int .i64 7] 3)) (a := ⟨w.heap.size, 1, none⟩) (hg1.block _ (by simp; omega) (by simp; omega))).trans (by simp [go_sem])
  have f2 : w1.frozen? ⟨w.heap.size, 2, none⟩ = false := (World.frozen?_of_block (w := (w.alloc (.cells #[.slice none 0 0, .int .i64 0, .bool false] 39)).alloc (.cells #[.int .i64 0, .int .i64 1, .int .i64 (-1), .int .i64 2, .int .i64 5, .int .i64 (-4), .int .i64 7] 3)) (a := ⟨w.heap.size, 2, none⟩) (hg1.block _ (by simp; omega) (by simp; omega))).trans (by simp [go_sem])
  replace K1 := (KcL.alloc K1 (.cells #[.int .i64 0, .int .i64 1, .int .i64 (-1), .int .i64 2, .int .i64 5, .int .i64 (-4), .int .i64 7] 3)).keep hg1 (fun e he r hr => by have := Option.some.inj hr; simp at he; rcases he with rfl | rfl | rfl <;> (simp only; omega))
  clear hg1
  go_wp2_with fail
  refine (pick_any Bd _ g (p + 1) 3 hR1 (by omega) (by omega)).mono ?_
  rintro e w2 ⟨x, _, _, rfl, hg2, hR2⟩
  replace hgA := grow_trans hgA hg2
  obtain ⟨k0, k1, k2, _⟩ := K1
  have b1 : w.heap.size < w1.heap.size := cell_lt k0
  have b2 : w.heap.size < w2.heap.size := Nat.lt_of_lt_of_le b1 hg2.size
  replace f0 := (World.frozen?_of_block (w := w1) (a := ⟨w.heap.size, 0, none⟩) (hg2.block _ b1 (by simp; omega))).trans f0
  replace f1 := (World.frozen?_of_block (w := w1) (a := ⟨w.heap.size, 1, none⟩) (hg2.block _ b1 (by simp; omega))).trans f1
  replace f2 := (World.frozen?_of_block (w := w1) (a := ⟨w.heap.size, 2, none⟩) (hg2.block _ b1 (by simp; omega))).trans f2
  replace k0 := grow_cell hg2 (by omega) k0
  replace k1 := grow_cell hg2 (by omega) k1
  replace k2 := grow_cell hg2 (by omega) k2
  clear hg2 hR1
  have hgB : g < w2.heap.size := hR2.lt
  have h0 : DBld Bd w2.heap.size w2 g b (x == 0) 0 (p + 2) (.slice none 0 0) (fun _ => 0) (w2.alloc (.cells #[.slice none 0 0, .int .i64 b, .bool (x == 0)] 39)) :=
    ⟨grow_alloc (grow_refl _ _) _, World.ownsRow_nil _ _ _ _, by simp [go_sem], by simp [go_sem], by simp [go_sem], by simp [go_sem], _, Nat.le_refl _, hR2.alloc _⟩
  obtain ⟨i0, hi, hz0, hz1, hz2⟩ := info_parts infoI
  go_wp2_with fail
  generalize (x == 0) = s at h0 ⊢
  go_loopw [4] (fun i wr => ∃ (k : Nat) (v : Value) (Z : Nat → Int), k ≤ 4 ∧ i = .int .i64 k ∧ DBld Bd w2.heap.size w2 g b s k (p + 2 + 2 * k) v Z wr) (fun i _ => 4 - (intOf i).toNat)
  case atStart => exact ⟨0, _, _, Nat.zero_le _, rfl, h0⟩
  case round =>
    clear h0
    obtain ⟨k, v, Z, hk, rfl, h⟩ := hrel
    by_cases hlt4 : k < 4
    · have ds : decide (k < 4) = true := by simpa using hlt4
      obtain ⟨q, hq, hRq⟩ := h.rd
      by_cases hlt2 : k < 2
      · have ds2 : decide (k < 2) = true := by simpa using hlt2
        go_wp2_with fail
        refine (num_any Bd _ g q wr.heap.size 8 8 zsL (hRq.alloc _) (by omega) rfl (by decide) (by decide) (by have := hRq.lt; omega) (row8 wr 3)).mono ?_
        rintro e w4 ⟨zz, _, rfl, hg4, hR4⟩
        have h4 := h.grow (p' := p + 2 + 2 * (k + 1)) (grow_trans (grow_alloc (grow_refl _ _) _) hg4) hgB ⟨_, by omega, hR4⟩
        have c0 := h4.c0
        have hx4 := cell_lt h4.c0; simp only at hx4
        go_wp2_with ((at_builtin; refine wpList_append_own _ rfl _ _ 34 rfl (w2.heap.size + 1) 3 i0 (.int .i64 0) 1 8 Tryd.underlying34 hi hz0 hz1 hz2 rfl (by decide) _ _ _ rfl (h4.own.alloc _) ⟨w4.heap.size, 0, none⟩ 1 1 [.int .i64 zz] rfl rfl (new_one _ _ _) (fun u hu => by simp at hu; subst hu; rfl) (by unfold maxLen; omega) (by omega) (by simp; omega) ?_; intro v' w3 hown hgrow _; obtain ⟨A', c', rfl⟩ := own_slice hown; obtain ⟨h5, m0, m1⟩ := DBld.step h4 (.int .i64 zz) hgB (by omega) (Nat.le_refl _) hown hgrow; have H5 := hid h5))
        exact ⟨⟨k + 1, _, _, by omega, by go_num, H5.out.le (by omega)⟩, by simp [intOf]; omega⟩
      · have ds2 : decide (k < 2) = false := by simpa using hlt2
        go_wp2_with fail
        refine (pick_any Bd _ g q 2 hRq (by omega) (by omega)).mono ?_
        rintro e w3 ⟨y, _, _, rfl, hg3, hR3⟩
        have h3 := h.grow (p' := p + 2 + 2 * k + 1) hg3 hgB ⟨_, by omega, hR3⟩
        by_cases hy : y = 0
        · have dy : (y == 0) = true := by simpa using hy
          go_wp2_with fail
          refine (num_any Bd _ g (q + 1) w3.heap.size 8 8 zsL (hR3.alloc _) (by omega) rfl (by decide) (by decide) (by have := hR3.lt; omega) (row8 w3 3)).mono ?_
          rintro e w4 ⟨zz, _, rfl, hg4, hR4⟩
          have h4 := h3.grow (p' := p + 2 + 2 * (k + 1)) (grow_trans (grow_alloc (grow_refl _ _) _) hg4) hgB ⟨_, by omega, hR4⟩
          have c0 := h4.c0
          have hx4 := cell_lt h4.c0; simp only at hx4
          go_wp2_with ((at_builtin; refine wpList_append_own _ rfl _ _ 34 rfl (w2.heap.size + 1) 3 i0 (.int .i64 0) 1 8 Tryd.underlying34 hi hz0 hz1 hz2 rfl (by decide) _ _ _ rfl (h4.own.alloc _) ⟨w4.heap.size, 0, none⟩ 1 1 [.int .i64 zz] rfl rfl (new_one _ _ _) (fun u hu => by simp at hu; subst hu; rfl) (by unfold maxLen; omega) (by omega) (by simp; omega) ?_; intro v' w3 hown hgrow _; obtain ⟨A', c', rfl⟩ := own_slice hown; obtain ⟨h5, m0, m1⟩ := DBld.step h4 (.int .i64 zz) hgB (by omega) (Nat.le_refl _) hown hgrow; have H5 := hid h5))
          exact ⟨⟨k + 1, _, _, by omega, by go_num, H5.out.le (by omega)⟩, by simp [intOf]; omega⟩
        · have dy : (y == 0) = false := by simpa using hy
          have h4 := h3
          have c0 := h4.c0
          have hx4 := cell_lt h4.c0; simp only at hx4
          go_wp2_with ((at_builtin; refine wpList_append_own _ rfl _ _ 34 rfl (w2.heap.size + 1) 3 i0 (.int .i64 0) 1 8 Tryd.underlying34 hi hz0 hz1 hz2 rfl (by decide) _ _ _ rfl (h4.own.alloc _) ⟨w3.heap.size, 0, none⟩ 1 1 [.int .i64 0] rfl rfl (new_one _ _ _) (fun u hu => by simp at hu; subst hu; rfl) (by unfold maxLen; omega) (by omega) (by simp; omega) ?_; intro v' w3 hown hgrow _; obtain ⟨A', c', rfl⟩ := own_slice hown; obtain ⟨h5, m0, m1⟩ := DBld.step h4 (.int .i64 0) hgB (by omega) (Nat.le_refl _) hown hgrow; have H5 := hid h5))
          exact ⟨⟨k + 1, _, _, by omega, by go_num, H5.out.le (by omega)⟩, by simp [intOf]; omega⟩
    · have hke : k = 4 := by omega
      subst hke
      have hgW := h.grown
      have hO := h.own
      obtain ⟨A', c', rfl⟩ := own_slice hO
      replace f0 := (World.frozen?_of_block (w := w2) (a := ⟨w.heap.size, 0, none⟩) (hgW.block _ b2 (by simp; omega))).trans f0
      replace f1 := (World.frozen?_of_block (w := w2) (a := ⟨w.heap.size, 1, none⟩) (hgW.block _ b2 (by simp; omega))).trans f1
      replace f2 := (World.frozen?_of_block (w := w2) (a := ⟨w.heap.size, 2, none⟩) (hgW.block _ b2 (by simp; omega))).trans f2
      replace k0 := grow_cell hgW (by omega) k0
      replace k1 := grow_cell hgW (by omega) k1
      replace k2 := grow_cell hgW (by omega) k2
      obtain ⟨q, hq, hRq⟩ := h.rd
      have r0 := h.c0
      have r1 := h.c1
      have r2 := h.c2
      have hgE := grow_trans hgA hgW
      have HO := hid hO; clear hO
      clear h hgA hgW
      go_wp2
      obtain ⟨t0, t1, t2⟩ := set3 k0 k1 k2 (.slice A' 4 c') (.int .i64 b) (.bool s)
      have hO2 := own_low (base' := w.heap.size + 1) (by omega) (ownsRow_setCell_below (ownsRow_setCell_below (ownsRow_setCell_below HO.out (a := ⟨w.heap.size, 0, none⟩) (by simp; omega) (.slice A' 4 c')) (a := ⟨w.heap.size, 1, none⟩) (by simp; omega) (.int .i64 b)) (a := ⟨w.heap.size, 2, none⟩) (by simp; omega) (.bool s))
      refine bodyPost_ret (v := .agg #[.slice A' 4 c', .int .i64 b, .bool s]) (by simp [results, Tryd.results73, go_sem, t0, t1, t2]) rfl ?_
      exact ⟨A', c', Z, b, s, q, rfl, hO2, grow_setNew (grow_setNew (grow_setNew hgE (Nat.le_refl _) 0 _) (Nat.le_refl _) 1 _) (Nat.le_refl _) 2 _, ((hRq.set (by omega) (by omega) 0 _).set (by omega) (by omega) 1 _).set (by omega) (by omega) 2 _, by omega⟩
end Go.Proofs.YthcabejfmoedfaaDoor
