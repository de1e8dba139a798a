/- Contract of the draw of a constraint that may be bent. -/
import Derived.Test.YthcabejfmoedfaaDoorLinDB
import Derived.Test.YthcabejfmoedfaaDoorPlanC
namespace Go.Proofs.YthcabejfmoedfaaDoor
set_option linter.unusedVariables false
set_option linter.unusedSimpArgs false
open Go.RowKit
def zsM : List Int := [1000000, 1000001, -9223372036854775808]
def zsN : List Int := [-1000000, 1000001, -9223372036854775808]
theorem row3M (w : World) (t : TypeId) : ∀ k, k < zsM.length → (w.alloc (.cells #[.int .i64 1000000, .int .i64 1000001, .int .i64 (-9223372036854775808)] t)).cell? ⟨w.heap.size, k, none⟩ = some (.int .i64 (zsM.getD k 0)) := by
  intro k hk
  simp only [zsM, List.length_cons, List.length_nil] at hk
  have hk' : k = 0 ∨ k = 1 ∨ k = 2 := by omega
  rcases hk' with rfl | rfl | rfl <;> simp [go_sem, zsM]
theorem row3N (w : World) (t : TypeId) : ∀ k, k < zsN.length → (w.alloc (.cells #[.int .i64 (-1000000), .int .i64 1000001, .int .i64 (-9223372036854775808)] t)).cell? ⟨w.heap.size, k, none⟩ = some (.int .i64 (zsN.getD k 0)) := by
  intro k hk
  simp only [zsN, List.length_cons, List.length_nil] at hk
  have hk' : k = 0 ∨ k = 1 ∨ k = 2 := by omega
  rcases hk' with rfl | rfl | rfl <;> simp [go_sem, zsN]
theorem run_load1 {P : Program} {o : Oper} {ty e : TypeId} {x : Operand} (ho : o.op = .load ty x) {a : Act} {b k : Nat} (hx : a.eval x = .pointer (some ⟨b, k, none⟩)) (hu : P.underlying ty = some (.slice e)) {v : Value} {w : World} (hc : w.cell? ⟨b, k, none⟩ = some v) : (execOp a.eval o).run P w = .ok (.value v) w := by
  have hagg : (isAgg ty).run P w = .ok false w := by
    unfold isAgg
    rw [Sem.run_bind, run_underlying hu w]
    rfl
  have hl : (loadVar ty ⟨b, k, none⟩).run P w = .ok v w := by simp [loadVar, Sem.run_bind, hagg, go_sem, hc]
  unfold execOp
  simp only [ho, hx, Instr.loadAt, Instr.sureAddr, Sem.run_bind, Sem.run_pure, Result.andThen_ok, hl]
theorem SM.reZ {Bd B : Nat} {w : World} {g p : Nat} {A : Option Addr} {n c : Nat} {Z : Nat → Int} (Z' : Nat → Int) {b : Int} {s : Bool} {wX : World} (h : SM Bd B w g p A n c Z b s wX) : SM Bd B w g p A n c Z' b s wX :=
  ⟨h.grown, h.k0, h.k1, h.k2, h.f0, h.f1, h.f2, h.l0, h.l1, h.l2, h.g0, h.g1, h.rd⟩
theorem some_fin {Bd B : Nat} {w : World} {g p p' : Nat} {A : Option Addr} {n c : Nat} {Z : Nat → Int} {b : Int} {s : Bool} {wX : World} (h : SM Bd B w g p' A n c Z b s wX) (hr : NewRow (w.heap.size + 1) wX A n Z) (hn : 1 ≤ n ∧ n ≤ 5) (hc : n ≤ c) (hc2 : c ≤ 9223372036854775807) (hp : p' ≤ p + 20) (hg : g < w.heap.size) (hle : Bd ≤ g) :
    SomeP Bd w g p (.returned (.agg #[.slice A n c, .int .i64 b, .bool s])) (((wX.setCell ⟨w.heap.size, 0, none⟩ (.slice A n c)).setCell ⟨w.heap.size, 1, none⟩ (.int .i64 b)).setCell ⟨w.heap.size, 2, none⟩ (.bool s)) := by
  obtain ⟨q, hq, hR⟩ := h.rd
  have kp : ∀ (W : World) (o : Nat) (v : Value), NewRow (w.heap.size + 1) W A n Z → NewRow (w.heap.size + 1) (W.setCell ⟨w.heap.size, o, none⟩ v) A n Z := fun W o v x => x.grow (grow_set W w.heap.size o v) (fun r e => by cases e; omega)
  exact ⟨A, n, c, Z, b, s, q, rfl, hn, hc, hc2, (kp _ 2 _ (kp _ 1 _ (kp _ 0 _ hr))).low (by omega), grow_setNew (grow_setNew (grow_setNew h.grown (Nat.le_refl _) 0 _) (Nat.le_refl _) 1 _) (Nat.le_refl _) 2 _, ((hR.set (by omega) (by omega) 0 _).set (by omega) (by omega) 1 _).set (by omega) (by omega) 2 _, by omega⟩
set_option maxRecDepth 100000 in
set_option maxHeartbeats 8000000 in
theorem l2some_any (Bd : Nat) (w : World) (g p : Nat) (hR : RD Bd w g p) (hp : p ≤ 100000) :
    Calls Tryd.prog 69 #[.pointer (some ⟨g, 0, none⟩)] w (SomeP Bd w g p) := by
  have hlt := hR.lt
  have hle := hR.le
  go_enter Tryd.func69, Tryd.ntmps69
  go_wp2_with fail
  refine (l2any_any Bd _ g p (hR.alloc _) (by omega)).mono ?_
  rintro e w1 ⟨A, c, Z, b, s, q, rfl, ho, hg1, hR1, hq⟩
  rw [World.size_alloc] at ho
  obtain ⟨A2, c2, e2, hc1, hc2, hO⟩ := own_new (W := w.alloc (.cells #[.slice none 0 0, .int .i64 0, .bool false] 39)) (by omega) (by simp) ho
  obtain ⟨rfl, rfl⟩ : A = A2 ∧ c = c2 := by simpa using e2
  clear e2
  rcases hO with h4 | ⟨hh, rfl, hh1, hh2, hcell⟩
  · omega
  rw [World.size_alloc] at hh1
  have K1 := (KcL.new3 w (.slice none 0 0) (.int .i64 0) (.bool false) 39 rfl).keep hg1 (fun e he r hr => by have := Option.some.inj hr; simp at he; rcases he with rfl | rfl | rfl <;> (simp only; omega))
  have ff : ∀ o, w1.frozen? ⟨w.heap.size, o, none⟩ = false := fun o => (World.frozen?_of_block (w := w.alloc (.cells #[.slice none 0 0, .int .i64 0, .bool false] 39)) (a := ⟨w.heap.size, o, none⟩) (hg1.block _ (by simp) (by simp; omega))).trans (by simp [go_sem])
  have b1 : w.heap.size < w1.heap.size := cell_lt K1.1
  have hgA : w.grownBy w1 (some g) := grow_trans (grow_alloc (grow_refl _ _) _) hg1
  have h0 : SM Bd w1.heap.size w g q (some ⟨hh, 0, none⟩) 4 c Z b s (w1.alloc (.cells #[.slice (some ⟨hh, 0, none⟩) 4 c, .int .i64 b, .bool s] 39)) :=
    ⟨grow_alloc hgA _, carryA _ K1.1, carryA _ K1.2.1, carryA _ K1.2.2.1, carryAf _ (ff 0) b1, carryAf _ (ff 1) b1, carryAf _ (ff 2) b1, by simp [go_sem], by simp [go_sem], by simp [go_sem], by simp [go_sem], by simp [go_sem], q, Nat.le_refl _, hR1.alloc _⟩
  have ho1 := ho.alloc (.cells #[.slice (some ⟨hh, 0, none⟩) 4 c, .int .i64 b, .bool s] 39)
  have hgB : g < w1.heap.size := hR1.lt
  clear K1 ff hgA ho
  go_wp2_with fail
  refine (pick_any Bd _ g q 80 (hR1.alloc _) (by omega) (by omega)).mono ?_
  rintro e w2 ⟨x, _, _, rfl, hg2, hR2⟩
  have h := h0.grow (p' := q + 1) hg2 hlt hgB ⟨_, Nat.le_refl _, hR2⟩
  have ho2 := ho1.kept hg2 (.inr (by simp [Value.ownBlock]; omega))
  have hgh : hh ≠ g := by omega
  have hcell2 : ∀ k, k < 4 → w2.cell? ⟨hh, k, none⟩ = some (.int .i64 (Z k)) ∧ w2.frozen? ⟨hh, k, none⟩ = false := fun k hk =>
    ⟨grow_cell hg2 hgh (carryA _ (hcell k hk).1), (World.frozen?_of_block (w := w1.alloc (.cells #[.slice (some ⟨hh, 0, none⟩) 4 c, .int .i64 b, .bool s] 39)) (a := ⟨hh, k, none⟩) (hg2.block _ (by simp; omega) (by simp; omega))).trans (carryAf _ (hcell k hk).2 hh2)⟩
  have hl2 : w1.heap.size < w2.heap.size := cell_lt h.l0
  have hh3 : hh < w2.heap.size := by omega
  clear h0 ho1 hg1 hg2 hR1 hcell
  generalize w1.heap.size = B at *
  obtain ⟨i0, hi, hz0, hz1, hz2⟩ := info_parts infoI
  by_cases e0 : x = 0
  · subst e0
    have k0 := h.k0
    have k1 := h.k1
    have k2 := h.k2
    have f0 := h.f0
    have f1 := h.f1
    have f2 := h.f2
    have l0 := h.l0
    have l1 := h.l1
    have l2 := h.l2
    have g0 := h.g0
    have g1 := h.g1
    go_upto_region 13 with fail
    have h' := h.setC (A' := some ⟨hh, 1, none⟩) (n' := 3) (c' := c - 1) (Z' := fun k => Z (k + 1)) (by omega) hlt (by omega)
    have row' : NewRow (w.heap.size + 1) (w2.setCell ⟨B, 0, none⟩ (.slice (some ⟨hh, 1, none⟩) 3 (c - 1))) (some ⟨hh, 1, none⟩) 3 (fun k => Z (k + 1)) := .inr ⟨hh, 1, rfl, hh1, by simpa using hh3, fun k hk => by rw [World.cell?_setCell_other _ _ _ _ (by simp <;> omega), Nat.add_comm]; exact (hcell2 (k + 1) (by omega)).1⟩
    clear k0 k1 k2 f0 f1 f2 l0 l1 l2 g0 g1
    generalize w2.setCell ⟨B, 0, none⟩ (.slice (some ⟨hh, 1, none⟩) 3 (c - 1)) = wX at h' row' ⊢
    have k0 := h'.k0
    have k1 := h'.k1
    have k2 := h'.k2
    have f0 := h'.f0
    have f1 := h'.f1
    have f2 := h'.f2
    have l0 := h'.l0
    have l1 := h'.l1
    have l2 := h'.l2
    have g0 := h'.g0
    have g1 := h'.g1
    go_wp2
    obtain ⟨t0, t1, t2⟩ := set3 k0 k1 k2 (.slice (some ⟨hh, 1, none⟩) 3 (c - 1)) (.int .i64 b) (.bool s)
    exact bodyPost_ret (v := .agg #[.slice (some ⟨hh, 1, none⟩) 3 (c - 1), .int .i64 b, .bool s]) (by simp [results, Tryd.results69, go_sem, t0, t1, t2]) rfl (some_fin h' row' (by omega) (by omega) (by omega) (by omega) hlt hle)
  have d0 : (x == 0) = false := by simpa using e0
  clear e0
  by_cases e1 : x = 1
  · subst e1
    have k0 := h.k0
    have k1 := h.k1
    have k2 := h.k2
    have f0 := h.f0
    have f1 := h.f1
    have f2 := h.f2
    have l0 := h.l0
    have l1 := h.l1
    have l2 := h.l2
    have g0 := h.g0
    have g1 := h.g1
    have hx4 : w.heap.size + 1 < w2.heap.size := by omega
    go_upto_region 13 with (at_builtin; refine wpList_append_own _ rfl _ _ 34 rfl (w.heap.size + 1 + 1) 3 i0 (.int .i64 0) 1 8 Tryd.underlying34 hi hz0 hz1 hz2 rfl (by decide) _ _ _ rfl (ho2.alloc _) ⟨w2.heap.size, 0, none⟩ 1 1 [.int .i64 0] rfl rfl (new_one _ _ _) (fun u hu => by simp at hu; subst hu; rfl) (by unfold maxLen; omega) (by omega) (by simp; omega) ?_; intro v' w3 hown hgrow _; obtain ⟨A', c', rfl⟩ := own_slice hown; have h2 := (h.other (grow_alloc (grow_refl w2 none) (.cells #[.int .i64 0] 3)) hlt (by omega) (fun r e => by cases e)).other hgrow hlt (by omega) (fun r e => by obtain rfl := Option.some.inj (show some hh = some r from e); omega); have m0 := h2.l0; have m1 := h2.g0)
    clear k0 k1 k2 f0 f1 f2 l0 l1 l2 g0 g1
    rw [← vals_put 4 Z 0] at hown
    obtain ⟨A3, c3, e3, hd1, hd2, hO⟩ := own_new (W := w.alloc (.cells #[.slice none 0 0, .int .i64 0, .bool false] 39)) (by omega) (by simp) hown
    obtain ⟨rfl, rfl⟩ : A' = A3 ∧ c' = c3 := by simpa using e3
    clear e3
    rcases hO with h4 | ⟨h5, rfl, h51, h52, hcell5⟩
    · omega
    rw [World.size_alloc] at h51
    have hne5 : h5 ≠ B := fun e => by
      have c5 := (hcell5 0 (by omega)).1
      rw [e, m0] at c5
      cases c5
    have h' := h2.setC (A' := some ⟨h5, 0, none⟩) (n' := 5) (c' := c') (Z' := fun k => if k = 4 then 0 else Z k) (by omega) hlt (by omega)
    have row' : NewRow (w.heap.size + 1) (w3.setCell ⟨B, 0, none⟩ (.slice (some ⟨h5, 0, none⟩) 5 c')) (some ⟨h5, 0, none⟩) 5 (fun k => if k = 4 then 0 else Z k) := .inr ⟨h5, 0, rfl, h51, by simpa using h52, fun k hk => by rw [World.cell?_setCell_other _ _ _ _ (by simp <;> omega), Nat.zero_add]; exact (hcell5 k hk).1⟩
    clear m0 m1 hown hgrow h2 h hcell5
    generalize w3.setCell ⟨B, 0, none⟩ (.slice (some ⟨h5, 0, none⟩) 5 c') = wX at h' row' ⊢
    have k0 := h'.k0
    have k1 := h'.k1
    have k2 := h'.k2
    have f0 := h'.f0
    have f1 := h'.f1
    have f2 := h'.f2
    have l0 := h'.l0
    have l1 := h'.l1
    have l2 := h'.l2
    have g0 := h'.g0
    have g1 := h'.g1
    go_wp2
    obtain ⟨t0, t1, t2⟩ := set3 k0 k1 k2 (.slice (some ⟨h5, 0, none⟩) 5 c') (.int .i64 b) (.bool s)
    exact bodyPost_ret (v := .agg #[.slice (some ⟨h5, 0, none⟩) 5 c', .int .i64 b, .bool s]) (by simp [results, Tryd.results69, go_sem, t0, t1, t2]) rfl (some_fin h' row' (by omega) (by omega) (by omega) (by omega) hlt hle)
  have d1 : (x == 1) = false := by simpa using e1
  clear e1
  by_cases e2 : x = 2
  · subst e2
    have l0 := h.l0
    go_upto_region 8 with fail
    refine region_planC (fun w' => w2.grownBy w' (some g)) (.takes [0, 1, 2, 4] (.fork 3 5 (.make 5 (.make 6 .fin)) (.make 3 (.make 6 .fin)))) 7 rfl (by kernel_rfl) (grow_of_below (Below.refl w2.heap.size w2).drew _) ?_
    have hR2d : RD Bd w2.drew g (q + 1) := hR2.below (Below.refl w2.heap.size w2).drew
    have hgd : w2.grownBy w2.drew (some g) := grow_of_below (Below.refl w2.heap.size w2).drew _
    refine plan_takes ?_; simp only [pickOps, List.getElem?_cons_zero, List.getElem?_cons_succ]
    refine quiet_doC rfl (.pointer (some ⟨B, 0, none⟩)) (fun _ _ => by kernel_rfl) ?_
    refine quiet_doC rfl (.slice (some ⟨hh, 0, none⟩) 4 c) (fun w' hw' => by exact run_load1 rfl (by kernel_rfl) Tryd.underlying34 (grow_cell hw' (by omega) l0)) ?_
    refine quiet_doC rfl (.pointer (some ⟨g, 0, none⟩)) (fun _ _ => by kernel_rfl) ?_
    refine quiet_doC rfl (.pointer (some ⟨g, 0, none⟩)) (fun _ _ => by kernel_rfl) ?_
    refine wpQuiet_nil ?_
    clear l0
    refine plan_fork ?_ ?_
    · skip
      refine planC_call rfl rfl 58 #[.pointer (some ⟨g, 0, none⟩), .int .i64 4] (by kernel_rfl) ?_
      refine (pick_any Bd _ g (q + 1) 4 hR2d (by omega) (by omega)).mono ?_
      rintro e w3 ⟨y, y0, y1, rfl, hg3, hR3⟩
      obtain ⟨j, rfl⟩ := Int.eq_ofNat_of_zero_le y0
      have hj : j < 4 := by omega
      have hg23 := grow_trans hgd hg3
      refine ⟨_, rfl, hg23, ?_⟩
      refine planC_val rfl rfl (.slice (some ⟨w3.heap.size, 0, none⟩) 3 3) (w'' := w3.alloc (.cells #[.int .i64 1000000, .int .i64 1000001, .int .i64 (-9223372036854775808)] 3)) (by kernel_rfl) (grow_alloc hg23 _) ?_
      refine planC_call rfl rfl 99 #[.pointer (some ⟨g, 0, none⟩), .slice (some ⟨w3.heap.size, 0, none⟩) 3 3] (by kernel_rfl) ?_
      refine (num_any Bd _ g (q + 2) w3.heap.size 3 3 zsM (hR3.alloc _) (by omega) rfl (by decide) (by decide) (by have := hR3.lt; omega) (row3M w3 3)).mono ?_
      rintro e w4 ⟨z, _, rfl, hg4, hR4⟩
      have hg24 := grow_trans (grow_alloc hg23 _) hg4
      refine ⟨_, rfl, hg24, ?_⟩
      clear hg3 hg4 hg23 hgd
      have h4 := h.grow (p' := q + 3) hg24 hlt hgB ⟨_, by omega, hR4⟩
      have cj := grow_cell hg24 hgh (hcell2 j hj).1
      have fj : w4.frozen? ⟨hh, j, none⟩ = false := (World.frozen?_of_block (w := w2) (a := ⟨hh, j, none⟩) (hg24.block _ hh3 (by simp; omega))).trans (hcell2 j hj).2
      have hl24 := hg24.size
      have row4 := fun k hk => grow_cell hg24 hgh (hcell2 k hk).1
      clear hg24
      refine plan_fin ?_
      simp only [List.drop_succ_cons, List.drop_zero]
      go_upto_region 13 with fail
      have h' := (h4.reZ (fun k => if k = j then z else Z k)).other (grow_set w4 hh j (.int .i64 z)) hlt (by omega) (fun r e => by obtain rfl := Option.some.inj e; omega)
      have row' : NewRow (w.heap.size + 1) (w4.setCell ⟨hh, j, none⟩ (.int .i64 z)) (some ⟨hh, 0, none⟩) 4 (fun k => if k = j then z else Z k) := .inr ⟨hh, 0, rfl, hh1, by simp; omega, fun k hk => by
        rw [Nat.zero_add]
        by_cases hkj : k = j
        · subst hkj; simp only [if_true]; exact World.cell?_setCell_same _ _ _ cj
        · simp only [if_neg hkj]; rw [World.cell?_setCell_other _ _ _ _ (by simp <;> omega)]; exact row4 k hk⟩
      clear cj fj row4 h4 h
      generalize w4.setCell ⟨hh, j, none⟩ (.int .i64 z) = wX at h' row' ⊢
      have k0 := h'.k0
      have k1 := h'.k1
      have k2 := h'.k2
      have f0 := h'.f0
      have f1 := h'.f1
      have f2 := h'.f2
      have l0 := h'.l0
      have l1 := h'.l1
      have l2 := h'.l2
      have g0 := h'.g0
      have g1 := h'.g1
      go_wp2
      obtain ⟨t0, t1, t2⟩ := set3 k0 k1 k2 (.slice (some ⟨hh, 0, none⟩) 4 c) (.int .i64 b) (.bool s)
      exact bodyPost_ret (v := .agg #[.slice (some ⟨hh, 0, none⟩) 4 c, .int .i64 b, .bool s]) (by simp [results, Tryd.results69, go_sem, t0, t1, t2]) rfl (some_fin h' row' (by omega) (by omega) (by omega) (by omega) hlt hle)
    · skip
      refine planC_val rfl rfl (.slice (some ⟨w2.drew.heap.size, 0, none⟩) 3 3) (w'' := w2.drew.alloc (.cells #[.int .i64 1000000, .int .i64 1000001, .int .i64 (-9223372036854775808)] 3)) (by kernel_rfl) (grow_alloc hgd _) ?_
      refine planC_call rfl rfl 58 #[.pointer (some ⟨g, 0, none⟩), .int .i64 4] (by kernel_rfl) ?_
      refine (pick_any Bd _ g (q + 1) 4 (hR2d.alloc _) (by omega) (by omega)).mono ?_
      rintro e w3 ⟨y, y0, y1, rfl, hg3, hR3⟩
      obtain ⟨j, rfl⟩ := Int.eq_ofNat_of_zero_le y0
      have hj : j < 4 := by omega
      have hg23 := grow_trans (grow_alloc hgd (.cells #[.int .i64 1000000, .int .i64 1000001, .int .i64 (-9223372036854775808)] 3)) hg3
      have hgl := hR2d.lt
      refine ⟨_, rfl, hg23, ?_⟩
      refine planC_call rfl rfl 99 #[.pointer (some ⟨g, 0, none⟩), .slice (some ⟨w2.drew.heap.size, 0, none⟩) 3 3] (by kernel_rfl) ?_
      refine (num_any Bd _ g (q + 2) w2.drew.heap.size 3 3 zsM hR3 (by omega) rfl (by decide) (by decide) (by omega) (fun k hk => grow_cell hg3 (by omega) (row3M w2.drew 3 k hk))).mono ?_
      rintro e w4 ⟨z, _, rfl, hg4, hR4⟩
      have hg24 := grow_trans hg23 hg4
      refine ⟨_, rfl, hg24, ?_⟩
      clear hg3 hg4 hg23 hgd
      have h4 := h.grow (p' := q + 3) hg24 hlt hgB ⟨_, by omega, hR4⟩
      have cj := grow_cell hg24 hgh (hcell2 j hj).1
      have fj : w4.frozen? ⟨hh, j, none⟩ = false := (World.frozen?_of_block (w := w2) (a := ⟨hh, j, none⟩) (hg24.block _ hh3 (by simp; omega))).trans (hcell2 j hj).2
      have hl24 := hg24.size
      have row4 := fun k hk => grow_cell hg24 hgh (hcell2 k hk).1
      clear hg24
      refine plan_fin ?_
      simp only [List.drop_succ_cons, List.drop_zero]
      go_upto_region 13 with fail
      have h' := (h4.reZ (fun k => if k = j then z else Z k)).other (grow_set w4 hh j (.int .i64 z)) hlt (by omega) (fun r e => by obtain rfl := Option.some.inj e; omega)
      have row' : NewRow (w.heap.size + 1) (w4.setCell ⟨hh, j, none⟩ (.int .i64 z)) (some ⟨hh, 0, none⟩) 4 (fun k => if k = j then z else Z k) := .inr ⟨hh, 0, rfl, hh1, by simp; omega, fun k hk => by
        rw [Nat.zero_add]
        by_cases hkj : k = j
        · subst hkj; simp only [if_true]; exact World.cell?_setCell_same _ _ _ cj
        · simp only [if_neg hkj]; rw [World.cell?_setCell_other _ _ _ _ (by simp <;> omega)]; exact row4 k hk⟩
      clear cj fj row4 h4 h
      generalize w4.setCell ⟨hh, j, none⟩ (.int .i64 z) = wX at h' row' ⊢
      have k0 := h'.k0
      have k1 := h'.k1
      have k2 := h'.k2
      have f0 := h'.f0
      have f1 := h'.f1
      have f2 := h'.f2
      have l0 := h'.l0
      have l1 := h'.l1
      have l2 := h'.l2
      have g0 := h'.g0
      have g1 := h'.g1
      go_wp2
      obtain ⟨t0, t1, t2⟩ := set3 k0 k1 k2 (.slice (some ⟨hh, 0, none⟩) 4 c) (.int .i64 b) (.bool s)
      exact bodyPost_ret (v := .agg #[.slice (some ⟨hh, 0, none⟩) 4 c, .int .i64 b, .bool s]) (by simp [results, Tryd.results69, go_sem, t0, t1, t2]) rfl (some_fin h' row' (by omega) (by omega) (by omega) (by omega) hlt hle)
  have d2 : (x == 2) = false := by simpa using e2
  clear e2
  by_cases e3 : x = 3
  · subst e3
    go_wp2_with fail
    refine (num_any Bd _ g (q + 1) w2.heap.size 3 3 zsN (hR2.alloc _) (by omega) rfl (by decide) (by decide) (by have := hR2.lt; omega) (row3N w2 3)).mono ?_
    rintro e w3 ⟨zz, _, rfl, hg3, hR3⟩
    have hg23 : w2.grownBy w3 (some g) := grow_trans (grow_alloc (grow_refl _ _) _) hg3
    have h2 := h.grow (p' := q + 2) hg23 hlt hgB ⟨_, Nat.le_refl _, hR3⟩
    have k0 := h2.k0
    have k1 := h2.k1
    have k2 := h2.k2
    have f0 := h2.f0
    have f1 := h2.f1
    have f2 := h2.f2
    have l0 := h2.l0
    have l1 := h2.l1
    have l2 := h2.l2
    have g0 := h2.g0
    have g1 := h2.g1
    have hl23 := hg23.size
    have row3 := fun k hk => grow_cell hg23 hgh (hcell2 k hk).1
    clear hg3 hg23
    go_upto_region 13 with fail
    have h' := h2.setB zz (by omega) hlt (by omega)
    have row' : NewRow (w.heap.size + 1) (w3.setCell ⟨B, 1, none⟩ (.int .i64 zz)) (some ⟨hh, 0, none⟩) 4 Z := .inr ⟨hh, 0, rfl, hh1, by simp; omega, fun k hk => by rw [World.cell?_setCell_other _ _ _ _ (by simp <;> omega), Nat.zero_add]; exact row3 k hk⟩
    clear k0 k1 k2 f0 f1 f2 l0 l1 l2 g0 g1 row3 h2 h
    generalize w3.setCell ⟨B, 1, none⟩ (.int .i64 zz) = wX at h' row' ⊢
    have k0 := h'.k0
    have k1 := h'.k1
    have k2 := h'.k2
    have f0 := h'.f0
    have f1 := h'.f1
    have f2 := h'.f2
    have l0 := h'.l0
    have l1 := h'.l1
    have l2 := h'.l2
    have g0 := h'.g0
    have g1 := h'.g1
    go_wp2
    obtain ⟨t0, t1, t2⟩ := set3 k0 k1 k2 (.slice (some ⟨hh, 0, none⟩) 4 c) (.int .i64 zz) (.bool s)
    exact bodyPost_ret (v := .agg #[.slice (some ⟨hh, 0, none⟩) 4 c, .int .i64 zz, .bool s]) (by simp [results, Tryd.results69, go_sem, t0, t1, t2]) rfl (some_fin h' row' (by omega) (by omega) (by omega) (by omega) hlt hle)
  have d3 : (x == 3) = false := by simpa using e3
  clear e3
  by_cases e4 : x = 4
  · subst e4
    have k0 := h.k0
    have k1 := h.k1
    have k2 := h.k2
    have f0 := h.f0
    have f1 := h.f1
    have f2 := h.f2
    have l0 := h.l0
    have l1 := h.l1
    have l2 := h.l2
    have g0 := h.g0
    have g1 := h.g1
    go_upto_region 13 with fail
    have h' := (h.setC (A' := some ⟨w2.heap.size, 0, none⟩) (n' := 4) (c' := 4) (Z' := fun _ => 0) (by omega) hlt (by omega)).other (grow_alloc (grow_refl _ none) (.cells #[.int .i64 0, .int .i64 0, .int .i64 0, .int .i64 0] 3)) hlt (by omega) (fun r e => by cases e)
    have row' : NewRow (w.heap.size + 1) ((w2.setCell ⟨B, 0, none⟩ (.slice (some ⟨w2.heap.size, 0, none⟩) 4 4)).alloc (.cells #[.int .i64 0, .int .i64 0, .int .i64 0, .int .i64 0] 3)) (some ⟨w2.heap.size, 0, none⟩) 4 (fun _ => 0) := .inr ⟨w2.heap.size, 0, rfl, by omega, by simp, fun k hk => by rw [Nat.zero_add]; rcases lt4 hk with rfl | rfl | rfl | rfl <;> simp [go_sem]⟩
    clear k0 k1 k2 f0 f1 f2 l0 l1 l2 g0 g1 h
    generalize (w2.setCell ⟨B, 0, none⟩ (.slice (some ⟨w2.heap.size, 0, none⟩) 4 4)).alloc (.cells #[.int .i64 0, .int .i64 0, .int .i64 0, .int .i64 0] 3) = wX at h' row' ⊢
    have k0 := h'.k0
    have k1 := h'.k1
    have k2 := h'.k2
    have f0 := h'.f0
    have f1 := h'.f1
    have f2 := h'.f2
    have l0 := h'.l0
    have l1 := h'.l1
    have l2 := h'.l2
    have g0 := h'.g0
    have g1 := h'.g1
    go_wp2
    obtain ⟨t0, t1, t2⟩ := set3 k0 k1 k2 (.slice (some ⟨w2.heap.size, 0, none⟩) 4 4) (.int .i64 b) (.bool s)
    exact bodyPost_ret (v := .agg #[.slice (some ⟨w2.heap.size, 0, none⟩) 4 4, .int .i64 b, .bool s]) (by simp [results, Tryd.results69, go_sem, t0, t1, t2]) rfl (some_fin h' row' (by omega) (by omega) (by omega) (by omega) hlt hle)
  have d4 : (x == 4) = false := by simpa using e4
  clear e4
  have h' := h
  have row' : NewRow (w.heap.size + 1) w2 (some ⟨hh, 0, none⟩) 4 Z := .inr ⟨hh, 0, rfl, hh1, hh3, fun k hk => by rw [Nat.zero_add]; exact (hcell2 k hk).1⟩
  have k0 := h'.k0
  have k1 := h'.k1
  have k2 := h'.k2
  have f0 := h'.f0
  have f1 := h'.f1
  have f2 := h'.f2
  have l0 := h'.l0
  have l1 := h'.l1
  have l2 := h'.l2
  have g0 := h'.g0
  have g1 := h'.g1
  go_wp2
  obtain ⟨t0, t1, t2⟩ := set3 k0 k1 k2 (.slice (some ⟨hh, 0, none⟩) 4 c) (.int .i64 b) (.bool s)
  exact bodyPost_ret (v := .agg #[.slice (some ⟨hh, 0, none⟩) 4 c, .int .i64 b, .bool s]) (by simp [results, Tryd.results69, go_sem, t0, t1, t2]) rfl (some_fin h' row' (by omega) (by omega) (by omega) (by omega) hlt hle)
end Go.Proofs.YthcabejfmoedfaaDoor
