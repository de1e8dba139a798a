/- Walk of the exact law of TermSame. -/
import Derived.Test.YtcnlolocppbcjaaTsW
namespace Go.Proofs.Ytcnlolocppbcjaa
set_option linter.unusedVariables false
set_option linter.unusedSimpArgs false
open Go.RowKit
theorem KidT.zero {B : Nat} {w : World} {t : Tm} {A : Option Addr} (h : KidT B w t A) : KidT 0 w t A := h.mono (Nat.zero_le _)
theorem KidT.k0 {B : Nat} {w : World} {t : Tm} {A : Option Addr} (h : KidT B w t A) : Kids 0 w t A := h.zero.kids
theorem KidT.below {B : Nat} {w w' : World} {t : Tm} {A : Option Addr} (h : KidT B w t A) (hb : Below w.heap.size w w') : KidT B w' t A := h.keep (KpT.below hb)
theorem box2_new (w : World) (x y : Value) (t : TypeId) : KcL [(w.heap.size, 0, x), (w.heap.size, 1, y)] (w.alloc (.cells #[x, y] t)) := ⟨by simp [go_sem], by simp [go_sem], trivial⟩
set_option maxRecDepth 100000 in
set_option maxHeartbeats 4000000 in
theorem walk_ExactTermSame (t : Tm) (A : Option Addr) (c : Nat) (u : Tm) (A' : Option Addr) (c' : Nat) (w : World) (hF : Fits 9223372036854775807 t) (hA : Kids 0 w t A) (hF' : Fits 9223372036854775807 u) (hA' : Kids 0 w u A') :
    Calls Try.prog 4 #[.agg #[.string t.nm, .slice A t.n c], .agg #[.string u.nm, .slice A' u.n c']] w fun e w' => e = .returned (.bool true) ∧ Below w.heap.size w w' := by
  have hS := fun W (h : Below w.heap.size w W) => sztermU_any t hF A c 1048576 W (by omega) (hA.below h)
  have H : KcL [(w.heap.size, 0, .string t.nm), (w.heap.size, 1, .slice A t.n c), (w.heap.size + 1, 0, .string u.nm), (w.heap.size + 1, 1, .slice A' u.n c')] ((w.alloc (.cells #[.string t.nm, .slice A t.n c] 33)).alloc (.cells #[.string u.nm, .slice A' u.n c'] 33)) := ⟨by simp [go_sem], by simp [go_sem], by simp [go_sem], by simp [go_sem], trivial⟩
  have q0 := bal (bal (Below.refl w.heap.size w) (.cells #[.string t.nm, .slice A t.n c] 33)) (.cells #[.string u.nm, .slice A' u.n c'] 33)
  go_enter Try.func4, Try.ntmps4
  have HH_ := H; obtain ⟨c0, c1, c2, c3, _⟩ := HH_
  go_wp2_with fail
  refine (hS _ q0).mono ?_
  rintro e w1 ⟨r, rfl, hr, hq⟩
  clear c0 c1 c2 c3
  replace H := H.below hq
  replace q0 := btr q0 hq
  clear hS hq
  rcases hr with hr | ⟨r1, r2, hN⟩
  · go_wp2
    go_ret
    exact ⟨rfl, q0⟩
  have hp1 := tSz_pos t
  have hS' := fun W (h : Below w.heap.size w W) => sztermU_any u hF' A' c' r W ⟨r1, by omega⟩ (hA'.below h)
  have htz := hid (show tSz t ≤ 1073741824 by omega)
  clear r2 hp1
  have HH_ := H; obtain ⟨c0, c1, c2, c3, _⟩ := HH_
  go_wp2_with fail
  refine (hS' _ q0).mono ?_
  rintro e w2 ⟨r', rfl, hr', hq⟩
  clear c0 c1 c2 c3
  replace H := H.below hq
  replace q0 := btr q0 hq
  clear hS' hq
  rcases hr' with hr' | ⟨r1', r2', hN'⟩
  · go_wp2
    go_ret
    exact ⟨rfl, q0⟩
  clear r2'
  have hT := fun W (h : Below w.heap.size w W) => totermP_any t hN A c W (hA.below h)
  have hT' := fun W (h : Below w.heap.size w W) => totermP_any u hN' A' c' W (hA'.below h)
  obtain ⟨ra, hra⟩ := teq_bool t u
  have hn : t.n ≤ 9223372036854775807 := by have := hN.n; omega
  have hn' : u.n ≤ 9223372036854775807 := by have := hN'.n; omega
  have hP := fun (A3 : Option Addr) k3 (A4 : Option Addr) k4 W h1 h2 => stermsame_at t u ra hra hF hF' A3 A4 k3 k4 W h1 h2
  have hI := fun (A3 : Option Addr) (A4 : Option Addr) W h1 h2 => termsame_at t u ra hra A3 A4 t.n u.n W h1 h2 ⟨Nat.le_refl _, hn⟩ ⟨Nat.le_refl _, hn'⟩ htz.out
  have hQ := fun (A3 : Option Addr) k3 (A4 : Option Addr) k4 W h1 h2 => eqterm_same t hF A3 A4 k3 k4 W h1 h2
  have hQ' := fun (A3 : Option Addr) k3 (A4 : Option Addr) k4 W h1 h2 => eqterm_same u hF' A3 A4 k3 k4 W h1 h2
  have dk : (ra != ra) = false := by simp
  clear hra hA hA' hN hN' hF hF' hn hn'
  have HH_ := H; obtain ⟨c0, c1, c2, c3, _⟩ := HH_
  have l0 := cell_lt c0
  have l1 := cell_lt c2
  have gc := @gro_cell w2
  go_upto_region 8 with fail
  refine region_plan (.takes [0, 2] (.make 1 (.make 3 (.make 4 .fin)))) 5 rfl (by kernel_rfl) ?_
  refine plan_takes ?_; simp only [pickOps, List.getElem?_cons_zero, List.getElem?_cons_succ]; (repeat (go_big_quiet_step (fail))); refine wpQuiet_nil ?_
  clear gc l0 l1
  clear c0 c1 c2 c3
  have hB := (Below.refl w2.heap.size w2).drew
  refine plan_call rfl rfl 23 #[.agg #[.string t.nm, .slice A t.n c]] (by kernel_rfl) ?_
  refine (hT _ (btr q0 hB)).mono ?_
  rintro e u1 ⟨A3, rfl, O3, hq⟩
  refine ⟨_, rfl, btr hB hq, ?_⟩
  replace hB := btr hB hq; clear hq
  refine plan_call rfl rfl 23 #[.agg #[.string u.nm, .slice A' u.n c']] (by kernel_rfl) ?_
  refine (hT' _ (btr q0 hB)).mono ?_
  rintro e u2 ⟨A4, rfl, O4, hq⟩
  refine ⟨_, rfl, btr hB hq, ?_⟩
  replace O3 := O3.below hq
  replace hB := btr hB hq; clear hq
  refine plan_call rfl rfl 22 #[.agg #[.string t.nm, .slice A3 t.n t.n], .agg #[.string u.nm, .slice A4 u.n u.n]] (by kernel_rfl) ?_
  refine (hP A3 t.n A4 u.n _ O3.k0 O4.k0).mono ?_
  rintro e u3 ⟨rfl, hq⟩
  refine ⟨_, rfl, btr hB hq, ?_⟩
  replace hB := btr hB hq; clear hq O3 O4
  refine plan_fin ?_
  simp only [List.drop_succ_cons, List.drop_zero, Act.put, List.setIfInBounds_toArray, List.set_cons_succ, List.set_cons_zero]
  replace H := H.below hB
  replace q0 := btr q0 hB
  clear hB
  have HH_ := H; obtain ⟨c0, c1, c2, c3, _⟩ := HH_
  go_wp2_with fail
  refine (hT _ q0).mono ?_
  rintro e w3 ⟨A5, rfl, O5, hq⟩
  clear c0 c1 c2 c3
  replace H := H.below hq
  replace q0 := btr q0 hq
  clear hq
  have N := box2_new w3 (.string t.nm) (.slice A5 t.n t.n) 38
  have al := bal (Below.refl w3.heap.size w3) (.cells #[.string t.nm, .slice A5 t.n t.n] 38)
  replace H := (H.below al).app N
  replace q0 := btr q0 al
  replace O5 := O5.below al
  clear N al
  have HH_ := H; obtain ⟨c0, c1, c2, c3, c4, c5, _⟩ := HH_
  go_wp2_with fail
  refine (hT' _ q0).mono ?_
  rintro e w4 ⟨A6, rfl, O6, hq⟩
  clear c0 c1 c2 c3 c4 c5
  replace H := H.below hq
  replace q0 := btr q0 hq
  replace O5 := O5.below hq
  clear hq
  have N := box2_new w4 (.string u.nm) (.slice A6 u.n u.n) 38
  have al := bal (Below.refl w4.heap.size w4) (.cells #[.string u.nm, .slice A6 u.n u.n] 38)
  replace H := (H.below al).app N
  replace q0 := btr q0 al
  replace O5 := O5.below al
  replace O6 := O6.below al
  clear N al
  have HH_ := H; obtain ⟨c0, c1, c2, c3, c4, c5, c6, c7, _⟩ := HH_
  go_wp2_with fail
  refine (hI A5 A6 _ O5.zero O6.zero).mono ?_
  rintro e w5 ⟨rfl, hq⟩
  clear c0 c1 c2 c3 c4 c5 c6 c7
  replace H := H.below hq
  replace q0 := btr q0 hq
  replace O5 := O5.below hq
  replace O6 := O6.below hq
  clear hq
  have HH_ := H; obtain ⟨c0, c1, c2, c3, c4, c5, c6, c7, _⟩ := HH_
  have l0 := cell_lt c0
  have l1 := cell_lt c2
  have l2 := cell_lt c4
  have l3 := cell_lt c6
  have gc := @gro_cell w5
  go_wp2_with fail
  refine region_grow_call 2 rfl (by kernel_rfl) (by kernel_rfl) rfl ?_; simp only [List.take_succ_cons, List.take_zero]; (repeat (go_big_quiet_step (fail))); refine wpQuiet_nil ?_
  intro w6 hq
  clear gc l0 l1 l2 l3
  clear c0 c1 c2 c3 c4 c5 c6 c7
  refine ⟨23, #[.agg #[.string t.nm, .slice A t.n c]], by kernel_rfl, ?_⟩
  refine (hT _ (btr q0 hq)).mono ?_
  rintro e w7 ⟨B8, rfl, O8, hq8⟩
  refine ⟨_, rfl, btr hq hq8, ?_⟩
  replace H := H.below (btr hq hq8)
  replace q0 := btr q0 (btr hq hq8)
  replace O5 := O5.below (btr hq hq8)
  replace O6 := O6.below (btr hq hq8)
  clear hq hq8
  have HH_ := H; obtain ⟨c0, c1, c2, c3, c4, c5, c6, c7, _⟩ := HH_
  go_wp2_with fail
  refine (hQ A5 _ B8 _ _ O5.k0 O8.k0).mono ?_
  rintro e w8 ⟨rfl, hq⟩
  clear c0 c1 c2 c3 c4 c5 c6 c7
  replace H := H.below hq
  replace q0 := btr q0 hq
  replace O6 := O6.below hq
  clear hq
  have HH_ := H; obtain ⟨c0, c1, c2, c3, c4, c5, c6, c7, _⟩ := HH_
  have l0 := cell_lt c0
  have l1 := cell_lt c2
  have l2 := cell_lt c4
  have l3 := cell_lt c6
  have gc := @gro_cell w8
  go_wp2_with fail
  refine region_grow_call 2 rfl (by kernel_rfl) (by kernel_rfl) rfl ?_; simp only [List.take_succ_cons, List.take_zero]; (repeat (go_big_quiet_step (fail))); refine wpQuiet_nil ?_
  intro w9 hq
  clear gc l0 l1 l2 l3
  clear c0 c1 c2 c3 c4 c5 c6 c7
  refine ⟨23, #[.agg #[.string u.nm, .slice A' u.n c']], by kernel_rfl, ?_⟩
  refine (hT' _ (btr q0 hq)).mono ?_
  rintro e w10 ⟨B10, rfl, O10, hq8⟩
  refine ⟨_, rfl, btr hq hq8, ?_⟩
  replace q0 := btr q0 (btr hq hq8)
  replace O6 := O6.below (btr hq hq8)
  clear hq hq8
  go_wp2_with fail
  refine (hQ' A6 _ B10 _ _ O6.k0 O10.k0).mono ?_
  rintro e w11 ⟨rfl, hq⟩
  go_wp2
  go_ret
  exact ⟨rfl, btr q0 hq⟩
end Go.Proofs.Ytcnlolocppbcjaa
