/- Walk of the exact law of ModelOk. -/
import Derived.Test.YtmeglflbjedndaaMoK
import Derived.Test.YtmeglflbjedndaaPlanB
namespace Go.Proofs.Ytmeglflbjedndaa
set_option linter.unusedVariables false
set_option linter.unusedSimpArgs false
open Go.RowKit
set_option maxRecDepth 100000 in
set_option maxHeartbeats 8000000 in
theorem walk_ExactModelOk (A0 : Option Addr) (n0 c0 : Nat) (L0 : Sy) (A1 : Option Addr) (n1 c1 : Nat) (L1 : Mo) (w : World) (hn0 : n0 ≤ 9223372036854775807) (hA0 : Syms w A0 n0 L0) (hn1 : n1 ≤ 9223372036854775807) (hA1 : MRows w A1 n1 L1) :
    Calls Try.prog 4 #[.agg #[.slice A0 n0 c0], .agg #[.slice A1 n1 c1]] w fun e w' => e = .returned (.bool true) ∧ Below w.heap.size w w' := by
  have H : KcL [(w.heap.size, 0, .slice A0 n0 c0), (w.heap.size + 1, 0, .slice A1 n1 c1)] ((w.alloc (.cells #[.slice A0 n0 c0] 34)).alloc (.cells #[.slice A1 n1 c1] 24)) := by
    refine ⟨?_, ?_, trivial⟩ <;> simp [go_sem]
  have q0 := (bal (bal (Below.refl w.heap.size w) (.cells #[.slice A0 n0 c0] 34)) (.cells #[.slice A1 n1 c1] 24))
  have hS := hid (fun W (h : Below w.heap.size w W) => (show Calls Try.prog 20 #[.agg #[.slice A0 n0 c0], .int .i64 1048576] W (SzYs W n0 L0 1048576) from szsig_any A0 n0 c0 L0 1048576 W hn0 (by omega) (hA0.below h)))
  go_enter Try.func4, Try.ntmps4
  have HH_ := H; obtain ⟨s0, s1, _⟩ := HH_
  go_wp2_with fail
  refine (hS.out _ q0).mono ?_
  rintro e w1 ⟨r0, rfl, hr, hq⟩
  clear s0 s1
  replace H := H.below hq
  replace q0 := btr q0 hq
  clear hS hq
  rcases hr with hr | ⟨p0, v0, hx0, hN0⟩
  · go_wp2
    go_ret
    exact ⟨rfl, q0⟩
  have u0 : r0 ≤ 1048576 := by omega
  have hb0 : n0 ≤ 1048576 := by omega
  have hN0b : SmY n0 L0 := fun k hk => by have := hN0 k hk; omega
  clear hN0 hx0
  have hS := hid (fun W (h : Below w.heap.size w W) => (show Calls Try.prog 15 #[.agg #[.slice A1 n1 c1], .int .i64 r0] W (SzMos W n1 L1 r0) from szmodel_any A1 n1 c1 L1 r0 W hn1 ⟨p0, u0⟩ (hA1.below h)))
  have HH_ := H; obtain ⟨s0, s1, _⟩ := HH_
  go_wp2_with fail
  refine (hS.out _ q0).mono ?_
  rintro e w2 ⟨r1, rfl, hr, hq⟩
  clear s0 s1
  replace H := H.below hq
  replace q0 := btr q0 hq
  clear hS hq
  rcases hr with hr | ⟨p1, v1, hx1, hN1⟩
  · go_wp2
    go_ret
    exact ⟨rfl, q0⟩
  have u1 : r1 ≤ 1048576 := by omega
  have hb1 : n1 ≤ 1048576 := by omega
  have hN1b : SmM n1 L1 := fun k hk => by have := hN1 k hk; omega
  clear hN1 hx1
  clear v0 v1
  have hT0 := hid (fun W (h : Below w.heap.size w W) => (show Calls Try.prog 22 #[.agg #[.slice A0 n0 c0]] W (NewSg W n0 L0) from tosig_any A0 n0 c0 L0 W hb0 (hA0.below h) hN0b))
  have hT1 := hid (fun W (h : Below w.heap.size w W) => (show Calls Try.prog 17 #[.agg #[.slice A1 n1 c1]] W (NewMd W n1 L1) from tomodel_any A1 n1 c1 L1 W hb1 (hA1.below h) hN1b))
  obtain ⟨ra, hra⟩ := bool_of (ModP n0 L0 n1 L1)
  have hP := hid (fun (P0 : Option Addr) (P1 : Option Addr) W (h0 : Syms W P0 n0 L0) (h1 : MRows W P1 n1 L1) => (show Calls Try.prog 21 #[.agg #[.slice P0 n0 n0], .agg #[.slice P1 n1 n1]] W _ from smodelok_any ra P0 n0 n0 L0 P1 n1 n1 L1 hra W hb0 hb1 h0 h1 hN0b hN1b))
  have hI := hid (fun (P0 : Option Addr) (P1 : Option Addr) W (h0 : Syms W P0 n0 L0) (h1 : MRows W P1 n1 L1) => (show Calls Try.prog 23 #[.agg #[.slice P0 n0 n0], .agg #[.slice P1 n1 n1]] W _ from modelok_any ra P0 n0 n0 L0 P1 n1 n1 L1 hra W hb0 hb1 h0 h1 hN0b hN1b))
  have dk : (ra != ra) = false := by simp
  clear hra
  have HN0 := hid hN0b
  have HN1 := hid hN1b
  clear hA0 hN0b hA1 hN1b
  have HH_ := H; obtain ⟨s0, s1, _⟩ := HH_
  have l0 := cell_lt s0
  have l1 := cell_lt s1
  have gc := @gro_cell w2
  go_upto_region 8 with fail
  refine region_plan (.takes [0, 2] (.make 1 (.make 3 (.make 4 .fin)))) 5 rfl (by kernel_rfl) ?_
  refine plan_takes ?_; simp only [pickOps, List.getElem?_cons_zero, List.getElem?_cons_succ]; (repeat (go_big_quiet_step (fail))); refine wpQuiet_nil ?_
  clear gc l0 l1
  clear s0 s1
  have hB := (Below.refl w2.heap.size w2).drew
  refine plan_call rfl rfl 22 #[.agg #[.slice A0 n0 c0]] (by kernel_rfl) ?_
  refine (hT0.out _ (btr q0 hB)).mono ?_
  rintro e u10 ⟨P0, rfl, O0, hq⟩
  refine ⟨_, rfl, btr hB hq, ?_⟩
  replace hB := btr hB hq; clear hq
  refine plan_call rfl rfl 17 #[.agg #[.slice A1 n1 c1]] (by kernel_rfl) ?_
  refine (hT1.out _ (btr q0 hB)).mono ?_
  rintro e u11 ⟨P1, rfl, O1, hq⟩
  refine ⟨_, rfl, btr hB hq, ?_⟩
  replace O0 := O0.below hq
  replace hB := btr hB hq; clear hq
  refine plan_call rfl rfl 21 #[.agg #[.slice P0 n0 n0], .agg #[.slice P1 n1 n1]] (by kernel_rfl) ?_
  refine (hP.out P0 P1 _ (O0.syms HN0.out) (O1.rows HN1.out)).mono ?_
  rintro e u19 ⟨rfl, hq⟩
  refine ⟨_, rfl, btr hB hq, ?_⟩
  replace hB := btr hB hq; clear hq O0 O1 hP
  refine plan_fin ?_
  simp only [List.drop_succ_cons, List.drop_zero, Act.put, List.setIfInBounds_toArray, List.set_cons_succ, List.set_cons_zero]
  replace H := H.below hB
  replace q0 := btr q0 hB
  clear hB
  have HH_ := H; obtain ⟨s0, s1, _⟩ := HH_
  go_wp2_with fail
  refine (hT0.out _ q0).mono ?_
  rintro e w3 ⟨P0, rfl, O0, hq⟩
  clear s0 s1
  replace H := H.below hq
  replace q0 := btr q0 hq
  clear hq
  have N : KcL [(w3.heap.size, 0, .slice P0 n0 n0)] (w3.alloc (.cells #[.slice P0 n0 n0] 39)) := by
    refine ⟨?_, trivial⟩ <;> simp [go_sem]
  have al := bal (Below.refl w3.heap.size w3) (.cells #[.slice P0 n0 n0] 39)
  replace H := (H.below al).app N
  replace q0 := btr q0 al
  replace O0 := O0.below al
  clear N al
  have HH_ := H; obtain ⟨s0, s1, s2, _⟩ := HH_
  go_wp2_with fail
  refine (hT1.out _ q0).mono ?_
  rintro e w4 ⟨P1, rfl, O1, hq⟩
  clear s0 s1 s2
  replace H := H.below hq
  replace q0 := btr q0 hq
  replace O0 := O0.below hq
  clear hq
  have N : KcL [(w4.heap.size, 0, .slice P1 n1 n1)] (w4.alloc (.cells #[.slice P1 n1 n1] 29)) := by
    refine ⟨?_, trivial⟩ <;> simp [go_sem]
  have al := bal (Below.refl w4.heap.size w4) (.cells #[.slice P1 n1 n1] 29)
  replace H := (H.below al).app N
  replace q0 := btr q0 al
  replace O0 := O0.below al
  replace O1 := O1.below al
  clear N al
  have HH_ := H; obtain ⟨s0, s1, s2, s3, _⟩ := HH_
  go_wp2_with fail
  refine (hI.out P0 P1 _ (O0.syms HN0.out) (O1.rows HN1.out)).mono ?_
  rintro e w5 ⟨rfl, hq⟩
  clear s0 s1 s2 s3
  replace H := H.below hq
  replace q0 := btr q0 hq
  replace O0 := O0.below hq
  replace O1 := O1.below hq
  clear hq hI
  have HH_ := H; obtain ⟨s0, s1, s2, s3, _⟩ := HH_
  have l0 := cell_lt s0
  have l1 := cell_lt s1
  have l2 := cell_lt s2
  have l3 := cell_lt s3
  have gc := @gro_cell w5
  go_wp2_with fail
  refine region_grow_call 2 rfl (by kernel_rfl) (by kernel_rfl) rfl ?_; simp only [List.take_succ_cons, List.take_zero]; (repeat (go_big_quiet_step (fail))); refine wpQuiet_nil ?_
  intro w6 hq
  clear gc l0 l1 l2 l3
  clear s0 s1 s2 s3
  refine ⟨22, #[.agg #[.slice A0 n0 c0]], by kernel_rfl, ?_⟩
  refine (hT0.out _ (btr q0 hq)).mono ?_
  rintro e w7 ⟨R0, rfl, O8, hq8⟩
  refine ⟨_, rfl, btr hq hq8, ?_⟩
  replace H := H.below (btr hq hq8)
  replace q0 := btr q0 (btr hq hq8)
  replace O0 := O0.below (btr hq hq8)
  replace O1 := O1.below (btr hq hq8)
  clear hq hq8
  have HH_ := H; obtain ⟨s0, s1, s2, s3, _⟩ := HH_
  go_wp2_with fail
  refine (eqsig_same (c := n0) (d := n0) (by omega) (O0.syms HN0.out) (O8.syms HN0.out)).mono ?_
  rintro e w8 ⟨rfl, hq⟩
  clear s0 s1 s2 s3
  replace H := H.below hq
  replace q0 := btr q0 hq
  replace O0 := O0.below hq
  replace O1 := O1.below hq
  clear hq O8
  have HH_ := H; obtain ⟨s0, s1, s2, s3, _⟩ := HH_
  have l0 := cell_lt s0
  have l1 := cell_lt s1
  have l2 := cell_lt s2
  have l3 := cell_lt s3
  have gc := @gro_cell w8
  go_wp2_with fail
  refine region_grow_call 2 rfl (by kernel_rfl) (by kernel_rfl) rfl ?_; simp only [List.take_succ_cons, List.take_zero]; (repeat (go_big_quiet_step (fail))); refine wpQuiet_nil ?_
  intro w9 hq
  clear gc l0 l1 l2 l3
  clear s0 s1 s2 s3
  refine ⟨17, #[.agg #[.slice A1 n1 c1]], by kernel_rfl, ?_⟩
  refine (hT1.out _ (btr q0 hq)).mono ?_
  rintro e w10 ⟨R1, rfl, O8, hq8⟩
  refine ⟨_, rfl, btr hq hq8, ?_⟩
  replace H := H.below (btr hq hq8)
  replace q0 := btr q0 (btr hq hq8)
  replace O0 := O0.below (btr hq hq8)
  replace O1 := O1.below (btr hq hq8)
  clear hq hq8
  have HH_ := H; obtain ⟨s0, s1, s2, s3, _⟩ := HH_
  go_wp2_with fail
  refine (eqmodel_same (c := n1) (d := n1) (by omega) (O1.rows HN1.out) (O8.rows HN1.out)).mono ?_
  rintro e w11 ⟨rfl, hq⟩
  clear s0 s1 s2 s3
  replace H := H.below hq
  replace q0 := btr q0 hq
  replace O0 := O0.below hq
  replace O1 := O1.below hq
  clear hq O8
  go_wp2_with fail
  go_ret
  exact ⟨rfl, q0⟩
end Go.Proofs.Ytmeglflbjedndaa
