/- Walk of the exact law of ModelSame. -/
import Derived.Test.YtmeglflbjedndaaMoD
import Derived.Test.YtmeglflbjedndaaPlanB
namespace Go.Proofs.Ytmeglflbjedndaa
set_option linter.unusedVariables false
set_option linter.unusedSimpArgs false
open Go.RowKit
set_option maxRecDepth 100000 in
set_option maxHeartbeats 4000000 in
theorem walk_ExactModelSame (A : Option Addr) (n c : Nat) (L : Mo) (A' : Option Addr) (n' c' : Nat) (L' : Mo) (w : World) (hn : n ≤ 9223372036854775807) (hA : MRows w A n L) (hn' : n' ≤ 9223372036854775807) (hA' : MRows w A' n' L') :
    Calls Try.prog 3 #[.agg #[.slice A n c], .agg #[.slice A' n' c']] w fun e w' => e = .returned (.bool true) ∧ Below w.heap.size w w' := by
  have hS := fun W (h : Below w.heap.size w W) => szmodel_any A n c L 1048576 W hn (by omega) (hA.below h)
  have H : KcL [(w.heap.size, 0, .slice A n c), (w.heap.size + 1, 0, .slice A' n' c')] ((w.alloc (.cells #[.slice A n c] 24)).alloc (.cells #[.slice A' n' c'] 24)) := ⟨by simp [go_sem], by simp [go_sem], trivial⟩
  have q0 := bal (bal (Below.refl w.heap.size w) (.cells #[.slice A n c] 24)) (.cells #[.slice A' n' c'] 24)
  go_enter Try.func3, Try.ntmps3
  have HH_ := H; obtain ⟨c0, c1, _⟩ := HH_
  go_wp2_with fail
  refine (hS _ q0).mono ?_
  rintro e w1 ⟨r, rfl, hr, hq⟩
  clear c0 c1
  replace H := H.below hq
  replace q0 := btr q0 hq
  clear hS hq
  rcases hr with hr | ⟨r1, r2, hn2, hN⟩
  · go_wp2
    go_ret
    exact ⟨rfl, q0⟩
  have hS' := fun W (h : Below w.heap.size w W) => szmodel_any A' n' c' L' r W hn' ⟨r1, r2⟩ (hA'.below h)
  have hn3 : n ≤ 1048576 := by omega
  have hN3 : SmM n L := fun k hk => by have := hN k hk; omega
  clear hN hn2
  have HH_ := H; obtain ⟨c0, c1, _⟩ := HH_
  go_wp2_with fail
  refine (hS' _ q0).mono ?_
  rintro e w2 ⟨r', rfl, hr', hq⟩
  clear c0 c1
  replace H := H.below hq
  replace q0 := btr q0 hq
  clear hS' hq
  rcases hr' with hr' | ⟨r1', r2', hn2', hN'⟩
  · go_wp2
    go_ret
    exact ⟨rfl, q0⟩
  have hn3' : n' ≤ 1048576 := by omega
  have hN3' : SmM n' L' := fun k hk => by have := hN' k hk; omega
  clear hN' hn2' r2' r2
  have hT := fun W (h : Below w.heap.size w W) => tomodel_any A n c L W hn3 (hA.below h) hN3
  have hT' := fun W (h : Below w.heap.size w W) => tomodel_any A' n' c' L' W hn3' (hA'.below h) hN3'
  have hP := fun (A3 : Option Addr) k3 (A4 : Option Addr) k4 W h1 h2 => smodelsame_any A3 A4 n n' k3 k4 L L' W (by omega) (by omega) h1 h2 hN3 hN3'
  have hI := fun (A3 : Option Addr) k3 (A4 : Option Addr) k4 W h1 h2 => modelsame_any A3 A4 n n' k3 k4 L L' W (by omega) (by omega) h1 h2 hN3 hN3'
  generalize modE n L n' L' = ra at hP hI
  have dk : (ra != ra) = false := by simp
  have HN := hid hN3; clear hN3 hA
  have HN' := hid hN3'; clear hN3' hA'
  have HH_ := H; obtain ⟨c0, c1, _⟩ := HH_
  have l0 := cell_lt c0
  have l1 := cell_lt c1
  have gc := @gro_cell w2
  go_upto_region 8 with fail
  refine region_plan (.takes [0, 2] (.make 1 (.make 3 (.make 4 .fin)))) 5 rfl (by kernel_rfl) ?_
  refine plan_takes ?_; simp only [pickOps, List.getElem?_cons_zero, List.getElem?_cons_succ]; (repeat (go_big_quiet_step (fail))); refine wpQuiet_nil ?_
  clear gc l0 l1
  clear c0 c1
  have hB := (Below.refl w2.heap.size w2).drew
  refine plan_call rfl rfl 17 #[.agg #[.slice A n c]] (by kernel_rfl) ?_
  refine (hT _ (btr q0 hB)).mono ?_
  rintro e u1 ⟨A3, rfl, O3, hq⟩
  refine ⟨_, rfl, btr hB hq, ?_⟩
  replace hB := btr hB hq; clear hq
  refine plan_call rfl rfl 17 #[.agg #[.slice A' n' c']] (by kernel_rfl) ?_
  refine (hT' _ (btr q0 hB)).mono ?_
  rintro e u2 ⟨A4, rfl, O4, hq⟩
  refine ⟨_, rfl, btr hB hq, ?_⟩
  replace O3 := O3.below hq
  replace hB := btr hB hq; clear hq
  refine plan_call rfl rfl 16 #[.agg #[.slice A3 n n], .agg #[.slice A4 n' n']] (by kernel_rfl) ?_
  refine (hP A3 n A4 n' _ (O3.rows HN.out) (O4.rows HN'.out)).mono ?_
  rintro e u3 ⟨rfl, hq⟩
  refine ⟨_, rfl, btr hB hq, ?_⟩
  replace hB := btr hB hq; clear hq O3 O4
  refine plan_fin ?_
  simp only [List.drop_succ_cons, List.drop_zero, Act.put, List.setIfInBounds_toArray, List.set_cons_succ, List.set_cons_zero]
  replace H := H.below hB
  replace q0 := btr q0 hB
  clear hB
  have HH_ := H; obtain ⟨c0, c1, _⟩ := HH_
  go_wp2_with fail
  refine (hT _ q0).mono ?_
  rintro e w3 ⟨A5, rfl, O5, hq⟩
  clear c0 c1
  replace H := H.below hq
  replace q0 := btr q0 hq
  clear hq
  have N : KcL [(w3.heap.size, 0, .slice A5 n n)] (w3.alloc (.cells #[.slice A5 n n] 29)) := ⟨by simp [go_sem], trivial⟩
  have al := bal (Below.refl w3.heap.size w3) (.cells #[.slice A5 n n] 29)
  replace H := (H.below al).app N
  replace q0 := btr q0 al
  replace O5 := O5.below al
  clear N al
  have HH_ := H; obtain ⟨c0, c1, c2, _⟩ := HH_
  go_wp2_with fail
  refine (hT' _ q0).mono ?_
  rintro e w4 ⟨A6, rfl, O6, hq⟩
  clear c0 c1 c2
  replace H := H.below hq
  replace q0 := btr q0 hq
  replace O5 := O5.below hq
  clear hq
  have N : KcL [(w4.heap.size, 0, .slice A6 n' n')] (w4.alloc (.cells #[.slice A6 n' n'] 29)) := ⟨by simp [go_sem], trivial⟩
  have al := bal (Below.refl w4.heap.size w4) (.cells #[.slice A6 n' n'] 29)
  replace H := (H.below al).app N
  replace q0 := btr q0 al
  replace O5 := O5.below al
  replace O6 := O6.below al
  clear N al
  have HH_ := H; obtain ⟨c0, c1, c2, c3, _⟩ := HH_
  go_wp2_with fail
  refine (hI A5 n A6 n' _ (O5.rows HN.out) (O6.rows HN'.out)).mono ?_
  rintro e w5 ⟨rfl, hq⟩
  clear c0 c1 c2 c3
  replace H := H.below hq
  replace q0 := btr q0 hq
  replace O5 := O5.below hq
  replace O6 := O6.below hq
  clear hq
  have HH_ := H; obtain ⟨c0, c1, c2, c3, _⟩ := HH_
  have l0 := cell_lt c0
  have l1 := cell_lt c1
  have l2 := cell_lt c2
  have l3 := cell_lt c3
  have gc := @gro_cell w5
  go_wp2_with fail
  refine region_grow_call 2 rfl (by kernel_rfl) (by kernel_rfl) rfl ?_; simp only [List.take_succ_cons, List.take_zero]; (repeat (go_big_quiet_step (fail))); refine wpQuiet_nil ?_
  intro w6 hq
  clear gc l0 l1 l2 l3
  clear c0 c1 c2 c3
  refine ⟨17, #[.agg #[.slice A n c]], by kernel_rfl, ?_⟩
  refine (hT _ (btr q0 hq)).mono ?_
  rintro e w7 ⟨B8, rfl, O8, hq8⟩
  refine ⟨_, rfl, btr hq hq8, ?_⟩
  replace H := H.below (btr hq hq8)
  replace q0 := btr q0 (btr hq hq8)
  replace O5 := O5.below (btr hq hq8)
  replace O6 := O6.below (btr hq hq8)
  clear hq hq8
  have HH_ := H; obtain ⟨c0, c1, c2, c3, _⟩ := HH_
  go_wp2_with fail
  refine (eqmodel_same (by omega) (O5.rows HN.out) (O8.rows HN.out)).mono ?_
  rintro e w8 ⟨rfl, hq⟩
  clear c0 c1 c2 c3
  replace H := H.below hq
  replace q0 := btr q0 hq
  replace O5 := O5.below hq
  replace O6 := O6.below hq
  clear hq O8
  have HH_ := H; obtain ⟨c0, c1, c2, c3, _⟩ := HH_
  have l0 := cell_lt c0
  have l1 := cell_lt c1
  have l2 := cell_lt c2
  have l3 := cell_lt c3
  have gc := @gro_cell w8
  go_wp2_with fail
  refine region_grow_call 2 rfl (by kernel_rfl) (by kernel_rfl) rfl ?_; simp only [List.take_succ_cons, List.take_zero]; (repeat (go_big_quiet_step (fail))); refine wpQuiet_nil ?_
  intro w9 hq
  clear gc l0 l1 l2 l3
  clear c0 c1 c2 c3
  refine ⟨17, #[.agg #[.slice A' n' c']], by kernel_rfl, ?_⟩
  refine (hT' _ (btr q0 hq)).mono ?_
  rintro e w10 ⟨B8, rfl, O8, hq8⟩
  refine ⟨_, rfl, btr hq hq8, ?_⟩
  replace H := H.below (btr hq hq8)
  replace q0 := btr q0 (btr hq hq8)
  replace O5 := O5.below (btr hq hq8)
  replace O6 := O6.below (btr hq hq8)
  clear hq hq8
  have HH_ := H; obtain ⟨c0, c1, c2, c3, _⟩ := HH_
  go_wp2_with fail
  refine (eqmodel_same (by omega) (O6.rows HN'.out) (O8.rows HN'.out)).mono ?_
  rintro e w11 ⟨rfl, hq⟩
  clear c0 c1 c2 c3
  replace H := H.below hq
  replace q0 := btr q0 hq
  replace O5 := O5.below hq
  replace O6 := O6.below hq
  clear hq O8
  go_wp2_with fail
  go_ret
  exact ⟨rfl, q0⟩
end Go.Proofs.Ytmeglflbjedndaa
