/- Walk of the exact law of TermSort. -/
import Derived.Test.YtkafgfngckecgaaFindE
import Derived.Test.YtkafgfngckecgaaTermB
namespace Go.Proofs.Ytkafgfngckecgaa
set_option linter.unusedVariables false
set_option linter.unusedSimpArgs false
open Go.RowKit
theorem tsE_shape (n : Nat) (L : Sy) (t : Tm) : ∃ v o, tsE n L t = .returned (.tuple #[.int .i64 v, .bool o]) := by
  by_cases h : sigB n L = true ∧ wellB t = true
  · rw [tsE_yes h.1 h.2]; exact ⟨_, _, rfl⟩
  · rw [tsE_no h]; exact ⟨_, _, rfl⟩
set_option maxRecDepth 100000 in
set_option maxHeartbeats 4000000 in
theorem walk_ExactTermSort (A : Option Addr) (n c : Nat) (L : Sy) (t : Tm) (B : Option Addr) (d : Nat) (w : World) (hn : n ≤ 9223372036854775807) (hA : Syms w A n L) (hF : Fits 9223372036854775807 t) (hB : Kids 0 w t B) :
    Calls Try.prog 5 #[.agg #[.slice A n c], .agg #[.string t.nm, .slice B t.n d]] w fun e w' => e = .returned (.bool true) ∧ Below w.heap.size w w' := by
  have hS := fun W (h : Below w.heap.size w W) => szsig_any A n c L 1048576 W hn (by omega) (hA.below h)
  have H : KcL [(w.heap.size, 0, .slice A n c), (w.heap.size + 1, 0, .string t.nm), (w.heap.size + 1, 1, .slice B t.n d)] ((w.alloc (.cells #[.slice A n c] 39)).alloc (.cells #[.string t.nm, .slice B t.n d] 42)) := ⟨by simp [go_sem], by simp [go_sem], by simp [go_sem], trivial⟩
  have q0 := bal (bal (Below.refl w.heap.size w) (.cells #[.slice A n c] 39)) (.cells #[.string t.nm, .slice B t.n d] 42)
  have HF := hid hF
  go_enter Try.func5, Try.ntmps5
  have HH_ := H; obtain ⟨c0, c1, c2, _⟩ := HH_
  go_wp2_with fail
  refine (hS _ q0).mono ?_
  rintro e w1 ⟨r, rfl, hr, hq⟩
  clear c0 c1 c2
  replace H := H.below hq
  replace q0 := btr q0 hq
  clear hS hq
  rcases hr with hr | ⟨r1, r2, hn2, hN⟩
  · go_wp2
    go_ret
    exact ⟨rfl, q0⟩
  have hS' := fun W (h : Below w.heap.size w W) => szterm_any t HF.out B d r W ⟨r1, r2⟩ (hB.below h)
  have hn3 : n ≤ 1048576 := by omega
  have hN3 : SmY n L := fun k hk => by have := hN k hk; omega
  clear hN hn2 hF
  have HH_ := H; obtain ⟨c0, c1, c2, _⟩ := HH_
  go_wp2_with fail
  refine (hS' _ q0).mono ?_
  rintro e w2 ⟨r', rfl, hr', hq⟩
  clear c0 c1 c2
  replace H := H.below hq
  replace q0 := btr q0 hq
  clear hS' hq
  rcases hr' with hr' | ⟨r1', r2', hNt⟩
  · go_wp2
    go_ret
    exact ⟨rfl, q0⟩
  clear r2' r2
  have hT := fun W (h : Below w.heap.size w W) => tosig_any A n c L W hn3 (hA.below h) hN3
  have hT' := fun W (h : Below w.heap.size w W) => toterm_any t hNt B d W (hB.below h)
  have hP := fun (A3 : Option Addr) k3 (A4 : Option Addr) k4 W h1 h2 => stermsort_any n L hn3 hN3 t hNt A3 A4 k3 k4 W h1 h2
  have hI := fun (A3 : Option Addr) k3 (A4 : Option Addr) k4 W h1 h2 => termsort_any n L hn3 t hNt A3 A4 k3 k4 W h1 h2
  obtain ⟨v, o, hv⟩ := tsE_shape n L t
  rw [hv] at hP hI
  clear hv
  have dv : (v != v) = false := by simp
  have dk : (o != o) = false := by simp
  have HN := hid hN3; clear hN3 hA hB hNt
  have HH_ := H; obtain ⟨c0, c1, c2, _⟩ := HH_
  have l0 := cell_lt c0
  have l1 := cell_lt c1
  have l2 := cell_lt c2
  have gc := @gro_cell w2
  go_upto_region 8 with fail
  refine region_plan (.takes [0, 2] (.make 1 (.make 3 (.make 4 (.takes [5, 6, 7, 8] .fin))))) 9 rfl (by kernel_rfl) ?_
  refine plan_takes ?_; simp only [pickOps, List.getElem?_cons_zero, List.getElem?_cons_succ]; (repeat (go_big_quiet_step (fail))); refine wpQuiet_nil ?_
  clear gc l0 l1 l2
  clear c0 c1 c2
  have hB := (Below.refl w2.heap.size w2).drew
  refine plan_call rfl rfl 20 #[.agg #[.slice A n c]] (by kernel_rfl) ?_
  refine (hT _ (btr q0 hB)).mono ?_
  rintro e u1 ⟨A3, rfl, O3, hq⟩
  refine ⟨_, rfl, btr hB hq, ?_⟩
  replace hB := btr hB hq; clear hq
  refine plan_call rfl rfl 21 #[.agg #[.string t.nm, .slice B t.n d]] (by kernel_rfl) ?_
  refine (hT' _ (btr q0 hB)).mono ?_
  rintro e u2 ⟨A4, rfl, O4, hq⟩
  refine ⟨_, rfl, btr hB hq, ?_⟩
  replace O3 := O3.below hq
  replace hB := btr hB hq; clear hq
  refine plan_call rfl rfl 19 #[.agg #[.slice A3 n n], .agg #[.string t.nm, .slice A4 t.n t.n]] (by kernel_rfl) ?_
  refine (hP A3 n A4 t.n _ (O3.syms HN.out) (O4.mono (Nat.zero_le _))).mono ?_
  rintro e u3 ⟨rfl, hq⟩
  refine ⟨_, rfl, btr hB hq, ?_⟩
  replace hB := btr hB hq; clear hq O3 O4
  refine plan_takes ?_; simp only [pickOps, List.getElem?_cons_zero, List.getElem?_cons_succ]
  refine quiet_do rfl (.tuple #[.int .i64 v, .bool o]) (fun _ => by kernel_rfl) ?_
  refine quiet_do rfl (.int .i64 v) (fun _ => by kernel_rfl) ?_
  refine quiet_do rfl (.bool o) (fun _ => by kernel_rfl) ?_
  refine quiet_do rfl (.int .i64 v) (fun _ => by kernel_rfl) ?_
  refine wpQuiet_nil ?_
  refine plan_fin ?_
  simp only [List.drop_succ_cons, List.drop_zero, Act.put, List.setIfInBounds_toArray, List.set_cons_succ, List.set_cons_zero]
  replace H := H.below hB
  replace q0 := btr q0 hB
  clear hB
  have HH_ := H; obtain ⟨c0, c1, c2, _⟩ := HH_
  go_wp2_with fail
  refine (hT _ q0).mono ?_
  rintro e w3 ⟨A5, rfl, O5, hq⟩
  clear c0 c1 c2
  replace H := H.below hq
  replace q0 := btr q0 hq
  clear hq
  have N : KcL [(w3.heap.size, 0, .slice A5 n n)] (w3.alloc (.cells #[.slice A5 n n] 25)) := ⟨by simp [go_sem], trivial⟩
  have al := bal (Below.refl w3.heap.size w3) (.cells #[.slice A5 n n] 25)
  replace H := (H.below al).app N
  replace q0 := btr q0 al
  replace O5 := O5.below al
  clear N al
  have HH_ := H; obtain ⟨c0, c1, c2, c3, _⟩ := HH_
  go_wp2_with fail
  refine (hT' _ q0).mono ?_
  rintro e w4 ⟨A6, rfl, O6, hq⟩
  clear c0 c1 c2 c3
  replace H := H.below hq
  replace q0 := btr q0 hq
  replace O5 := O5.below hq
  clear hq
  have N : KcL [(w4.heap.size, 0, .string t.nm), (w4.heap.size, 1, .slice A6 t.n t.n)] (w4.alloc (.cells #[.string t.nm, .slice A6 t.n t.n] 50)) := ⟨by simp [go_sem], by simp [go_sem], trivial⟩
  have al := bal (Below.refl w4.heap.size w4) (.cells #[.string t.nm, .slice A6 t.n t.n] 50)
  replace H := (H.below al).app N
  replace q0 := btr q0 al
  replace O5 := O5.below al
  replace O6 := O6.below al
  clear N al
  have HH_ := H; obtain ⟨c0, c1, c2, c3, c4, c5, _⟩ := HH_
  go_wp2_with fail
  refine (hI A5 n A6 t.n _ (O5.syms HN.out) (O6.mono (Nat.zero_le _))).mono ?_
  rintro e w5 ⟨rfl, hq⟩
  clear c0 c1 c2 c3 c4 c5
  replace H := H.below hq
  replace q0 := btr q0 hq
  replace O5 := O5.below hq
  replace O6 := O6.below hq
  clear hq
  have HH_ := H; obtain ⟨c0, c1, c2, c3, c4, c5, _⟩ := HH_
  have l0 := cell_lt c0
  have l1 := cell_lt c1
  have l2 := cell_lt c2
  have l3 := cell_lt c3
  have l4 := cell_lt c4
  have l5 := cell_lt c5
  have gc := @gro_cell w5
  go_wp2_with fail
  refine region_grow_call 2 rfl (by kernel_rfl) (by kernel_rfl) rfl ?_; simp only [List.take_succ_cons, List.take_zero]; (repeat (go_big_quiet_step (fail))); refine wpQuiet_nil ?_
  intro w6 hq
  clear gc l0 l1 l2 l3 l4 l5
  clear c0 c1 c2 c3 c4 c5
  refine ⟨20, #[.agg #[.slice A n c]], by kernel_rfl, ?_⟩
  refine (hT _ (btr q0 hq)).mono ?_
  rintro e w7 ⟨B8, rfl, O8, hq8⟩
  refine ⟨_, rfl, btr hq hq8, ?_⟩
  replace H := H.below (btr hq hq8)
  replace q0 := btr q0 (btr hq hq8)
  replace O5 := O5.below (btr hq hq8)
  replace O6 := O6.below (btr hq hq8)
  clear hq hq8
  have HH_ := H; obtain ⟨c0, c1, c2, c3, c4, c5, _⟩ := HH_
  go_wp2_with fail
  refine (eqsig_same (by omega) (O5.syms HN.out) (O8.syms HN.out)).mono ?_
  rintro e w8 ⟨rfl, hq⟩
  clear c0 c1 c2 c3 c4 c5
  replace H := H.below hq
  replace q0 := btr q0 hq
  replace O5 := O5.below hq
  replace O6 := O6.below hq
  clear hq O8
  clear O5
  have HH_ := H; obtain ⟨c0, c1, c2, c3, c4, c5, _⟩ := HH_
  have l0 := cell_lt c0
  have l1 := cell_lt c1
  have l2 := cell_lt c2
  have l3 := cell_lt c3
  have l4 := cell_lt c4
  have l5 := cell_lt c5
  have gc := @gro_cell w8
  go_wp2_with fail
  refine region_grow_call 2 rfl (by kernel_rfl) (by kernel_rfl) rfl ?_; simp only [List.take_succ_cons, List.take_zero]; (repeat (go_big_quiet_step (fail))); refine wpQuiet_nil ?_
  intro w9 hq
  clear gc l0 l1 l2 l3 l4 l5
  clear c0 c1 c2 c3 c4 c5
  refine ⟨21, #[.agg #[.string t.nm, .slice B t.n d]], by kernel_rfl, ?_⟩
  refine (hT' _ (btr q0 hq)).mono ?_
  rintro e w10 ⟨B8, rfl, O8, hq8⟩
  refine ⟨_, rfl, btr hq hq8, ?_⟩
  replace H := H.below (btr hq hq8)
  replace q0 := btr q0 (btr hq hq8)
  replace O6 := O6.below (btr hq hq8)
  clear hq hq8
  have HH_ := H; obtain ⟨c0, c1, c2, c3, c4, c5, _⟩ := HH_
  go_wp2_with fail
  refine (eqterm_same t HF.out _ _ _ _ _ (O6.mono (Nat.zero_le _)) (O8.mono (Nat.zero_le _))).mono ?_
  rintro e w11 ⟨rfl, hq⟩
  clear c0 c1 c2 c3 c4 c5
  replace H := H.below hq
  replace q0 := btr q0 hq
  replace O6 := O6.below hq
  clear hq O8
  go_wp2_with fail
  go_ret
  exact ⟨rfl, q0⟩
end Go.Proofs.Ytkafgfngckecgaa
