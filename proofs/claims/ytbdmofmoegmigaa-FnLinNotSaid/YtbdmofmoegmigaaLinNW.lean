/- The law FnLinNot: the walk. -/
import Derived.Test.YtbdmofmoegmigaaLinDG
import Derived.Test.YtbdmofmoegmigaaLinX
import Derived.Test.YtbdmofmoegmigaaLinNM
import Derived.Test.YtbdmofmoegmigaaByt
namespace Go.Proofs.Ytbdmofmoegmigaa
set_option linter.unusedVariables false
set_option linter.unusedSimpArgs false
open Go.RowKit
theorem linok_at {A : Option Addr} {n c : Nat} {Z : Nat → Int} {b : Int} {s : Bool} {w : World} (hn : n ≤ 9223372036854775807) (hA : Ints w A n Z) {v : Bool} (h : okL n Z b = v) (W : World) (hb : Below w.heap.size w W) :
    Calls Try.prog 30 #[.agg #[.slice A n c, .int .i64 b, .bool s]] W fun e w' => e = .returned (.bool v) ∧ Below W.heap.size W w' := by
  subst h; exact linok_any A n c Z b s W hn (hA.below hb)
theorem linsame_at {A B : Option Addr} {n m c d : Nat} {Z Y : Nat → Int} {b b2 : Int} {s s2 : Bool} {w : World} (hn : n ≤ 9223372036854775806) (hm : m ≤ 9223372036854775806) (hA : Ints w A n Z) (hB : Ints w B m Y) {v : Bool} (h : eqL n Z b s m Y b2 s2 = v) :
    Calls Try.prog 28 #[.agg #[.slice A n c, .int .i64 b, .bool s], .agg #[.slice B m d, .int .i64 b2, .bool s2]] w fun e w' => e = .returned (.bool v) ∧ Below w.heap.size w w' := by
  subst h; exact linsame_any A B n m c d Z Y b b2 s s2 w hn hm hA hB
theorem linat_atN {A : Option Addr} {n c : Nat} {Z : Nat → Int} {b : Int} {s : Bool} {B : Option Addr} {m d : Nat} {N D : Nat → Int} {w : World} (hn : n ≤ 9223372036854775806) (hA : Ints w A n Z) (hm : m ≤ 9223372036854775806) (hB : Rats w B m N D) {p q : Bool} (h : atB n Z b s m N D = (p, q)) :
    Calls Try.prog 32 #[.agg #[.slice A n c, .int .i64 b, .bool s], .slice B m d] w fun e w' => e = .returned (.tuple #[.bool p, .bool q]) ∧ Below w.heap.size w w' := by
  have := linat_any A n c Z b s B m d N D w hn hA hm hB
  rw [h] at this
  exact this
set_option maxRecDepth 100000 in
set_option maxHeartbeats 8000000 in
theorem walk_LinNot (a0 : Option Addr) (len0 cap0 : Nat) (w : World) (hby : Bytes w.heap.size w a0 len0) (hlc : len0 ≤ cap0) (hc : cap0 ≤ 9223372036854775807) :
    Calls Try.prog 3 #[.slice a0 len0 cap0] w fun e w' => e = .returned (.bool true) ∧ Below w.heap.size w w' := by
  by_cases hbig : 1048576 < len0
  · go_enter Try.func3, Try.ntmps3
    go_wp2
    go_ret
    exact ⟨rfl, Below.refl _ _⟩
  go_enter Try.func3, Try.ntmps3
  go_wp2_with fail
  refine (drawlinnot_any w.heap.size w a0 len0 cap0 (Nat.le_refl _) hby hlc hc).mono ?_
  rintro e w1 ⟨A, n, c, Z, b, s, rfl, hn, hA, hq⟩
  have q0 := bal hq (.cells #[.slice A n c, .int .i64 b, .bool s] 25)
  go_wp2_with fail
  refine (drawlinat_any w.heap.size _ a0 len0 cap0 q0.size (hby.below q0) hlc hc).mono ?_
  rintro e w2 ⟨A2, n2, c2, Z2, b2, s2, D, m, d, N, M, rfl, _, _, hm, hD, hq2⟩
  have H := (KcL.new3 w1 (.slice A n c) (.int .i64 b) (.bool s) 25 rfl).below hq2
  have I1 := (hA.below (bal (Below.refl w1.heap.size w1) (.cells #[.slice A n c, .int .i64 b, .bool s] 25))).below hq2
  replace q0 := btr q0 hq2
  clear hq hq2 hA hby hlc hc hbig
  have al := bal (Below.refl w2.heap.size w2) (.cells #[.slice A2 n2 c2, .int .i64 b2, .bool s2] 25)
  replace H := H.below al
  replace I1 := I1.below al
  replace hD := hD.below al
  replace q0 := btr q0 al
  have HH := H; obtain ⟨c0, c1, cc2, _⟩ := HH
  go_wp2_with fail
  refine (linnot_any A n c Z b s _ (by omega) I1).mono ?_
  rintro e w4 ⟨v, rfl, ⟨A3, c3, rfl, hn3, hc3, O3⟩, hq4⟩
  have hR4 := notR_len n Z b s
  generalize hRR : notR n Z b s = R at O3 hn3 hc3 hR4 ⊢
  clear c0 c1 cc2 al
  replace H := H.below hq4
  replace I1 := I1.below hq4
  replace hD := hD.below hq4
  replace q0 := btr q0 hq4
  have I3 := O3.ints
  clear hq4 O3
  go_upto_region 6 with fail
  have al := bal (Below.refl w4.heap.size w4) (.cells #[.slice A3 R.1 c3, .int .i64 R.2.2.1, .bool R.2.2.2] 25)
  replace H := (H.below al).app (KcL.new3 w4 (.slice A3 R.1 c3) (.int .i64 R.2.2.1) (.bool R.2.2.2) 25 rfl)
  replace I1 := I1.below al
  replace I3 := I3.below al
  replace hD := hD.below al
  replace q0 := btr q0 al
  have l1 : w1.heap.size < (w4.alloc (.cells #[.slice A3 R.1 c3, .int .i64 R.2.2.1, .bool R.2.2.2] 25)).heap.size := cell_lt H.1
  have l4 : w4.heap.size < (w4.alloc (.cells #[.slice A3 R.1 c3, .int .i64 R.2.2.1, .bool R.2.2.2] 25)).heap.size := by simp
  generalize w4.alloc (.cells #[.slice A3 R.1 c3, .int .i64 R.2.2.1, .bool R.2.2.2] 25) = w5 at *
  clear al
  generalize hv : okL n Z b = ok
  have dok : (ok != ok) = false := by simp
  have HH := H; obtain ⟨c0, c1, cc2, d0, d1, d2, _⟩ := HH
  have gc := @gro_cell w5
  refine region_plan (.takes [0, 1] (.make 2 (.make 3 (.takes [4, 5, 6, 8] (.make 7 (.make 9 .fin)))))) 10 rfl (by kernel_rfl) ?_
  refine plan_takes ?_; simp only [pickOps, List.getElem?_cons_zero, List.getElem?_cons_succ]; (repeat (go_big_quiet_step (fail))); refine wpQuiet_nil ?_
  have hB := (Below.refl w5.heap.size w5).drew
  refine plan_call rfl rfl 29 #[.agg #[.slice A n c, .int .i64 b, .bool s]] (by kernel_rfl) ?_
  refine (slinnot_any A n c Z b s _ (by omega) (I1.below hB)).mono ?_
  rintro e w6 ⟨v, rfl, ⟨A4, c4, rfl, _, _, O4⟩, hq⟩
  rw [hRR] at O4 ⊢
  refine ⟨_, rfl, btr hB hq, ?_⟩
  replace hB := btr hB hq; clear hq
  refine plan_call rfl rfl 28 #[.agg #[.slice A3 R.1 c3, .int .i64 R.2.2.1, .bool R.2.2.2], .agg #[.slice A4 R.1 c4, .int .i64 R.2.2.1, .bool R.2.2.2]] (by kernel_rfl) ?_
  refine (linsame_at (by omega) (by omega) (I3.below hB) O4.ints (eqL_self _ _ _ _)).mono ?_
  rintro e w7 ⟨rfl, hq⟩
  refine ⟨_, rfl, btr hB hq, ?_⟩
  replace hB := btr hB hq; clear hq O4
  refine plan_takes ?_; simp only [pickOps, List.getElem?_cons_zero, List.getElem?_cons_succ]
  refine quiet_do rfl (.bool false) (fun _ => by kernel_rfl) ?_
  refine quiet_do rfl (.bool false) (fun _ => by kernel_rfl) ?_
  refine quiet_doG (by kernel_rfl) (.agg #[.slice A n c, .int .i64 b, .bool s]) (fun w' hC => by obtain ⟨X, rfl⟩ := hC; exact run_load3 rfl (by kernel_rfl) Try.underlying25 rfl (by kernel_rfl) ((gc X _ _ l1).trans c0) ((gc X _ _ l1).trans c1) ((gc X _ _ l1).trans cc2)) ?_
  refine quiet_doG (by kernel_rfl) (.agg #[.slice A n c, .int .i64 b, .bool s]) (fun w' hC => by obtain ⟨X, rfl⟩ := hC; exact run_load3 rfl (by kernel_rfl) Try.underlying25 rfl (by kernel_rfl) ((gc X _ _ l1).trans c0) ((gc X _ _ l1).trans c1) ((gc X _ _ l1).trans cc2)) ?_
  refine wpQuiet_nil ?_
  refine plan_callG rfl (by kernel_rfl) 30 #[.agg #[.slice A n c, .int .i64 b, .bool s]] (by kernel_rfl) ?_
  refine (linok_at (by omega) I1 hv _ hB).mono ?_
  rintro e w8 ⟨rfl, hq⟩
  refine ⟨_, rfl, btr hB hq, ?_⟩
  replace hB := btr hB hq; clear hq
  refine plan_callG rfl (by kernel_rfl) 31 #[.agg #[.slice A n c, .int .i64 b, .bool s]] (by kernel_rfl) ?_
  refine (slinok_at (by omega) I1 hv _ hB).mono ?_
  rintro e w9 ⟨rfl, hq⟩
  refine ⟨_, rfl, btr hB hq, ?_⟩
  replace hB := btr hB hq; clear hq
  refine plan_fin ?_
  simp only [List.drop_succ_cons, List.drop_zero, Act.put, List.setIfInBounds_toArray, List.set_cons_succ, List.set_cons_zero]
  clear gc c0 c1 cc2 d0 d1 d2
  replace H := H.below hB
  replace I1 := I1.below hB
  replace I3 := I3.below hB
  replace hD := hD.below hB
  replace q0 := btr q0 hB
  have HH := H; obtain ⟨c0, c1, cc2, d0, d1, d2, _⟩ := HH
  go_wp2_with fail
  refine (slinok_at (by omega) I1 hv _ (Below.refl _ _)).mono ?_
  rintro e wa ⟨rfl, hq⟩
  cases ok
  · rw [notR_no hv] at hRR
    subst hRR
    clear c0 c1 cc2 d0 d1 d2
    replace H := H.below hq
    replace I3 := I3.below hq
    replace q0 := btr q0 hq
    clear hq
    have HH := H; obtain ⟨c0, c1, cc2, d0, d1, d2, _⟩ := HH
    simp only [zeroL] at d0 d1 d2 I3
    go_wp2_with fail
    refine (linsame_at (by omega) (by omega) I3 (.inl rfl : Ints _ none 0 (fun _ => 0)) (eqL_self 0 (fun _ => 0) 0 false)).mono ?_
    rintro e wb ⟨rfl, hq⟩
    go_wp2
    go_ret
    exact ⟨rfl, btr q0 hq⟩
  have hnn := not_not (s := s) hv
  have hat := at_not (m := m) (N := N) (D := M) (s := s) hv
  rw [notR_yes hv] at hRR
  subst hRR
  obtain ⟨rfl, _, _⟩ := okL_iff.1 hv
  simp only at I3 H hR4 hn3 hc3
  clear c0 c1 cc2 d0 d1 d2
  replace H := H.below hq
  replace I1 := I1.below hq
  replace I3 := I3.below hq
  replace hD := hD.below hq
  replace q0 := btr q0 hq
  clear hq
  have HH := H; obtain ⟨c0, c1, cc2, d0, d1, d2, _⟩ := HH
  rcases hp : atB 4 Z b s m N M with ⟨p1, p2⟩
  rcases hr : atB 4 (fun k => -Z k) (-b) (!s) m N M with ⟨r1, r2⟩
  rw [hp, hr] at hat
  simp only at hat
  obtain ⟨rfl, hat⟩ := hat
  go_wp2_with fail
  refine (linat_atN (by omega) I1 (by omega) hD hp).mono ?_
  rintro e wc ⟨rfl, hq⟩
  clear c0 c1 cc2 d0 d1 d2
  replace H := H.below hq
  replace I1 := I1.below hq
  replace I3 := I3.below hq
  replace hD := hD.below hq
  replace q0 := btr q0 hq
  clear hq
  have HH := H; obtain ⟨c0, c1, cc2, d0, d1, d2, _⟩ := HH
  go_wp2_with fail
  refine (linat_atN (by omega) I3 (by omega) hD hr).mono ?_
  rintro e we ⟨rfl, hq⟩
  clear c0 c1 cc2 d0 d1 d2
  replace H := H.below hq
  replace I1 := I1.below hq
  replace I3 := I3.below hq
  replace hD := hD.below hq
  replace q0 := btr q0 hq
  clear hq
  have l1 : w1.heap.size < we.heap.size := cell_lt H.1
  have l4 : w4.heap.size < we.heap.size := cell_lt H.2.2.2.1
  have gc := @gro_cell we
  have HH := H; obtain ⟨c0, c1, cc2, d0, d1, d2, _⟩ := HH
  clear dok hD hp hr hv
  go_upto_region 12 with fail
  cases p2
  · skip
    refine region_plan (.takes [0, 2] (.make 1 (.make 3 (.takes [4, 5, 6, 7, 8, 9, 10, 11, 12, 13, 14, 15, 16, 17] .fin)))) 18 rfl (by kernel_rfl) ?_
    refine plan_takes ?_; simp only [pickOps, List.getElem?_cons_zero, List.getElem?_cons_succ]; (repeat (go_big_quiet_step (fail))); refine wpQuiet_nil ?_
    have hB := (Below.refl we.heap.size we).drew
    refine plan_call rfl rfl 27 #[.agg #[.slice A3 4 c3, .int .i64 (-b), .bool (!s)]] (by kernel_rfl) ?_
    refine (linnot_any A3 4 c3 (fun k => -Z k) (-b) (!s) _ (by omega) (I3.below hB)).mono ?_
    rintro e wf ⟨v, rfl, ⟨A4, c4, rfl, _, _, O4⟩, hq⟩
    rw [hnn] at O4 ⊢
    simp only at O4 ⊢
    refine ⟨_, rfl, btr hB hq, ?_⟩
    replace hB := btr hB hq; clear hq
    refine plan_call rfl rfl 28 #[.agg #[.slice A4 4 c4, .int .i64 b, .bool s], .agg #[.slice A 4 c, .int .i64 b, .bool s]] (by kernel_rfl) ?_
    refine (linsame_at (by omega) (by omega) O4.ints (I1.below hB) (eqL_self _ _ _ _)).mono ?_
    rintro e wg ⟨rfl, hq⟩
    refine ⟨_, rfl, btr hB hq, ?_⟩
    replace hB := btr hB hq; clear hq O4
    refine plan_takes ?_; simp only [pickOps, List.getElem?_cons_zero, List.getElem?_cons_succ, Act.put, List.setIfInBounds_toArray, List.set_cons_succ, List.set_cons_zero]; (repeat (go_big_quiet_step (fail))); refine wpQuiet_nil ?_
    refine plan_fin ?_
    simp only [List.drop_succ_cons, List.drop_zero, Act.put, List.setIfInBounds_toArray, List.set_cons_succ, List.set_cons_zero]
    go_wp2
    go_ret
    exact ⟨rfl, btr q0 hB⟩
  obtain rfl := hat (by trivial)
  clear hat
  cases r1
  · skip
    refine region_plan (.takes [0, 2] (.make 1 (.make 3 (.takes [4, 5, 6, 7, 8, 9, 10, 11, 12, 13, 14, 15, 16, 17] .fin)))) 18 rfl (by kernel_rfl) ?_
    refine plan_takes ?_; simp only [pickOps, List.getElem?_cons_zero, List.getElem?_cons_succ]; (repeat (go_big_quiet_step (fail))); refine wpQuiet_nil ?_
    have hB := (Below.refl we.heap.size we).drew
    refine plan_call rfl rfl 27 #[.agg #[.slice A3 4 c3, .int .i64 (-b), .bool (!s)]] (by kernel_rfl) ?_
    refine (linnot_any A3 4 c3 (fun k => -Z k) (-b) (!s) _ (by omega) (I3.below hB)).mono ?_
    rintro e wf ⟨v, rfl, ⟨A4, c4, rfl, _, _, O4⟩, hq⟩
    rw [hnn] at O4 ⊢
    simp only at O4 ⊢
    refine ⟨_, rfl, btr hB hq, ?_⟩
    replace hB := btr hB hq; clear hq
    refine plan_call rfl rfl 28 #[.agg #[.slice A4 4 c4, .int .i64 b, .bool s], .agg #[.slice A 4 c, .int .i64 b, .bool s]] (by kernel_rfl) ?_
    refine (linsame_at (by omega) (by omega) O4.ints (I1.below hB) (eqL_self _ _ _ _)).mono ?_
    rintro e wg ⟨rfl, hq⟩
    refine ⟨_, rfl, btr hB hq, ?_⟩
    replace hB := btr hB hq; clear hq O4
    refine plan_takes ?_; simp only [pickOps, List.getElem?_cons_zero, List.getElem?_cons_succ, Act.put, List.setIfInBounds_toArray, List.set_cons_succ, List.set_cons_zero]; (repeat (go_big_quiet_step (fail))); refine wpQuiet_nil ?_
    refine plan_fin ?_
    simp only [List.drop_succ_cons, List.drop_zero, Act.put, List.setIfInBounds_toArray, List.set_cons_succ, List.set_cons_zero]
    go_wp2
    go_ret
    exact ⟨rfl, btr q0 hB⟩
  · skip
    refine region_plan (.takes [0, 2] (.make 1 (.make 3 (.takes [4, 5, 6, 7, 8, 9, 10, 11, 12, 13, 14, 15, 16, 17] .fin)))) 18 rfl (by kernel_rfl) ?_
    refine plan_takes ?_; simp only [pickOps, List.getElem?_cons_zero, List.getElem?_cons_succ]; (repeat (go_big_quiet_step (fail))); refine wpQuiet_nil ?_
    have hB := (Below.refl we.heap.size we).drew
    refine plan_call rfl rfl 27 #[.agg #[.slice A3 4 c3, .int .i64 (-b), .bool (!s)]] (by kernel_rfl) ?_
    refine (linnot_any A3 4 c3 (fun k => -Z k) (-b) (!s) _ (by omega) (I3.below hB)).mono ?_
    rintro e wf ⟨v, rfl, ⟨A4, c4, rfl, _, _, O4⟩, hq⟩
    rw [hnn] at O4 ⊢
    simp only at O4 ⊢
    refine ⟨_, rfl, btr hB hq, ?_⟩
    replace hB := btr hB hq; clear hq
    refine plan_call rfl rfl 28 #[.agg #[.slice A4 4 c4, .int .i64 b, .bool s], .agg #[.slice A 4 c, .int .i64 b, .bool s]] (by kernel_rfl) ?_
    refine (linsame_at (by omega) (by omega) O4.ints (I1.below hB) (eqL_self _ _ _ _)).mono ?_
    rintro e wg ⟨rfl, hq⟩
    refine ⟨_, rfl, btr hB hq, ?_⟩
    replace hB := btr hB hq; clear hq O4
    refine plan_takes ?_; simp only [pickOps, List.getElem?_cons_zero, List.getElem?_cons_succ, Act.put, List.setIfInBounds_toArray, List.set_cons_succ, List.set_cons_zero]; (repeat (go_big_quiet_step (fail))); refine wpQuiet_nil ?_
    refine plan_fin ?_
    simp only [List.drop_succ_cons, List.drop_zero, Act.put, List.setIfInBounds_toArray, List.set_cons_succ, List.set_cons_zero]
    go_wp2
    go_ret
    exact ⟨rfl, btr q0 hB⟩
end Go.Proofs.Ytbdmofmoegmigaa
