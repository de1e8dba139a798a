/- Several texts in one: FbA, FbW. -/
import Derived.Test.YtppiaclpholbfaaBZ
import Derived.Test.YtppiaclpholbfaaBW
import Derived.Test.YtppiaclpholbfaaBC
import Derived.Test.YtppiaclpholbfaaBI
import Derived.Test.YtppiaclpholbfaaByt
namespace Go.Proofs.Ytppiaclpholbfaa
set_option linter.unusedVariables false
set_option linter.unusedSimpArgs false
open Go.RowKit
def bothL (Z : Nat → Int) (b : Int) (s : Bool) : Lst := ⟨fun _ => 4, fun k => if k = 0 then Z else fun i => -Z i, fun k => if k = 0 then b else -b, fun k => if k = 0 then s else !s⟩
theorem bothL_ok {Z : Nat → Int} {b : Int} {s : Bool} (h : okL 4 Z b = true) : okS 2 (bothL Z b s) = true :=
  okS_iff.2 ⟨by omega, fun k hk => by
    by_cases e : k = 0
    · subst e; exact h
    · show okL 4 (if k = 0 then Z else fun i => -Z i) (if k = 0 then b else -b) = true
      rw [if_neg e, if_neg e]; exact okL_neg h⟩
theorem bothL_run {Z : Nat → Int} {b : Int} {s : Bool} (h : okL 4 Z b = true) : (runE 2 (bothL Z b s)).code ≠ 0 := by
  have key : ∀ N D, allB 2 (bothL Z b s) 4 N D = false := fun N D => by
    cases e : allB 2 (bothL Z b s) 4 N D
    · rfl
    · exfalso
      have h1 := (allB_iff.1 e).1
      have h0 : atB 4 Z b s 4 N D = (true, true) := h1 0 (by omega)
      have h2 : atB 4 (fun i => -Z i) (-b) (!s) 4 N D = (true, true) := h1 1 (by omega)
      have h3 := (at_not (m := 4) (N := N) (D := D) (s := s) h).2
      rw [h0, h2] at h3
      simp at h3
  unfold runE
  split
  · simp [FarE.code]
  · split
    · simp [FarE.code]
    · split
      · split <;> simp [FarE.code]
      · split
        · simp [FarE.code]
        · rw [key]; simp [FarE.code]
theorem bothL_bad {Z : Nat → Int} {b : Int} {s : Bool} (h : okL 4 Z b = true) : farOkB (farS 2 (bothL Z b s) 2 (fun _ => 1)) = true := by
  have h0 : okL 4 (fun _ => 0) 0 = true := okL_iff.2 ⟨rfl, fun k hk => by simp [inC], by simp [inC]⟩
  have e1 : addZ (fun _ => 0) 1 Z 1 = Z := by funext k; simp [addZ]
  have hs1 : sumS (bothL Z b s) (fun _ => 1) 1 = ((4, Z, b, s), true) := by
    show (if (((4, (fun _ => 0), 0, false), true) : LinR × Bool).2 = true then stepS _ _ _ 0 else _) = _
    rw [if_pos rfl]
    show sumR 4 (fun _ => 0) 0 false 1 4 Z b s 1 = _
    unfold sumR
    rw [if_pos ⟨h0, h, by omega, by omega⟩]
    unfold addR2
    rw [e1]
    rw [if_pos (by simpa using h)]
    simp [strB]
  have e2 : addZ Z 1 (fun i => -Z i) 1 = fun _ => 0 := by funext k; simp [addZ]; omega
  have hs2 : sumS (bothL Z b s) (fun _ => 1) 2 = ((4, (fun _ => 0), 0, true), true) := by
    show (if (sumS (bothL Z b s) (fun _ => 1) 1).2 = true then stepS (sumS (bothL Z b s) (fun _ => 1) 1).1 _ _ 1 else _) = _
    rw [hs1, if_pos rfl]
    show sumR 4 Z b s 1 4 (fun i => -Z i) (-b) (!s) 1 = _
    unfold sumR
    rw [if_pos ⟨h, okL_neg h, by omega, by omega⟩]
    unfold addR2
    rw [e2]
    rw [if_pos (by rw [show b * 1 + -b * 1 = 0 by omega]; exact h0)]
    rw [show b * 1 + -b * 1 = 0 by omega]
    cases s <;> simp [strB]
  unfold farS
  rw [if_pos ⟨bothL_ok h, rfl, by rw [hs2]⟩, hs2]
  simp [farOkB, badB, h0, emptyB, refB]
end Go.Proofs.Ytppiaclpholbfaa

namespace Go.Proofs.Ytppiaclpholbfaa
set_option linter.unusedVariables false
set_option linter.unusedSimpArgs false
open Go.RowKit
theorem both_lins {w : World} {A A3 : Option Addr} {c c3 : Nat} {Z : Nat → Int} {b : Int} {s : Bool} {g : Nat} (hg : g < w.heap.size) (hA : Ints w A 4 Z) (hB : Ints w A3 4 (fun k => -Z k))
    (h0 : w.cell? ⟨g, 0, none⟩ = some (.slice A 4 c)) (h1 : w.cell? ⟨g, 1, none⟩ = some (.int .i64 b)) (h2 : w.cell? ⟨g, 2, none⟩ = some (.bool s))
    (h3 : w.cell? ⟨g, 3, none⟩ = some (.slice A3 4 c3)) (h4 : w.cell? ⟨g, 4, none⟩ = some (.int .i64 (-b))) (h5 : w.cell? ⟨g, 5, none⟩ = some (.bool (!s))) : Lins w (some ⟨g, 0, none⟩) 2 (bothL Z b s) := by
  refine .inr ⟨g, 0, rfl, hg, fun k hk => ?_⟩
  rcases (show k = 0 ∨ k = 1 by omega) with rfl | rfl
  · exact ⟨A, c, h0, h1, h2, (show (4 : Nat) ≤ 9223372036854775807 by omega), hA⟩
  · exact ⟨A3, c3, h3, h4, h5, (show (4 : Nat) ≤ 9223372036854775807 by omega), hB⟩
set_option maxRecDepth 100000 in
set_option maxHeartbeats 8000000 in
theorem walk_FarBoth (a0 : Option Addr) (len0 cap0 : Nat) (w : World) (hby : Bytes w.heap.size w a0 len0) (hlc : len0 ≤ cap0) (hc : cap0 ≤ 9223372036854775807) :
    Calls Try.prog 3 #[.slice a0 len0 cap0] w fun e w' => e = .returned (.bool true) ∧ Below w.heap.size w w' := by
  by_cases hbig : 1048576 < len0
  · go_enter Try.func3, Try.ntmps3
    go_wp2
    go_ret
    exact ⟨rfl, Below.refl _ _⟩
  go_enter Try.func3, Try.ntmps3
  go_wp2_with fail
  refine (drawlinnot_any w.heap.size w a0 len0 cap0 (Nat.le_refl _) hby hlc hc).mono ?_
  rintro e w1 ⟨A, n, c, Z, b, s, rfl, hn, hA, hq⟩
  have q0 := bal hq (.cells #[.slice A n c, .int .i64 b, .bool s] 25)
  have H := (KcL.new3 w1 (.slice A n c) (.int .i64 b) (.bool s) 25 rfl)
  have I1 := (hA.below (bal (Below.refl w1.heap.size w1) (.cells #[.slice A n c, .int .i64 b, .bool s] 25)))
  clear hq hA hby hlc hc hbig
  have HH := H; obtain ⟨c0, c1, cc2, _⟩ := HH
  go_wp2_with fail
  refine (linnot_any A n c Z b s _ (by omega) I1).mono ?_
  rintro e w4 ⟨v, rfl, ⟨A3, c3, rfl, hn3, hc3, O3⟩, hq4⟩
  have hR4 := notR_len n Z b s
  generalize hRR : notR n Z b s = R at O3 hn3 hc3 hR4 ⊢
  clear c0 c1 cc2
  replace H := H.below hq4
  replace I1 := I1.below hq4
  replace q0 := btr q0 hq4
  have I3 := O3.ints
  clear hq4 O3
  go_upto_region 5 with fail
  have al := bal (Below.refl w4.heap.size w4) (.cells #[.slice A3 R.1 c3, .int .i64 R.2.2.1, .bool R.2.2.2] 25)
  replace H := (H.below al).app (KcL.new3 w4 (.slice A3 R.1 c3) (.int .i64 R.2.2.1) (.bool R.2.2.2) 25 rfl)
  replace I1 := I1.below al
  replace I3 := I3.below al
  replace q0 := btr q0 al
  have l1 : w1.heap.size < (w4.alloc (.cells #[.slice A3 R.1 c3, .int .i64 R.2.2.1, .bool R.2.2.2] 25)).heap.size := cell_lt H.1
  have l4 : w4.heap.size < (w4.alloc (.cells #[.slice A3 R.1 c3, .int .i64 R.2.2.1, .bool R.2.2.2] 25)).heap.size := by simp
  generalize w4.alloc (.cells #[.slice A3 R.1 c3, .int .i64 R.2.2.1, .bool R.2.2.2] 25) = w5 at *
  clear al
  generalize hv : okL n Z b = ok
  have HH := H; obtain ⟨c0, c1, cc2, d0, d1, d2, _⟩ := HH
  have gc := @gro_cell w5
  refine region_plan (.takes [0, 1] (.make 2 (.make 3 (.takes [4, 5, 6] (.make 7 .fin))))) 8 rfl (by kernel_rfl) ?_
  refine plan_takes ?_; simp only [pickOps, List.getElem?_cons_zero, List.getElem?_cons_succ]; (repeat (go_big_quiet_step (fail))); refine wpQuiet_nil ?_
  have hB := (Below.refl w5.heap.size w5).drew
  refine plan_call rfl rfl 7 #[.agg #[.slice A n c, .int .i64 b, .bool s]] (by kernel_rfl) ?_
  refine (slinnot_any A n c Z b s _ (by omega) (I1.below hB)).mono ?_
  rintro e w6 ⟨v, rfl, ⟨A4, c4, rfl, _, _, O4⟩, hq⟩
  rw [hRR] at O4 ⊢
  refine ⟨_, rfl, btr hB hq, ?_⟩
  replace hB := btr hB hq; clear hq
  refine plan_call rfl rfl 6 #[.agg #[.slice A3 R.1 c3, .int .i64 R.2.2.1, .bool R.2.2.2], .agg #[.slice A4 R.1 c4, .int .i64 R.2.2.1, .bool R.2.2.2]] (by kernel_rfl) ?_
  refine (linsame_at (by omega) (by omega) (I3.below hB) O4.ints (eqL_self _ _ _ _)).mono ?_
  rintro e w7 ⟨rfl, hq⟩
  refine ⟨_, rfl, btr hB hq, ?_⟩
  replace hB := btr hB hq; clear hq O4
  refine plan_takes ?_; simp only [pickOps, List.getElem?_cons_zero, List.getElem?_cons_succ]
  refine quiet_do rfl (.bool false) (fun _ => by kernel_rfl) ?_
  refine quiet_do rfl (.bool false) (fun _ => by kernel_rfl) ?_
  refine quiet_doG (by kernel_rfl) (.agg #[.slice A n c, .int .i64 b, .bool s]) (fun w' hC => by obtain ⟨X, rfl⟩ := hC; exact run_load3 rfl (by kernel_rfl) Try.underlying25 rfl (by kernel_rfl) ((gc X _ _ l1).trans c0) ((gc X _ _ l1).trans c1) ((gc X _ _ l1).trans cc2)) ?_
  refine wpQuiet_nil ?_
  refine plan_callG rfl (by kernel_rfl) 8 #[.agg #[.slice A n c, .int .i64 b, .bool s]] (by kernel_rfl) ?_
  refine (slinok_at (by omega) I1 hv _ hB).mono ?_
  rintro e w9 ⟨rfl, hq⟩
  refine ⟨_, rfl, btr hB hq, ?_⟩
  replace hB := btr hB hq; clear hq
  refine plan_fin ?_
  simp only [List.drop_succ_cons, List.drop_zero, Act.put, List.setIfInBounds_toArray, List.set_cons_succ, List.set_cons_zero]
  clear gc c0 c1 cc2 d0 d1 d2
  replace H := H.below hB
  replace I1 := I1.below hB
  replace I3 := I3.below hB
  replace q0 := btr q0 hB
  have HH := H; obtain ⟨c0, c1, cc2, d0, d1, d2, _⟩ := HH
  clear hB
  have l1 := cell_lt c0
  have l4 := cell_lt d0
  cases ok
  · go_upto_region 6 with fail
    have gc := @gro_cell w9
    refine region_plan (.takes [0, 1] (.make 2 (.make 3 .fin))) 4 rfl (by kernel_rfl) ?_
    refine plan_takes ?_; simp only [pickOps, List.getElem?_cons_zero, List.getElem?_cons_succ]; (repeat (go_big_quiet_step (fail))); refine wpQuiet_nil ?_
    have hB := (Below.refl w9.heap.size w9).drew
    refine plan_call rfl rfl 7 #[.agg #[.slice A n c, .int .i64 b, .bool s]] (by kernel_rfl) ?_
    refine (slinnot_any A n c Z b s _ (by omega) (I1.below hB)).mono ?_
    rintro e wa ⟨v, rfl, ⟨A4, c4, rfl, _, _, O4⟩, hq⟩
    rw [hRR] at O4 ⊢
    refine ⟨_, rfl, btr hB hq, ?_⟩
    replace hB := btr hB hq; clear hq
    refine plan_call rfl rfl 6 #[.agg #[.slice A3 R.1 c3, .int .i64 R.2.2.1, .bool R.2.2.2], .agg #[.slice A4 R.1 c4, .int .i64 R.2.2.1, .bool R.2.2.2]] (by kernel_rfl) ?_
    refine (linsame_at (by omega) (by omega) (I3.below hB) O4.ints (eqL_self _ _ _ _)).mono ?_
    rintro e wb ⟨rfl, hq⟩
    refine ⟨_, rfl, btr hB hq, ?_⟩
    replace hB := btr hB hq; clear hq O4
    refine plan_fin ?_
    simp only [List.drop_succ_cons, List.drop_zero, Act.put, List.setIfInBounds_toArray, List.set_cons_succ, List.set_cons_zero]
    go_wp2
    go_ret
    exact ⟨rfl, btr q0 hB⟩
  rw [notR_yes hv] at hRR
  subst hRR
  obtain ⟨rfl, _, _⟩ := okL_iff.1 hv
  simp only at I3 H hR4 hn3 hc3 d0 d1 d2
  have hrun := bothL_run (s := s) hv
  have hbad := bothL_bad (s := s) hv
  obtain ⟨Cx, hCx⟩ : ∃ C : Obj, C = .cells #[.slice A 4 c, .int .i64 b, .bool s, .slice A3 4 c3, .int .i64 (-b), .bool (!s)] 25 := ⟨_, rfl⟩
  have al := bal (Below.refl w9.heap.size w9) Cx
  have hL : Lins (w9.alloc Cx) (some ⟨w9.heap.size, 0, none⟩) 2 (bothL Z b s) := both_lins (c := c) (c3 := c3) (by simp) (I1.below al) (I3.below al) (by simp [go_sem, hCx]) (by simp [go_sem, hCx]) (by simp [go_sem, hCx]) (by simp [go_sem, hCx]) (by simp [go_sem, hCx]) (by simp [go_sem, hCx])
  have q1 := btr q0 al
  subst hCx
  clear al H I1 I3
  have HR := hid (farrun_any (some ⟨w9.heap.size, 0, none⟩) 2 2 (bothL Z b s) _ (by omega) hL (fun k hk => (show (4 : Nat) ≤ 1048576 by omega)))
  have HL := hid hL
  generalize runE 2 (bothL Z b s) = RR at HR hrun
  clear hL
  go_wp2_with fail
  refine HR.out.mono ?_
  rintro e wc ⟨Ar, cr, Br, dr, rfl, hq, _, _⟩
  clear HR c0 c1 cc2 d0 d1 d2
  have HL2 := hid (HL.out.below hq)
  replace q1 := btr q1 hq
  clear hq HL
  have al := bal (Below.refl wc.heap.size wc) (.cells #[.int .i64 1, .int .i64 1] 3)
  have hT : Ints (wc.alloc (.cells #[.int .i64 1, .int .i64 1] 3)) (some ⟨wc.heap.size, 0, none⟩) 2 (fun _ => 1) := .inr ⟨wc.heap.size, 0, rfl, by simp, fun k hk => by
    rcases (show k = 0 ∨ k = 1 by omega) with rfl | rfl <;> simp [go_sem]⟩
  have HF := hid (farok_any (some ⟨w9.heap.size, 0, none⟩) 2 2 (bothL Z b s) (some ⟨wc.heap.size, 0, none⟩) 2 2 (fun _ => 1) _ (by omega) (HL2.out.below al) (by omega) hT (fun k hk => (show (4 : Nat) ≤ 1048576 by omega)))
  rw [hbad] at HF
  have q2 := btr q1 al
  have dn : (RR.code != 0) = true := by simpa using hrun
  clear hT al
  go_wp2_with (go_at_call 10; refine HF.out.mono ?_; rintro e wd ⟨rfl, hq⟩)
  go_ret
  exact ⟨rfl, btr q2 hq⟩
end Go.Proofs.Ytppiaclpholbfaa
