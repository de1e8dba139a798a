/- Contracts of the model's l2Vals, l2Sum. -/
import Derived.Test.YtplocljoanaoeaaLinX
import Derived.Test.YtplocljoanaoeaaPlanB
import Derived.Test.YtplocljoanaoeaaBI
namespace Go.Proofs.Ytplocljoanaoeaa
set_option linter.unusedVariables false
set_option linter.unusedSimpArgs false
open Go.RowKit
set_option maxHeartbeats 1000000 in
theorem svals_any (A : Option Addr) (n c : Nat) (N D : Nat → Int) (w : World) (hn : n ≤ 9223372036854775806) (hA : Rats w A n N D) :
    Calls Try.prog 58 #[.slice A n c] w fun e w' => e = .returned (.bool (valsB n N D)) ∧ Below w.heap.size w w' := by
  generalize hr : valsB n N D = res
  have HR := hid hr; clear hr
  go_enter Try.func58, Try.ntmps58
  go_wp2
  go_loopw [3] (fun i wr => ∃ k : Nat, k ≤ n ∧ i = .int .i64 k ∧ Below w.heap.size w wr ∧ ∀ j, j < k → okB (N j) (D j) = true) (fun i _ => n - (intOf i).toNat)
  case atStart => exact ⟨0, Nat.zero_le _, rfl, Below.refl _ _, fun j hj => by omega⟩
  case round =>
    obtain ⟨k, hk, rfl, hb, he⟩ := hrel
    have HE := hid he; clear he
    by_cases hlt : k < n
    · rcases hA with h0 | ⟨g, off, rfl, hg, hcA⟩
      · omega
      have gg : g < wr.heap.size := Nat.lt_of_lt_of_le hg hb.size
      have a0 : wr.cell? ⟨g, off + k * 2, none⟩ = some (.int .i64 (N k)) := carry hb (hcA k hlt).1
      have a1 : wr.cell? ⟨g, off + k * 2 + 1, none⟩ = some (.int .i64 (D k)) := carry hb (hcA k hlt).2
      clear hcA
      cases hv : okB (N k) (D k)
      · have HV := hid hv
        have HF := hid (valsB_at (n := n) hlt hv); clear hv
        go_wp2_with (go_at_call 88; refine (sok_at _ _ _ HV.out).mono ?_; rintro e w1 ⟨rfl, hq⟩)
        go_ret
        exact ⟨ret_bool (HF.out.symm.trans HR.out), btr hb hq⟩
      · have HV := hid hv; clear hv
        go_wp2_with (go_at_call 88; refine (sok_at _ _ _ HV.out).mono ?_; rintro e w1 ⟨rfl, hq⟩)
        go_roundw
        case rel =>
          refine ⟨k + 1, by omega, by go_num, btr hb hq, fun j hj => ?_⟩
          by_cases e : j = k
          · subst e; exact HV.out
          · exact HE.out j (by omega)
        case measure => simp [intOf]; omega
    · have hke : k = n := by omega
      subst hke
      by_cases h4 : k = 4
      · subst h4
        have HT := hid (valsB_iff.2 ⟨rfl, HE.out⟩)
        go_wp2
        go_ret
        exact ⟨ret_bool (HT.out.symm.trans HR.out), hb⟩
      · have HF := hid (valsB_len (N := N) (D := D) h4)
        have hd : ((k : Int) == 4) = false := by simp; omega
        clear h4
        go_wp2
        go_ret
        exact ⟨ret_bool (HF.out.symm.trans HR.out), hb⟩
theorem svals_at {A : Option Addr} {n c : Nat} {N D : Nat → Int} {w : World} (hn : n ≤ 9223372036854775806) (hA : Rats w A n N D) {v : Bool} (h : valsB n N D = v) (W : World) (hb : Below w.heap.size w W) :
    Calls Try.prog 58 #[.slice A n c] W fun e w' => e = .returned (.bool v) ∧ Below W.heap.size W w' := by
  subst h; exact svals_any A n c N D W hn (hA.below hb)
section
variable {P : Program} {ops : Array Oper} {l : List Oper} {K : Act → World → Prop} {a : Act} {w W : World} {m : Nat} {k : Pl} {om : Oper}
theorem plan_store2 (hl : l[m]? = some om) (hg : om.guard = none) (ty : TypeId) (x y : Operand) (ho : om.op = .store ty x y) (b : Nat) (x0 x1 : Value) (hx : a.eval x = .pointer (some ⟨b, 0, none⟩)) (hy : a.eval y = .agg #[x0, x1])
    (ht : w.there b 0 2) (hi : (P.info? ty).map (·.size) = some 2) (h1 : (#[x0, x1] : Array Value).all (·.oneCell') = true) (hB : Below W.heap.size W w) (hb : W.heap.size ≤ b)
    (hk : ∀ w', w.grownBy w' (some b) → Below W.heap.size W w' → w'.cell? ⟨b, 0, none⟩ = some x0 → w'.cell? ⟨b, 1, none⟩ = some x1 → ObPl P ops (fun w' => ∃ X, w' = gro W X) l K k (a.put om.dst undef) w') : ObPl P ops (fun w' => ∃ X, w' = gro W X) l K (.make m k) a w := by
  refine ⟨om, hl, .inl ⟨wanted_none hg, ?_⟩⟩
  have e : (execOp a.eval om).run P w = .ok .skip (w.setCells b 0 [x0, x1]) := by
    unfold execOp
    simp only [ho, hx, hy, Instr.storeAt, Instr.sureAddr, Sem.run_bind, Sem.run_pure, Result.andThen_ok, run_storeVar_mid w b 0 ty #[x0, x1] ht hi h1]
  rw [e]
  obtain ⟨u0, e0⟩ := Option.isSome_iff_exists.1 (ht 0 (by omega)).1
  obtain ⟨u1, e1⟩ := Option.isSome_iff_exists.1 (ht 1 (by omega)).1
  obtain ⟨t0, t1⟩ := set2 e0 e1 x0 x1
  have hBb : Below W.heap.size W (w.setCells b 0 [x0, x1]) := bst (bst hB hb x0) hb x1
  exact ⟨⟨⟨_, hBb⟩, rfl⟩, hk _ (grow_trans (grow_set w b 0 x0) (grow_set _ b 1 x1)) hBb t0 t1⟩
end
theorem there2_new (w : World) (x y : Value) (t : TypeId) : (w.alloc (.cells #[x, y] t)).there w.heap.size 0 2 := by
  intro j hj
  match j, hj with
  | 0, _ => simp [go_sem]
  | 1, _ => simp [go_sem]
/-- what the model's sum answers: the sum if it can be told -/
def SlP (w : World) (r : Int × Int × Bool) (e : Ending) (w' : World) : Prop := ∃ x y, e = .returned (.tuple #[.agg #[.int .i64 x, .int .i64 y], .bool r.2.2]) ∧ (r.2.2 = true → r = (x, y, true)) ∧ Below w.heap.size w w'
theorem SlP.no {w w' : World} {r : Int × Int × Bool} {x y : Int} (h : r = (0, 0, false)) (hb : Below w.heap.size w w') : SlP w r (.returned (.tuple #[.agg #[.int .i64 x, .int .i64 y], .bool false])) w' := by
  subst h; exact ⟨x, y, rfl, (fun e => by simp at e), hb⟩
theorem SlP.yes {w w' : World} {r : Int × Int × Bool} {x y : Int} (h : r = (x, y, true)) (hb : Below w.heap.size w w') : SlP w r (.returned (.tuple #[.agg #[.int .i64 x, .int .i64 y], .bool true])) w' := by
  subst h; exact ⟨x, y, rfl, fun _ => rfl, hb⟩
set_option maxRecDepth 100000 in
set_option maxHeartbeats 4000000 in
theorem slsum2_any (B' : Option Addr) (c' : Nat) (b : Int) (s : Bool) (A : Option Addr) (c : Nat) (Z N D : Nat → Int) (w : World) (hZ : Ints w B' 4 Z) (hA : Rats w A 4 N D) :
    Calls Try.prog 86 #[.agg #[.slice B' 4 c', .int .i64 b, .bool s], .slice A 4 c] w (SlP w (atS Z N D 4)) := by
  have hst : AtS w Z N D 0 (((w.alloc (.cells #[.slice B' 4 c', .int .i64 b, .bool s] 28)).alloc (.cells #[.int .i64 0, .int .i64 0] 52)).alloc (.cells #[.int .i64 0, .int .i64 1] 52)) := by
    refine ⟨bal (bal (bal (Below.refl _ _) _) _) _, ?_, ?_, ?_, ?_, ?_, ?_, 0, 1, rfl, ?_, ?_⟩ <;> simp [go_sem]
  have hk0 : (((w.alloc (.cells #[.slice B' 4 c', .int .i64 b, .bool s] 28)).alloc (.cells #[.int .i64 0, .int .i64 0] 52)).alloc (.cells #[.int .i64 0, .int .i64 1] 52)).cell? ⟨w.heap.size, 0, none⟩ = some (.slice B' 4 c') := by simp [go_sem]
  go_enter Try.func86, Try.ntmps86
  go_wp2
  go_loopw [7] (fun i wr => ∃ k : Nat, k ≤ 4 ∧ i = .int .i64 k ∧ wr.cell? ⟨w.heap.size, 0, none⟩ = some (.slice B' 4 c') ∧ AtS w Z N D k wr) (fun i _ => 4 - (intOf i).toNat)
  case atStart => exact ⟨0, Nat.zero_le _, rfl, hk0, hst⟩
  case round =>
    obtain ⟨k, hk, rfl, k0, hb, r0, r1, f0, f1, g0, g1, x, y, hs, s0, s1⟩ := hrel
    clear hst hk0
    have HS := hid hs; clear hs
    by_cases hlt : k < 4
    · rcases hA with h0 | ⟨g, off, rfl, hg, hcA⟩
      · exact absurd h0 (by decide)
      rcases hZ with h0 | ⟨g2, off2, rfl, hg2, hcZ⟩
      · exact absurd h0 (by decide)
      have gg : g < wr.heap.size := Nat.lt_of_lt_of_le hg hb.size
      have gg2 : g2 < wr.heap.size := Nat.lt_of_lt_of_le hg2 hb.size
      have gg3 : w.heap.size < wr.heap.size := cell_lt k0
      have a0 : wr.cell? ⟨g, off + k * 2, none⟩ = some (.int .i64 (N k)) := carry hb (hcA k hlt).1
      have a1 : wr.cell? ⟨g, off + k * 2 + 1, none⟩ = some (.int .i64 (D k)) := carry hb (hcA k hlt).2
      have z1 : wr.cell? ⟨g2, off2 + k, none⟩ = some (.int .i64 (Z k)) := carry hb (hcZ k hlt)
      clear hcA hcZ
      have hM := fun W => smul_any (Z k) 1 (N k) (D k) W
      generalize hmr : mulR (Z k) 1 (N k) (D k) = mr at hM
      have gc := @gro_cell wr
      go_upto_region 5 with fail
      go_cut [8, 9] (fun sp sb wx => ∃ NB, sp = .pointer (some ⟨NB, 0, none⟩) ∧ sb = .bool mr.2.2 ∧ Below wr.heap.size wr wx ∧ wx.cell? ⟨NB, 0, none⟩ = some (.int .i64 mr.1) ∧ wx.cell? ⟨NB, 1, none⟩ = some (.int .i64 mr.2.1))
      case first =>
        clear hmr HS s0 s1 r0 r1 f0 f1 g0 g1
        refine region_plan (.takes [0, 1, 2, 3, 4, 5, 6, 7, 8, 9] (.fork 14 10 (.make 10 (.takes [11, 12, 13] (.make 15 .fin))) (.takes [11, 12, 13] (.make 14 (.make 15 .fin))))) 16 rfl (by kernel_rfl) ?_
        refine plan_takes ?_; simp only [pickOps, List.getElem?_cons_zero, List.getElem?_cons_succ]; (repeat (go_big_quiet_step (fail))); refine wpQuiet_nil ?_
        clear gc gg gg2 gg3 a0 a1 z1 k0
        have hBd := (Below.refl wr.heap.size wr).drew
        refine plan_fork ?_ ?_
        · skip
          refine plan_val rfl rfl (.pointer (some ⟨wr.drew.heap.size, 0, none⟩)) (w'' := wr.drew.alloc (.cells #[.int .i64 0, .int .i64 0] 52)) (by kernel_rfl) (bal hBd _) ?_
          have Zt := there2_new wr.drew (.int .i64 0) (.int .i64 0) 52
          have Zb : wr.drew.heap.size < (wr.drew.alloc (.cells #[.int .i64 0, .int .i64 0] 52)).heap.size := by simp
          have hB2 := bal hBd (.cells #[.int .i64 0, .int .i64 0] 52)
          refine plan_call rfl rfl 111 #[.agg #[.int .i64 (Z k), .int .i64 1], .agg #[.int .i64 (N k), .int .i64 (D k)]] (by kernel_rfl) ?_
          refine (hM _).mono ?_
          rintro e u1 ⟨rfl, hq⟩
          refine ⟨_, rfl, btr hB2 hq, ?_⟩
          refine plan_takes ?_; simp only [pickOps, List.getElem?_cons_zero, List.getElem?_cons_succ]
          refine quiet_do rfl (.tuple #[.agg #[.int .i64 mr.1, .int .i64 mr.2.1], .bool mr.2.2]) (fun _ => by kernel_rfl) ?_
          refine quiet_do rfl (.agg #[.int .i64 mr.1, .int .i64 mr.2.1]) (fun _ => by kernel_rfl) ?_
          refine quiet_do rfl (.bool mr.2.2) (fun _ => by kernel_rfl) ?_
          refine wpQuiet_nil ?_
          refine plan_store2 rfl rfl _ _ _ rfl _ (.int .i64 mr.1) (.int .i64 mr.2.1) (by kernel_rfl) (by kernel_rfl) (fun j hj => by rw [hq.cell (p := ⟨wr.drew.heap.size, 0 + j, none⟩) Zb, hq.frozen (p := ⟨wr.drew.heap.size, 0 + j, none⟩) Zb]; exact Zt j hj) (by kernel_rfl) (by simp [Value.oneCell']) (btr hB2 hq) hBd.size ?_
          intro wx _ hBx n0 n1
          refine plan_fin ?_
          simp only [List.drop_succ_cons, List.drop_zero]
          go_wp2_with fail
          go_meet
          exact ⟨_, rfl, rfl, hBx, n0, n1⟩
        · skip
          refine plan_call rfl rfl 111 #[.agg #[.int .i64 (Z k), .int .i64 1], .agg #[.int .i64 (N k), .int .i64 (D k)]] (by kernel_rfl) ?_
          refine (hM _).mono ?_
          rintro e u1 ⟨rfl, hq⟩
          refine ⟨_, rfl, btr hBd hq, ?_⟩
          refine plan_takes ?_; simp only [pickOps, List.getElem?_cons_zero, List.getElem?_cons_succ]
          refine quiet_do rfl (.tuple #[.agg #[.int .i64 mr.1, .int .i64 mr.2.1], .bool mr.2.2]) (fun _ => by kernel_rfl) ?_
          refine quiet_do rfl (.agg #[.int .i64 mr.1, .int .i64 mr.2.1]) (fun _ => by kernel_rfl) ?_
          refine quiet_do rfl (.bool mr.2.2) (fun _ => by kernel_rfl) ?_
          refine wpQuiet_nil ?_
          refine plan_val rfl rfl (.pointer (some ⟨u1.heap.size, 0, none⟩)) (w'' := u1.alloc (.cells #[.int .i64 0, .int .i64 0] 52)) (by kernel_rfl) (bal (btr hBd hq) _) ?_
          refine plan_store2 rfl rfl _ _ _ rfl _ (.int .i64 mr.1) (.int .i64 mr.2.1) (by kernel_rfl) (by kernel_rfl) (there2_new _ _ _ _) (by kernel_rfl) (by simp [Value.oneCell']) (bal (btr hBd hq) _) (btr hBd hq).size ?_
          intro wx _ hBx n0 n1
          refine plan_fin ?_
          simp only [List.drop_succ_cons, List.drop_zero]
          go_wp2_with fail
          go_meet
          exact ⟨_, rfl, rfl, hBx, n0, n1⟩
      obtain ⟨w1, hwc⟩ : ∃ x, x = wc := ⟨_, rfl⟩
      subst hwc
      obtain ⟨NB, rfl, rfl, hq, n0, n1⟩ := hcut
      clear gc gg gg2 gg3 a0 a1 z1 hM
      replace f0 := carryf hq f0 (cell_lt r0); replace f1 := carryf hq f1 (cell_lt r1); replace g0 := carryf hq g0 (cell_lt s0); replace g1 := carryf hq g1 (cell_lt s1); replace r0 := carry hq r0; replace r1 := carry hq r1; replace s0 := carry hq s0; replace s1 := carry hq s1; replace k0 := carry hq k0; replace hb := btr hb hq
      have l0 := cell_lt r0; have l1 := cell_lt s0; have l2 := cell_lt k0
      rcases mulR_cases (Z k) 1 (N k) (D k) with hm | ⟨p, q, hm⟩
      · have HF := hid (atS_none (atS_le (Z := Z) (N := N) (D := D) (k := k + 1) (m := 4) (by rw [atS_mulno (by rw [hm])]) (by omega)))
        obtain rfl := hmr.symm.trans hm
        clear hm hmr
        simp only at n0 n1
        go_wp2
        obtain ⟨t0, t1⟩ := set2 r0 r1 (.int .i64 x) (.int .i64 y)
        refine bodyPost_ret (v := .tuple #[.agg #[.int .i64 x, .int .i64 y], .bool false]) (by simp [results, Try.results86, go_sem, t0, t1]) rfl (SlP.no HF.out ?_)
        exact bst (bst hb (by simp <;> omega) _) (by simp <;> omega) _
      · obtain rfl := hmr.symm.trans hm
        clear hmr
        simp only at n0 n1
        have hS := fun W => sadd_any x y p q W
        rcases addR_cases x y p q with ha | ⟨u, v, ha⟩
        · have HF := hid (atS_none (atS_le (Z := Z) (N := N) (D := D) (k := k + 1) (m := 4) (by rw [atS_step HS.out hm, ha]) (by omega)))
          rw [ha] at hS; clear ha hm
          simp only at hS
          go_wp2_with (go_at_call 110; refine (hS _).mono ?_; rintro e w2 ⟨rfl, hq2⟩; replace f0 := carryf hq2 f0 (cell_lt r0); replace f1 := carryf hq2 f1 (cell_lt r1); replace g0 := carryf hq2 g0 (cell_lt s0); replace g1 := carryf hq2 g1 (cell_lt s1); replace r0 := carry hq2 r0; replace r1 := carry hq2 r1; replace s0 := carry hq2 s0; replace s1 := carry hq2 s1; replace k0 := carry hq2 k0; replace n0 := carry hq2 n0; replace n1 := carry hq2 n1; replace hb := btr hb hq2)
          obtain ⟨s0, s1⟩ := set2 s0 s1 (.int .i64 0) (.int .i64 0)
          obtain ⟨t0, t1⟩ := set2 (far2 (.int .i64 0) (.int .i64 0) (p := w.heap.size + 1 + 1) (by omega) r0) (far2 (.int .i64 0) (.int .i64 0) (p := w.heap.size + 1 + 1) (by omega) r1) (.int .i64 0) (.int .i64 0)
          refine bodyPost_ret (v := .tuple #[.agg #[.int .i64 0, .int .i64 0], .bool false]) (by simp [results, Try.results86, go_sem, t0, t1]) rfl (SlP.no HF.out ?_)
          exact bst (bst (bst (bst hb (by simp <;> omega) _) (by simp <;> omega) _) (by simp <;> omega) _) (by simp <;> omega) _
        · have HS2 := hid ((atS_step HS.out hm).trans ha)
          rw [ha] at hS; clear ha hm
          simp only at hS
          go_wp2_with (go_at_call 110; refine (hS _).mono ?_; rintro e w2 ⟨rfl, hq2⟩; replace f0 := carryf hq2 f0 (cell_lt r0); replace f1 := carryf hq2 f1 (cell_lt r1); replace g0 := carryf hq2 g0 (cell_lt s0); replace g1 := carryf hq2 g1 (cell_lt s1); replace r0 := carry hq2 r0; replace r1 := carry hq2 r1; replace s0 := carry hq2 s0; replace s1 := carry hq2 s1; replace k0 := carry hq2 k0; replace n0 := carry hq2 n0; replace n1 := carry hq2 n1; replace hb := btr hb hq2)
          go_roundw
          case rel =>
            obtain ⟨t0, t1⟩ := set2 s0 s1 (.int .i64 u) (.int .i64 v)
            exact ⟨k + 1, by omega, by go_num, far2 _ _ (by omega) k0, bst (bst hb (by simp <;> omega) _) (by simp <;> omega) _, far2 _ _ (by omega) r0, far2 _ _ (by omega) r1, frz2 _ _ f0, frz2 _ _ f1, frz2 _ _ g0, frz2 _ _ g1, u, v, HS2.out, t0, t1⟩
          case measure => simp [intOf]; omega
    · have hke : k = 4 := by omega
      subst hke
      go_wp2
      obtain ⟨t0, t1⟩ := set2 r0 r1 (.int .i64 x) (.int .i64 y)
      refine bodyPost_ret (v := .tuple #[.agg #[.int .i64 x, .int .i64 y], .bool true]) (by simp [results, Try.results86, go_sem, t0, t1]) rfl (SlP.yes HS.out ?_)
      exact bst (bst hb (by simp <;> omega) _) (by simp <;> omega) _
end Go.Proofs.Ytplocljoanaoeaa
