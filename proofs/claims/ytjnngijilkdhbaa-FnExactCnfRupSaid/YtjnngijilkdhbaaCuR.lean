/- CnfRup of the program and of the model. -/
import Derived.Test.YtjnngijilkdhbaaCuM
namespace Go.Proofs.Ytjnngijilkdhbaa
set_option linter.unusedVariables false
set_option linter.unusedSimpArgs false
open Go.RowKit
def negZ (Z : Nat → Int) : Nat → Int := fun k => -(Z k)
theorem goU_neg {N : Nat} {Z : Nat → Int} {m : Int} (h : OkC N Z m) : ∀ k, k ≤ N → GoU m (putL k (negZ Z))
  | 0, _ => .nil
  | k + 1, hk => by
    rw [putL_succ]
    have hk' : k < N := by omega
    have h3 := (okC_facts h).2.2 (Z k) ⟨k, hk', rfl⟩
    have h4 := ofC_iff.1 h3.1
    have h5 := ofC_iff.1 h3.2
    refine .push _ _ (goU_neg h k (by omega)) (ofC_iff.2 ⟨by unfold negZ; omega, by unfold negZ; omega, by unfold negZ; omega⟩) (atU_before fun j hj => ?_)
    have hl := ab6_up h k hk' j hj
    have h6 := ofC_iff.1 ((okC_facts h).2.2 (Z j) ⟨j, by omega, rfl⟩).2
    rw [ab6_in (by omega) (by omega), ab6_in (by omega) (by omega)] at hl
    unfold negZ
    split at hl <;> split at hl <;> omega
/-- the clause follows by unit propagation -/
noncomputable def rupB (n : Nat) (L : Lls) (m : Int) (N : Nat) (Z : Nat → Int) : Bool := @decide (okC N Z m = true ∧ ∃ l, UnR n L m (putL N (negZ Z)) l true) (Classical.propDecidable _)
theorem rupB_no {n : Nat} {L : Lls} {m : Int} {N : Nat} {Z : Nat → Int} (h : ¬ (okC N Z m = true ∧ ∃ l, UnR n L m (putL N (negZ Z)) l true)) : rupB n L m N Z = false := by
  unfold rupB; exact @decide_eq_false _ (Classical.propDecidable _) h
theorem rupB_is {n : Nat} {L : Lls} {m : Int} {N : Nat} {Z : Nat → Int} {l : List Int} {r : Bool} (h : okC N Z m = true) (hu : UnR n L m (putL N (negZ Z)) l r) : rupB n L m N Z = r := by
  unfold rupB
  cases r with
  | true => exact @decide_eq_true _ (Classical.propDecidable _) ⟨h, l, hu⟩
  | false => exact @decide_eq_false _ (Classical.propDecidable _) fun ⟨_, l', h'⟩ => by have := (hu.det h').2; cases this
theorem vals_neg (k : Nat) (Z : Nat → Int) : valsI (putL k (negZ Z)) ++ [.int .i64 (-(Z k))] = valsI (putL (k + 1) (negZ Z)) := by
  rw [putL_succ]; unfold valsI; rw [List.map_append]; rfl
theorem negZ_getD {N t : Nat} {Z : Nat → Int} (h : t < N) : (putL N (negZ Z)).getD t 0 = negZ Z t := by
  unfold putL
  rw [List.getD_eq_getElem?_getD, List.getElem?_map, List.getElem?_range h]
  rfl
theorem OwnI.congrU {W w : World} {A : Option Addr} {n : Nat} {Z Y : Nat → Int} (e : ∀ k, k < n → Z k = Y k) (h : OwnI W w A n Z) : OwnI W w A n Y := by
  rcases h with h | ⟨g, ha, h1, h2, hc⟩
  · exact .inl h
  · exact .inr ⟨g, ha, h1, h2, fun k hk => by rw [← e k hk]; exact hc k hk⟩
theorem run_load2U {P : Program} {o : Oper} {ty : TypeId} {x : Operand} (ho : o.op = .load ty x) {a : Act} {b : Nat} (hx : a.eval x = .pointer (some ⟨b, 0, none⟩)) {d : TypeDesc} (hu : P.underlying ty = some d) (hd : d.isRow = true) (hi : (P.info? ty).map (·.size) = some 2) {x0 x1 : Value} {w : World}
    (h0 : w.cell? ⟨b, 0, none⟩ = some x0) (h1 : w.cell? ⟨b, 1, none⟩ = some x1) : (execOp a.eval o).run P w = .ok (.value (.agg #[x0, x1])) w := by
  have hc : w.rangeAt b 0 [x0, x1] := fun j v hv => by
    match j, hv with
    | 0, hv => simp at hv; subst hv; simpa using h0
    | 1, hv => simp at hv; subst hv; simpa using h1
    | j + 2, hv => simp at hv
  have hl := run_loadVar_mid (P := P) w b 0 ty [x0, x1] d hc hu hd hi
  unfold execOp
  simp only [ho, hx, Instr.loadAt, Instr.sureAddr, Sem.run_bind, Sem.run_pure, Result.andThen_ok, hl]
set_option maxHeartbeats 4000000 in
theorem snots_any (B : Option Addr) (N cB : Nat) (Z : Nat → Int) (w : World) (hN : N ≤ 1000000) (hB : Ints w B N Z) (hb : ∀ k, k < N → -9223372036854775807 ≤ Z k ∧ Z k ≤ 9223372036854775807) :
    Calls Try.prog 46 #[.slice B N cB] w fun e w' => (∃ A c, e = .returned (.slice A N c) ∧ N ≤ c ∧ OwnI w w' A N (negZ Z)) ∧ Below w.heap.size w w' := by
  obtain ⟨i0, hi, hz0, hz1, hz2⟩ := info_parts infoI
  have HI := hid hi; clear hi
  have HB := hid hb; clear hb
  have hE := hid (own_empU w 3 w.heap.size (Nat.le_refl _))
  have qE := bal (Below.refl w.heap.size w) (.cells #[] 3)
  go_enter Try.func46, Try.ntmps46
  go_wp2
  go_loopw [3, 4] (fun v i wr => ∃ k : Nat, k ≤ N ∧ i = .int .i64 k ∧ wr.ownsRow w.heap.size 3 1 v k (valsI (putL k (negZ Z))) ∧ Below w.heap.size w wr) (fun _ i _ => N - (intOf i).toNat)
  case atStart => exact ⟨0, Nat.zero_le _, rfl, hE.out, qE⟩
  case round =>
    clear qE hE
    obtain ⟨k, hk, rfl, hown, hq⟩ := hrel
    by_cases hlt : k < N
    · rcases hB with h0 | ⟨g, off, rfl, hg, hcB⟩
      · omega
      have c1 := carry hq (hcB k hlt)
      obtain ⟨b1, b2⟩ := HB.out k hlt
      obtain ⟨av, cv, rfl⟩ := own_sliceU hown
      have CX := bal (Below.refl wr.heap.size wr) (.cells #[.int .i64 (-(Z k))] 3)
      have hO1 := hid (own_belowU CX hown)
      have hnews := news_one wr (.int .i64 (-(Z k))) 3
      have q2 := btr hq CX
      have hs2 := q2.size
      clear hcB hown
      go_wp2_with (at_builtin; refine wpList_appendU rfl _ _ 38 rfl w.heap.size 3 i0 (.int .i64 0) 1 8 Try.underlying38 HI.out hz0 hz1 hz2 rfl (by decide) (.slice av k cv) k (valsI (putL k (negZ Z))) rfl hO1.out ⟨wr.heap.size, 0, none⟩ 1 1 [.int .i64 (-(Z k))] rfl rfl hnews (fun u hu => by simp at hu; subst hu; rfl) (by unfold maxLen; omega) (by omega) hs2 ?_; intro v' w5 hown5 hgrow5 hfresh5)
      go_roundw
      case rel => exact ⟨k + 1, by omega, by go_num, by rw [← vals_neg]; exact hown5, q2.grown hgrow5 hs2 (fun r hr => (hO1.out.lt r hr).1)⟩
      case measure => simp [intOf]; omega
    · have hke : k = N := by omega
      subst hke
      obtain ⟨A', c', rfl, hO⟩ := own_intsC (l := putL k (negZ Z)) (W := w) (Nat.le_refl _) (by rw [putL_len]; exact hown)
      rw [putL_len] at hO
      have hcap : k ≤ c' := by
        obtain ⟨_, ⟨e, h0⟩ | ⟨g, cap, cur, e, _, _, h1, _⟩⟩ := hown
        · omega
        · rw [putL_len] at e
          injection e with _ _ e3
          omega
      have HO := hid (OwnI.congrU (fun t ht => negZ_getD ht) hO)
      rw [putL_len]
      clear hown hO
      go_wp2
      go_ret
      exact ⟨⟨A', c', rfl, hcap, HO.out⟩, hq⟩
theorem cnfrup_put (N : Nat) (Z : Nat → Int) {m : Int} (h : OkC N Z m) : GoU m (putL N (negZ Z)) := goU_neg h N (Nat.le_refl _)
set_option maxHeartbeats 8000000 in
set_option maxRecDepth 100000 in
theorem cnfrup_any (A : Option Addr) (n c : Nat) (L : Lls) (m : Int) (B : Option Addr) (N cB : Nat) (Z : Nat → Int) (w : World) (hn : n ≤ 9223372036854775807) (hA : IntSS w A n L) (hN : N ≤ 9223372036854775807) (hB : Ints w B N Z) :
    Calls Try.prog 30 #[.agg #[.int .i64 m, .slice A n c], .slice B N cB] w fun e w' => e = .returned (.bool (rupB n L m N Z)) ∧ Below w.heap.size w w' := by
  have q0 := bal (Below.refl w.heap.size w) (.cells #[.int .i64 m, .slice A n c] 31)
  obtain ⟨c0, c1⟩ := pair_new w (.int .i64 m) (.slice A n c) 31
  have hz := World.size_alloc w (.cells #[.int .i64 m, .slice A n c] 31)
  have hK := fun W (h : Below w.heap.size w W) => clauseok_any B N cB Z m W hN (hB.below h)
  generalize hres : rupB n L m N Z = res
  have HRES := hid hres; clear hres
  go_enter Try.func30, Try.ntmps30
  go_upto_region 1 with fail
  generalize w.alloc (.cells #[.int .i64 m, .slice A n c] 31) = w1 at *
  cases hok : okC N Z m
  · rw [hok] at hK
    have HF := hid (show rupB n L m N Z = false from rupB_no fun h => by rw [hok] at h; cases h.1)
    clear hok hz
    go_wp2_with (go_at_call 47; refine (hK _ q0).mono ?_; rintro e w2 ⟨rfl, rfl⟩)
    go_ret
    exact ⟨ret_bool (HF.out.symm.trans HRES.out), q0⟩
  · rw [hok] at hK
    have HOK := hid hok
    have hN60 := (okC_facts (okC_iff.1 hok)).1
    obtain ⟨i0, hi, hz0, hz1, hz2⟩ := info_parts infoI
    have HI := hid hi; clear hi
    have hlo1 : w.heap.size + 1 ≤ w1.heap.size := by omega
    clear hok hz
    go_wp2_with fail
    refine (hK _ q0).mono ?_
    rintro e w2 ⟨rfl, rfl⟩
    clear hK
    go_wp2
    go_loopw [5, 17] (fun v i wr => ∃ k : Nat, k ≤ N ∧ i = .int .i64 k ∧ wr.ownsRow (w.heap.size + 1) 3 1 v k (valsI (putL k (negZ Z))) ∧ Below w.heap.size w wr ∧ w.heap.size + 1 ≤ wr.heap.size ∧ wr.cell? ⟨w.heap.size, 0, none⟩ = some (.int .i64 m) ∧ wr.cell? ⟨w.heap.size, 1, none⟩ = some (.slice A n c)) (fun _ i _ => N - (intOf i).toNat)
    case atStart => exact ⟨0, Nat.zero_le _, rfl, World.ownsRow_nil _ _ _ _, q0, hlo1, c0, c1⟩
    case round =>
      clear q0 hlo1 c0 c1
      obtain ⟨k, hk, rfl, hown, hq, hlo, d0, d1⟩ := hrel
      by_cases hlt : k < N
      · rcases hB with h0 | ⟨g, off, rfl, hg, hcB⟩
        · omega
        have c1 := carry hq (hcB k hlt)
        have hbd := ofC_iff.1 ((okC_facts (okC_iff.1 HOK.out)).2.2 (Z k) ⟨k, hlt, rfl⟩).2
        obtain ⟨av, cv, rfl⟩ := own_sliceU hown
        have CX := bal (Below.refl wr.heap.size wr) (.cells #[.int .i64 (-(Z k))] 3)
        have hO1 := hid (own_belowU CX hown)
        have hnews := news_one wr (.int .i64 (-(Z k))) 3
        have q2 := btr hq CX
        have hs2 := Nat.le_trans hlo CX.size
        have e0 := carry CX d0
        have e1 := carry CX d1
        clear hcB hown d0 d1
        go_wp2_with (at_builtin; refine wpList_appendU rfl _ _ 38 rfl (w.heap.size + 1) 3 i0 (.int .i64 0) 1 8 Try.underlying38 HI.out hz0 hz1 hz2 rfl (by decide) (.slice av k cv) k (valsI (putL k (negZ Z))) rfl hO1.out ⟨wr.heap.size, 0, none⟩ 1 1 [.int .i64 (-(Z k))] rfl rfl hnews (fun u hu => by simp at hu; subst hu; rfl) (by unfold maxLen; omega) (by omega) hs2 ?_; intro v' w5 hown5 hgrow5 hfresh5)
        go_roundw
        case rel =>
          have hne : ∀ o, some (⟨w.heap.size, o, none⟩ : Addr).block ≠ (Value.slice av k cv).ownBlock := fun o e => by
            have := (hO1.out.lt _ e.symm).1
            simp at this
            omega
          exact ⟨k + 1, by omega, by go_num, by rw [← vals_neg]; exact hown5, q2.grown hgrow5 q2.size (fun r hr => by have := (hO1.out.lt r hr).1; omega), Nat.le_trans hs2 hgrow5.size, hgrow5.cell e0 (hne 0), hgrow5.cell e1 (hne 1)⟩
        case measure => simp [intOf]; omega
      · have hke : k = N := by omega
        subst hke
        obtain ⟨A', c', rfl, hO⟩ := own_intsC (base := w.heap.size + 1) (l := putL k (negZ Z)) (W := w) (by omega) (by rw [putL_len]; exact hown)
        rw [putL_len] at hO
        have hI := (OwnI.congrU (fun t ht => negZ_getD ht) hO).ints'
        have hU := cnfunits_any A n c L m A' k c' (negZ Z) wr hn (hA.below hq) (by omega) hI
        rw [putL_len]
        clear hown hO hI
        go_wp2_with fail
        refine hU.mono ?_
        rintro e w4 ⟨⟨l, r, A4, c4, hu, rfl, _⟩, hq4⟩
        have HF := hid (rupB_is HOK.out hu)
        clear hu hU
        go_wp2
        go_ret
        exact ⟨ret_bool (HF.out.symm.trans HRES.out), btr hq hq4⟩
set_option maxHeartbeats 8000000 in
set_option maxRecDepth 100000 in
theorem scnfrup_any (A : Option Addr) (n c : Nat) (L : Lls) (m : Int) (B : Option Addr) (N cB : Nat) (Z : Nat → Int) (w : World) (hn : n ≤ 9223372036854775807) (hA : IntSS w A n L) (hN : N ≤ 9223372036854775807) (hB : Ints w B N Z) :
    Calls Try.prog 29 #[.agg #[.int .i64 m, .slice A n c], .slice B N cB] w fun e w' => e = .returned (.bool (rupB n L m N Z)) ∧ Below w.heap.size w w' := by
  have q0 := bal (Below.refl w.heap.size w) (.cells #[.int .i64 m, .slice A n c] 31)
  obtain ⟨c0, c1⟩ := pair_new w (.int .i64 m) (.slice A n c) 31
  have hK := fun W (h : Below w.heap.size w W) => scnfok_any A n c L m W hn (hA.below h)
  have hC := fun W (h : Below w.heap.size w W) => sclauseok_any B N cB Z m W hN (hB.below h)
  generalize hres : rupB n L m N Z = res
  have HRES := hid hres; clear hres
  go_enter Try.func29, Try.ntmps29
  go_upto_region 1 with fail
  generalize w.alloc (.cells #[.int .i64 m, .slice A n c] 31) = w1 at *
  cases hcn : cnB n L m
  · rw [hcn] at hK
    have HF := hid (show rupB n L m N Z = false from rupB_no fun ⟨_, l, h⟩ => by
      rcases h with ⟨h, _⟩ | ⟨_, _, h⟩
      · rw [hcn] at h; cases h
      · cases h)
    clear hcn
    go_wp2_with (go_at_call 32; refine (hK _ q0).mono ?_; rintro e w2 ⟨rfl, hq⟩)
    go_ret
    exact ⟨ret_bool (HF.out.symm.trans HRES.out), btr q0 hq⟩
  · rw [hcn] at hK
    have HCN := hid hcn; clear hcn
    cases hok : okC N Z m
    · rw [hok] at hC
      have HF := hid (show rupB n L m N Z = false from rupB_no fun h => by rw [hok] at h; cases h.1)
      clear hok
      go_wp2_with fail
      refine (hK _ q0).mono ?_
      rintro e w2 ⟨rfl, hq⟩
      have d0 := carry hq c0
      replace q0 := btr q0 hq
      clear c0 c1 hq
      go_wp2_with (go_at_call 45; refine (hC _ q0).mono ?_; rintro e w2 ⟨rfl, rfl⟩)
      go_ret
      exact ⟨ret_bool (HF.out.symm.trans HRES.out), q0⟩
    · rw [hok] at hC
      have HOK := hid hok; clear hok
      obtain ⟨n4, m0, m60, hL, hL6, hInj⟩ := cn_facts HCN.out
      have hOk := okC_iff.1 HOK.out
      have hN60 := (okC_facts hOk).1
      have hG := (cnfrup_put N Z hOk).mono m60
      have hNt := fun W (h : Below w.heap.size w W) => snots_any B N cB Z W (by omega) (hB.below h) (fun k hk => by have := ofC_iff.1 ((okC_facts hOk).2.2 (Z k) ⟨k, hk, rfl⟩).2; omega)
      have hU := fun A' c' W (h : Below w.heap.size w W) hI => sunits_any A n c L m A' N c' (negZ Z) W n4 (hA.below h) hL hL6 hInj hI hG
      have HG := hid (cnfrup_put N Z hOk)
      clear hL hL6 hInj hOk hG
      go_wp2_with fail
      refine (hK _ q0).mono ?_
      rintro e w2 ⟨rfl, hq⟩
      have d0 := carry hq c0
      have d1 := carry hq c1
      replace q0 := btr q0 hq
      clear c0 c1 hq hK
      go_wp2_with fail
      refine (hC _ q0).mono ?_
      rintro e w3 ⟨rfl, rfl⟩
      clear hC
      go_upto_region 3 with fail
      have qd := (Below.refl w2.heap.size w2).drew
      refine region_planC (fun W => W.cell? ⟨w.heap.size, 0, none⟩ = some (.int .i64 m) ∧ W.cell? ⟨w.heap.size, 1, none⟩ = some (.slice A n c)) (.takes [0, 1] (.make 2 (.make 3 (.takes [4, 5, 6, 7] .fin)))) 8 rfl (by kernel_rfl) ⟨carry qd d0, carry qd d1⟩ ?_
      replace d0 := carry qd d0
      replace d1 := carry qd d1
      have q3 := btr q0 qd
      clear qd q0
      generalize w2.drew = w3 at *
      refine plan_takes ?_; simp only [pickOps, List.getElem?_cons_zero, List.getElem?_cons_succ]
      refine quiet_doC rfl (.agg #[.int .i64 m, .slice A n c]) (fun W hW => by exact run_load2U rfl (by kernel_rfl) Try.underlying31 rfl (by kernel_rfl) hW.1 hW.2) ?_
      refine quiet_doC rfl (.slice B N cB) (fun W hW => by simp [execOp, go_sem]) ?_
      refine wpQuiet_nil ?_
      simp only [Act.put, List.setIfInBounds_toArray, List.set_cons_succ, List.set_cons_zero]
      refine planC_call rfl rfl 46 #[.slice B N cB] (by kernel_rfl) ((hNt _ q3).mono ?_)
      rintro e w4 ⟨⟨A4, c4, rfl, _, hO4⟩, hr⟩
      have d4 := carry hr d0
      have d5 := carry hr d1
      refine ⟨_, rfl, ⟨d4, d5⟩, ?_⟩
      have q4 := btr q3 hr
      have hU4 := hU A4 c4 w4 q4 hO4.ints'
      clear hU hNt hO4 d0 d1 hr
      simp only [Act.put, List.setIfInBounds_toArray, List.set_cons_succ, List.set_cons_zero]
      refine planC_call rfl rfl 39 #[.agg #[.int .i64 m, .slice A n c], .slice A4 N c4] (by kernel_rfl) (hU4.mono ?_)
      rintro e w5 ⟨⟨l, r, A5, c5, hu, rfl, _⟩, hq5⟩
      refine ⟨_, rfl, ⟨carry hq5 d4, carry hq5 d5⟩, ?_⟩
      have HF := hid (rupB_is HOK.out (show UnR n L m (putL N (negZ Z)) l r from .inl ⟨HCN.out, HG.out, hu⟩))
      clear hu hU4
      simp only [Act.put, List.setIfInBounds_toArray, List.set_cons_succ, List.set_cons_zero]
      refine plan_takes ?_; simp only [pickOps, List.getElem?_cons_zero, List.getElem?_cons_succ]
      refine quiet_doC rfl (.tuple #[.slice A5 l.length c5, .bool r]) (fun W hW => by simp [execOp, go_sem]) ?_
      refine quiet_doC rfl (.slice A5 l.length c5) (fun W hW => by simp [execOp, go_sem]) ?_
      refine quiet_doC rfl (.bool r) (fun W hW => by simp [execOp, go_sem]) ?_
      refine quiet_doC rfl (.slice A5 l.length c5) (fun W hW => by simp [execOp, go_sem]) ?_
      refine wpQuiet_nil ?_
      simp only [Act.put, List.setIfInBounds_toArray, List.set_cons_succ, List.set_cons_zero]
      refine plan_fin ?_
      simp only [List.drop_succ_cons, List.drop_zero, Act.put, List.setIfInBounds_toArray, List.set_cons_succ, List.set_cons_zero]
      go_wp2
      go_ret
      exact ⟨ret_bool (HF.out.symm.trans HRES.out), btr q4 hq5⟩
end Go.Proofs.Ytjnngijilkdhbaa
