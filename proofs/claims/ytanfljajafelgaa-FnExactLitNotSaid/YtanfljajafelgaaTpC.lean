/- Contract of the program's add: a term into a table. -/
import Derived.Test.YtanfljajafelgaaTpB
namespace Go.Proofs.Ytanfljajafelgaa
set_option linter.unusedVariables false
set_option linter.unusedSimpArgs false
open Go.RowKit
/-- no term has more than two parts -/
def Sm2 : Tm → Prop
  | .mk _ n kid => n ≤ 2 ∧ ∀ k, k < n → Sm2 (kid k)
  | .bad => False
def shV (s : Sh) (j : Nat) : Value := s.cells[j]?.getD undef
def setSh (s : Sh) (k i : Nat) : Sh := if k = 0 then ⟨s.nm, i, s.b, s.c⟩ else ⟨s.nm, s.a, i, s.c⟩
theorem shV_set {s : Sh} {k i : Nat} (hk : k < 2) : ∀ j, j < 4 → (if j = 1 + k then .int .i64 (i : Int) else shV s j) = shV (setSh s k i) j := by
  intro j hj
  have hk' : k = 0 ∨ k = 1 := by omega
  have hj' : j = 0 ∨ j = 1 ∨ j = 2 ∨ j = 3 := by omega
  rcases hk' with rfl | rfl <;> rcases hj' with rfl | rfl | rfl | rfl <;> rfl
theorem setSh_nm (s : Sh) (k i : Nat) : (setSh s k i).nm = s.nm ∧ (setSh s k i).c = s.c := by
  unfold setSh; split <;> exact ⟨rfl, rfl⟩
theorem setSh_kid {s : Sh} {k i j : Nat} (hk : k < 2) (hj : j < 2) : (setSh s k i).kid j = if j = k then i else s.kid j := by
  have hk' : k = 0 ∨ k = 1 := by omega
  have hj' : j = 0 ∨ j = 1 := by omega
  rcases hk' with rfl | rfl <;> rcases hj' with rfl | rfl <;> rfl
theorem getD_mem {P : List Tm} {i : Nat} (h : i < P.length) : P.getD i default ∈ P := by
  rw [List.getD_eq_getElem?_getD, List.getElem?_eq_getElem h]
  exact List.getElem_mem h
theorem mem_getD {P : List Tm} {u : Tm} (h : u ∈ P) : ∃ i, i < P.length ∧ P.getD i default = u := by
  obtain ⟨i, hi, e⟩ := List.mem_iff_getElem.1 h
  exact ⟨i, hi, by rw [List.getD_eq_getElem?_getD, List.getElem?_eq_getElem hi]; exact e⟩
theorem sumT_mono {f : Nat → Nat} {k : Nat} : ∀ {n : Nat}, k ≤ n → sumT k f ≤ sumT n f
  | 0, h => by
    have e : k = 0 := by omega
    rw [e]; exact Nat.le_refl _
  | n + 1, h => by
    by_cases e : k = n + 1
    · subst e; exact Nat.le_refl _
    · have := sumT_mono (f := f) (k := k) (n := n) (by omega)
      have h2 : sumT (n + 1) f = sumT n f + f n := rfl
      omega
/-- what add answers -/
def AddP (t : Tm) (b M lo : Nat) (P : List Tm) (v : Value) (w : World) (e : Ending) (w' : World) : Prop :=
  ∃ (i : Nat) (P' X : List Tm) (S' : List Sh) (v' : Value), e = .returned (.int .i64 i) ∧ AddT t P P' ∧ P' = P ++ X ∧ X.length ≤ tSz t ∧ i < P'.length ∧ TEq (P'.getD i default) t ∧ Tab w' b M lo P' S' v' ∧ Fr b M v w v' w'
theorem zeroI (w : World) : (zeroValue 3).run Try.prog w = .ok (.int .i64 0) w := by
  obtain ⟨i, hi, hzz⟩ := Option.map_eq_some_iff.1 infoI
  simp only [Prod.mk.injEq] at hzz
  obtain ⟨hz, _⟩ := hzz
  simp [zeroValue, typeInfo, hi, hz, Result.andThen]
set_option maxRecDepth 100000 in
set_option maxHeartbeats 8000000 in
theorem add_any : ∀ (t : Tm), Sm2 t → ∀ (A : Option Addr) (c b M lo : Nat) (P : List Tm) (S : List Sh) (v : Value) (w : World), KidT 0 w t A → Tab w b M lo P S v → lo ≤ w.heap.size → P.length + tSz t ≤ 1073741824 →
    Calls Try.prog 172 #[.pointer (some ⟨b, 0, none⟩), .agg #[.string t.nm, .slice A t.n c]] w (AddP t b M lo P v w) := by
  intro t
  induction t with
  | bad => intro h; exact False.elim h
  | mk nm n kid ih =>
    rintro ⟨hn2, hsm⟩ A c b M lo P S v w hA hT hlo hlen
    show Calls _ _ #[.pointer (some ⟨b, 0, none⟩), .agg #[.string nm, .slice A n c]] w _
    have IH := hid ih; have HSM := hid hsm
    rw [tSz] at hlen
    have HLEN := hid hlen
    clear ih hsm hlen
    have hq2 := bal (bal (Below.refl w.heap.size w) (.cells #[.string nm, .slice A n c] 76)) (.cells #[.string nm, .int .i64 0, .int .i64 0, .int .i64 n] 280)
    have hT2 := hT.below hq2
    have hR5 : ((w.alloc (.cells #[.string nm, .slice A n c] 76)).alloc (.cells #[.string nm, .int .i64 0, .int .i64 0, .int .i64 n] 280)).rowIs (w.heap.size + 1) 280 4 (shV ⟨nm, 0, 0, n⟩) := by
      have h := World.rowIs_alloc (w.alloc (.cells #[.string nm, .slice A n c] 76)) #[.string nm, .int .i64 0, .int .i64 0, .int .i64 n] 280 (shV ⟨nm, 0, 0, n⟩) (fun i hi => by
        have hi' : i < 4 := hi
        have : i = 0 ∨ i = 1 ∨ i = 2 ∨ i = 3 := by omega
        rcases this with rfl | rfl | rfl | rfl <;> rfl)
      rw [World.size_alloc] at h
      exact h
    have hz2 : ((w.alloc (.cells #[.string nm, .slice A n c] 76)).alloc (.cells #[.string nm, .int .i64 0, .int .i64 0, .int .i64 n] 280)).heap.size = w.heap.size + 2 := by simp
    have c31 : ((w.alloc (.cells #[.string nm, .slice A n c] 76)).alloc (.cells #[.string nm, .int .i64 0, .int .i64 0, .int .i64 n] 280)).cell? ⟨w.heap.size, 1, none⟩ = some (.slice A n c) := by simp [go_sem]
    have hb5 := hT.lt
    have hv5 : v.ownBlock ≠ some (w.heap.size + 1) := fun e => by
      obtain ⟨cs, hc⟩ := hT.rowTy e
      have := (Array.getElem?_eq_some_iff.1 hc).1
      omega
    have hfr := hid ((Fr.refl b M v w).below hq2)
    have HT2 := hid hT2; have HR5 := hid hR5; have HT := hid hT; have HA := hid hA
    have HZ2 := hid hz2
    clear hT hA hT2 hR5 hq2 hz2
    have C31 := hid c31; clear c31
    go_enter Try.func172, Try.ntmps172
    go_upto_region 2 with fail
    have c31 := C31.out
    have l31 := cell_lt c31
    generalize (w.alloc (.cells #[.string nm, .slice A n c] 76)).alloc (.cells #[.string nm, .int .i64 0, .int .i64 0, .int .i64 n] 280) = w2 at *
    have hst0 := hid (show ∃ (P1 X : List Tm) (S1 : List Sh) (v1 : Value) (s : Sh), AddK (fun k => AddT (kid k)) 0 P P1 ∧ P1 = P ++ X ∧ X.length ≤ sumT 0 (fun k => tSz (kid k)) ∧ Tab w2 b M lo P1 S1 v1 ∧ Fr b M v w v1 w2 ∧ w2.rowIs (w.heap.size + 1) 280 4 (shV s) ∧ s.nm = nm ∧ s.c = n ∧ (∀ j, j < 0 → s.kid j < P1.length ∧ TEq (P1.getD (s.kid j) default) (kid j)) ∧ (∀ j, 0 ≤ j → j < 2 → s.kid j = 0) ∧ v1.ownBlock ≠ some (w.heap.size + 1) from
      ⟨P, [], S, v, ⟨nm, 0, 0, n⟩, rfl, by simp, Nat.le_refl _, HT2.out, hfr.out, HR5.out, rfl, rfl, fun j hj => absurd hj (by omega), fun j _ hj => by
        have : j = 0 ∨ j = 1 := by omega
        rcases this with rfl | rfl <;> rfl, hv5⟩)
    clear C31 hv5
    have HZ := hid (show w.heap.size + 1 < w2.heap.size by rw [HZ2.out]; omega)
    go_wp2
    go_loopw [20] (fun i wr => ∃ k : Nat, k ≤ n ∧ i = .int .i64 k ∧ ∃ (P1 X : List Tm) (S1 : List Sh) (v1 : Value) (s : Sh), AddK (fun k => AddT (kid k)) k P P1 ∧ P1 = P ++ X ∧ X.length ≤ sumT k (fun k => tSz (kid k)) ∧ Tab wr b M lo P1 S1 v1 ∧ Fr b M v w v1 wr ∧ wr.rowIs (w.heap.size + 1) 280 4 (shV s) ∧ s.nm = nm ∧ s.c = n ∧ (∀ j, j < k → s.kid j < P1.length ∧ TEq (P1.getD (s.kid j) default) (kid j)) ∧ (∀ j, k ≤ j → j < 2 → s.kid j = 0) ∧ v1.ownBlock ≠ some (w.heap.size + 1)) (fun i _ => n - (intOf i).toNat)
    case atStart => exact ⟨0, Nat.zero_le _, rfl, hst0.out⟩
    case round =>
      obtain ⟨k, hk, rfl, P1, X, S1, v1, s, hK, hX, hXl, hT1, hF1, hR1, hs0, hs1, hs2, hs3, hv1⟩ := hrel
      have HK := hid hK; have HX := hid hX; have HXl := hid hXl; have HT1 := hid hT1; have HF1 := hid hF1; have HR1 := hid hR1; have HS0 := hid hs0; have HS1 := hid hs1; have HS2 := hid hs2; have HS3 := hid hs3; have HV1 := hid hv1
      clear hK hX hXl hF1 hs0 hs1 hs2 hs3 hv1
      have hTl := hT1.lt
      have hw5 := hR1.lt
      have hb1 := hT1.bM
      by_cases hlt : k < n
      · have hAk : KidT 0 wr (.mk nm n kid) A := HA.out.keep (Fr.kpt HT.out HF1.out)
        rcases hAk with h0 | ⟨g, off, cs, rfl, _, hg, hc⟩
        · omega
        obtain ⟨a, cc, y0, y1, y2, y3, y4⟩ := hc k hlt
        have b0 : wr.cell? ⟨g, off + k * 2, none⟩ = some (.string (kid k).nm) := by simp [World.cell?, hg, y0]
        have b1 : wr.cell? ⟨g, off + k * 2 + 1, none⟩ = some (.slice a (kid k).n cc) := by simp [World.cell?, hg, y1]
        have hB7 := bal (Below.refl wr.heap.size wr) (.cells #[.string (kid k).nm, .slice a (kid k).n cc] 76)
        have hsum := sumT_mono (f := fun k => tSz (kid k)) (show k + 1 ≤ n from hlt)
        rw [sumT] at hsum
        have hXX := HX.out
        have hPl : P1.length = P.length + X.length := by rw [hXX, List.length_append]
        have hXlen := HXl.out
        have hLEN := HLEN.out
        have hsz := HF1.out.size
        have IHk := hid (IH.out k (HSM.out k hlt) a cc b M lo P1 S1 v1 _ (y4.keep (KpT.below hB7)) (HT1.out.below hB7) (by simp; omega) (by omega))
        have HB7 := hid hB7
        clear hc y0 y1 y2 y3 y4 hB7 hsum hXX hPl hXlen hLEN hT1
        have lg := cell_lt b0
        have hx7 : (wr.alloc (.cells #[.string (kid k).nm, .slice a (kid k).n cc] 76)).heap.size = wr.heap.size + 1 := by simp
        have HX7 := hid hx7; clear hx7
        have IHK : Calls Try.prog 172 #[.pointer (some ⟨b, 0, none⟩), .agg #[.string (kid k).nm, .slice a (kid k).n cc]] (wr.alloc (.cells #[.string (kid k).nm, .slice a (kid k).n cc] 76)) _ := IHk.out
        clear IHk
        go_wp2_with fail
        refine IHK.mono ?_
        clear IHK
        rintro e w1 ⟨i, P2, X2, S2, v2, rfl, hAdd, hP2, hX2, hi2, hTe, hT2', hF2⟩
        have hx5 : w1.heap[w.heap.size + 1]? = wr.heap[w.heap.size + 1]? :=
          (hF2.block _ (by rw [HX7.out]; omega) (by omega) (by omega) HV1.out).trans ((HB7.out).block _ hw5)
        have hR' := HR1.out.of_block hx5
        have c5 := hR'.cell (i := 1 + k) (by omega)
        have f5 : w1.frozen? ⟨w.heap.size + 1, 1 + k, none⟩ = false := hR'.frozen _
        have hv2 : v2.ownBlock ≠ some (w.heap.size + 1) := fun e => by
          rcases hF2.own _ e with h | h
          · exact HV1.out h
          · rw [HX7.out] at h; omega
        have HAdd := hid hAdd; have HP2 := hid hP2; have HX2 := hid hX2; have HTe := hid hTe; have HT2' := hid hT2'; have HF2 := hid hF2; have HR' := hid hR'; have HV2 := hid hv2; have HI2 := hid hi2
        clear hAdd hP2 hX2 hTe hT2' hF2 hR' hv2 b0 b1
        go_wp2_with fail
        go_roundw
        case rel =>
          refine ⟨k + 1, by omega, by go_num, P2, X ++ X2, S2, v2, setSh s k i, ⟨P1, HK.out, HAdd.out⟩, by rw [HP2.out, HX.out, List.append_assoc], ?_, HT2'.out.setN (by omega) (by omega) HV2.out, ((HF1.out.below HB7.out).trans HF2.out).setN (Nat.le_succ _) _, (HR'.out.set (1 + k) _).congr (shV_set (by omega)), (setSh_nm _ _ _).1.trans HS0.out, (setSh_nm _ _ _).2.trans HS1.out, fun j hj => ?_, fun j h1 h2 => ?_, HV2.out⟩
          · rw [List.length_append, sumT]
            have h1 := HXl.out
            have h2 := HX2.out
            omega
          · rw [setSh_kid (by omega) (by omega)]
            by_cases e : j = k
            · rw [if_pos e, e]; exact ⟨HI2.out, HTe.out⟩
            · rw [if_neg e]
              obtain ⟨h1, h2⟩ := HS2.out j (by omega)
              rw [HP2.out, List.length_append, getD_app_left h1]
              exact ⟨by omega, h2⟩
          · rw [setSh_kid (by omega) h2, if_neg (by omega)]
            exact HS3.out j (by omega) h2
        case measure => simp [intOf]; omega
      · have hkn : k = n := by omega
        subst hkn
        have hTB := HT1.out.blk
        have t1 : wr.cell? ⟨b, 1, none⟩ = some (.map (some M)) := by simp [World.cell?, hTB]
        have t0 : wr.cell? ⟨b, 0, none⟩ = some v1 := by simp [World.cell?, hTB]
        have ft0 : wr.frozen? ⟨b, 0, none⟩ = false := by simp [World.frozen?, hTB]
        have p0 : wr.cell? ⟨w.heap.size + 1, 0, none⟩ = some (.string s.nm) := HR1.out.cell (i := 0) (by omega)
        have p1 : wr.cell? ⟨w.heap.size + 1, 1, none⟩ = some (.int .i64 s.a) := HR1.out.cell (i := 1) (by omega)
        have p2 : wr.cell? ⟨w.heap.size + 1, 2, none⟩ = some (.int .i64 s.b) := HR1.out.cell (i := 2) (by omega)
        have p3 : wr.cell? ⟨w.heap.size + 1, 3, none⟩ = some (.int .i64 s.c) := HR1.out.cell (i := 3) (by omega)
        have hSh := hid (show ShAt P1 s (.mk nm k kid) P1.length from ⟨HS0.out, HS1.out, hn2, HS2.out, fun j h1 h2 => HS3.out j h1 h2⟩)
        obtain ⟨F, hFm, hF1', hF2'⟩ := HT1.out.mp
        have hlk := fun (W : World) (h : W.heap[M]? = wr.heap[M]?) => (hFm.of_block h).look keyM_sh trivial Try.underlying191 (zeroI W) ⟨s, rfl⟩
        have HFM := hid hFm; have HFa := hid hF1'; have HFb := hid hF2'
        clear hTB hFm hF1' hF2' hT1
        have lb := hTl.1
        have gc := @gro_cell wr
        unfold Sh.key at hlk
        have hsame := hid (fun i hi => (HT1.out.ok.same hSh.out (i := i) hi))
        have hSl := hid HT1.out.ok.len
        go_upto_region 7 with fail
        refine region_plan (.takes [0, 1, 2, 3, 4] (.make 5 (.takes [6, 7, 8, 9] .fin))) 10 rfl (by kernel_rfl) ?_
        refine plan_takes ?_; simp only [pickOps, List.getElem?_cons_zero, List.getElem?_cons_succ]; (repeat (go_big_quiet_step (fail))); refine wpQuiet_nil ?_
        have hl0 := hlk wr.drew rfl
        have HLK := hid hlk
        clear hlk
        rcases hFs : F (.agg #[.string s.nm, .int .i64 s.a, .int .i64 s.b, .int .i64 s.c]) with _ | x
        · rw [hFs] at hl0
          simp only [Option.getD_none, Option.isSome_none] at hl0
          refine plan_val rfl rfl (.tuple #[.int .i64 0, .bool false]) (w'' := wr.drew) (by simp [execOp, go_sem, hl0]) (Below.refl _ _).drew ?_
          simp only [Act.put, List.setIfInBounds_toArray, List.set_cons_succ, List.set_cons_zero]
          refine plan_takes ?_; simp only [pickOps, List.getElem?_cons_zero, List.getElem?_cons_succ]; (repeat (go_big_quiet_step (fail))); refine wpQuiet_nil ?_
          refine plan_fin ?_
          simp only [List.drop_succ_cons, List.drop_zero, Act.put, List.setIfInBounds_toArray, List.set_cons_succ, List.set_cons_zero]
          clear gc hl0
          have hnone := hid (show ∀ i, i < P1.length → ¬ TEq (P1.getD i default) (.mk nm k kid) from fun i hi h => by
            have hse := (hsame.out i hi).2 h
            have hx := HFa.out i (by rw [hSl.out]; exact hi)
            rw [hse] at hx
            have := hFs.symm.trans hx
            cases this)
          have HFN : Hid (F s.key = none) := hid hFs
          clear hFs
          have qd := (Below.refl wr.heap.size wr).drew
          have hTd := HT1.out.below qd
          have hFd := hid (HF1.out.below qd)
          have hRd := hid (row_below HR1.out qd)
          replace t0 := carry qd t0
          replace t1 := carry qd t1
          replace p0 := carry qd p0
          replace p1 := carry qd p1
          replace p2 := carry qd p2
          replace p3 := carry qd p3
          have HTd := hid hTd
          have hw5d := hid (Nat.lt_of_lt_of_le hw5 qd.size)
          have hlod : lo ≤ wr.drew.heap.size := Nat.le_trans hlo (Nat.le_trans HF1.out.size qd.size)
          have hlbd := hid (Nat.lt_of_lt_of_le lb qd.size)
          clear qd hTd ft0
          have HMu := hid (show wr.drew.heap[M]? = wr.heap[M]? from rfl)
          generalize wr.drew = u at *
          have hv1s : ∃ a cc, v1 = .slice a S1.length cc := by
            obtain ⟨_, ⟨h, h0⟩ | ⟨g, cap, cur, h, _⟩⟩ := HTd.out.own
            · exact ⟨none, 0, by rw [h, h0]⟩
            · exact ⟨_, _, h⟩
          obtain ⟨va, vc, hv1e⟩ := hv1s
          subst hv1e
          have hPb := hid (show S1.length ≤ 1073741824 by
            have h1 := hSl.out; have h2 := HX.out; have h3 := HXl.out; have h4 := HLEN.out
            rw [h1, h2, List.length_append]; omega)
          go_upto_region 11 with fail
          obtain ⟨i0, hi, hz0, hz1, hz2⟩ := info_parts infoSh
          have KL : KcL [(b, 0, .slice va S1.length vc), (b, 1, .map (some M)), (w.heap.size + 1, 0, .string s.nm), (w.heap.size + 1, 1, .int .i64 s.a), (w.heap.size + 1, 2, .int .i64 s.b), (w.heap.size + 1, 3, .int .i64 s.c)] u := ⟨t0, t1, p0, p1, p2, p3, trivial⟩
          have qd := (Below.refl u.heap.size u).drew
          clear t0 t1 p0 p1 p2 p3
          refine region_planC (fun w' => KcL [(b, 0, .slice va S1.length vc), (b, 1, .map (some M)), (w.heap.size + 1, 0, .string s.nm), (w.heap.size + 1, 1, .int .i64 s.a), (w.heap.size + 1, 2, .int .i64 s.b), (w.heap.size + 1, 3, .int .i64 s.c)] w') (.takes [0, 1, 2, 3, 4, 5] (.make 6 (.make 7 (.takes [8, 9] .fin)))) 10 rfl (by kernel_rfl) (KL.below qd) ?_
          refine plan_takes ?_; simp only [pickOps, List.getElem?_cons_zero, List.getElem?_cons_succ]
          refine quiet_doC rfl (.pointer (some ⟨b, 0, none⟩)) (fun w' hw' => by simp [execOp, go_sem]) ?_
          refine quiet_doC rfl (.pointer (some ⟨b, 0, none⟩)) (fun w' hw' => by simp [execOp, go_sem]) ?_
          refine quiet_doC rfl (.pointer (some ⟨b, 0, none⟩)) (fun w' hw' => by simp [execOp, go_sem]) ?_
          refine quiet_doC rfl (.pointer (some ⟨b, 0, none⟩)) (fun w' hw' => by simp [execOp, go_sem]) ?_
          refine quiet_doC rfl (.slice va S1.length vc) (fun w' hw' => by have := hw'.1; simp [execOp, go_sem, this]) ?_
          refine quiet_doC rfl (.agg #[.string s.nm, .int .i64 s.a, .int .i64 s.b, .int .i64 s.c]) (fun w' hw' => run_load4 rfl (by kernel_rfl) Try.underlying280 rfl (by kernel_rfl) hw'.2.2.1 hw'.2.2.2.1 hw'.2.2.2.2.1 hw'.2.2.2.2.2.1) ?_
          refine wpQuiet_nil ?_
          replace KL := KL.below qd
          have hTe := hid (HTd.out.below qd)
          have hFe := hid (hFd.out.below qd)
          have hRe := hid (row_below hRd.out qd)
          have hloe : lo ≤ u.drew.heap.size := Nat.le_trans hlod qd.size
          clear qd
          have HMx0 := hid (show u.drew.heap[M]? = wr.heap[M]? from HMu.out)
          have hMlt := hTl.2
          have hus := hFd.out.size
          generalize u.drew = x at *
          have CX := bal (Below.refl x.heap.size x) (.cells #[.string s.nm, .int .i64 s.a, .int .i64 s.b, .int .i64 s.c] 280)
          refine planC_val rfl rfl (.slice (some ⟨x.heap.size, 0, none⟩) 1 1) (w'' := x.alloc (.cells #[.string s.nm, .int .i64 s.a, .int .i64 s.b, .int .i64 s.c] 280)) (by simp [execOp, go_sem]) (KL.below CX) ?_
          replace KL := KL.below CX
          have hTg := hid (hTe.out.below CX)
          have HMx := hid ((CX.block M hTe.out.lt.2).trans HMx0.out)
          have hFg := hid (hFe.out.below CX)
          have hRg := hid (row_below hRe.out CX)
          have hlog : lo ≤ (x.alloc (.cells #[.string s.nm, .int .i64 s.a, .int .i64 s.b, .int .i64 s.c] 280)).heap.size := Nat.le_trans hloe CX.size
          have hnews : ∀ (j : Nat) (u : Value), ([.string s.nm, .int .i64 s.a, .int .i64 s.b, .int .i64 s.c] : List Value)[j]? = some u → (x.alloc (.cells #[.string s.nm, .int .i64 s.a, .int .i64 s.b, .int .i64 s.c] 280)).cell? ((⟨x.heap.size, 0, none⟩ : Addr).add j) = some u := by
            intro j u h
            match j with
            | 0 => simp at h; subst h; simp [go_sem, Addr.add]
            | 1 => simp at h; subst h; simp [go_sem, Addr.add]
            | 2 => simp at h; subst h; simp [go_sem, Addr.add]
            | 3 => simp at h; subst h; simp [go_sem, Addr.add]
            | j + 4 => simp at h
          have hone : ∀ u ∈ ([.string s.nm, .int .i64 s.a, .int .i64 s.b, .int .i64 s.c] : List Value), u.oneCell' = true := fun u hu => by simp at hu; rcases hu with rfl | rfl | rfl | rfl <;> rfl
          have hS1l := hPb.out
          refine planC_append rfl rfl _ _ 190 rfl lo 280 i0 _ 4 40 Try.underlying190 hi hz0 hz1 hz2 rfl (by decide) (.slice va S1.length vc) S1.length (flatS S1) (by kernel_rfl) hTg.out.own ⟨x.heap.size, 0, none⟩ 1 1 [.string s.nm, .int .i64 s.a, .int .i64 s.b, .int .i64 s.c] (by kernel_rfl) rfl hnews hone (by unfold maxLen; omega) (by omega) hlog ?_
          intro v' w6 hown6 hgrow hfresh
          have hvs : ∃ a cc, v' = .slice a (S1.length + 1) cc := by
            obtain ⟨_, ⟨h, h0⟩ | ⟨g, cap, cur, h, _⟩⟩ := hown6
            · exact absurd h0 (by omega)
            · exact ⟨_, _, h⟩
          obtain ⟨va', vc', hve⟩ := hvs
          subst hve
          have hrb := hTg.out.rowB
          have KL6 := KL.keep hgrow (fun e he r hr => by
            simp at he
            rcases he with rfl | rfl | rfl | rfl | rfl | rfl
            · exact fun e => hrb.1 (by rw [hr]; exact congrArg some e.symm)
            · exact fun e => hrb.1 (by rw [hr]; exact congrArg some e.symm)
            · exact fun e => HV1.out (by rw [hr]; exact congrArg some e.symm)
            · exact fun e => HV1.out (by rw [hr]; exact congrArg some e.symm)
            · exact fun e => HV1.out (by rw [hr]; exact congrArg some e.symm)
            · exact fun e => HV1.out (by rw [hr]; exact congrArg some e.symm))
          refine ⟨KL6, ?_⟩
          refine plan_takes ?_; simp only [pickOps, List.getElem?_cons_zero, List.getElem?_cons_succ, Act.put, List.setIfInBounds_toArray, List.set_cons_succ, List.set_cons_zero]
          refine quiet_doC rfl (.pointer (some ⟨b, 0, none⟩)) (fun w' hw' => by simp [execOp, go_sem]) ?_
          refine quiet_doC rfl (.pointer (some ⟨b, 0, none⟩)) (fun w' hw' => by simp [execOp, go_sem]) ?_
          refine wpQuiet_nil ?_
          refine plan_fin ?_
          simp only [List.drop_succ_cons, List.drop_zero, Act.put, List.setIfInBounds_toArray, List.set_cons_succ, List.set_cons_zero]
          have hbl := hTg.out.lt
          have hb6 : w6.heap[b]? = some (.cells #[.slice va S1.length vc, .map (some M)] 193 (0, 0)) := (hgrow.block b hbl.1 (fun e => hrb.1 e.symm)).trans hTg.out.blk
          have t0 := KL6.1
          have ft0 : w6.frozen? ⟨b, 0, none⟩ = false := by simp [World.frozen?, hb6]
          have hvb : (Value.slice va' (S1.length + 1) vc').ownBlock ≠ some b := fun e => by
            rcases hfresh b e with h | h
            · exact hrb.1 h
            · omega
          have hvM : (Value.slice va' (S1.length + 1) vc').ownBlock ≠ some M := fun e => by
            rcases hfresh M e with h | h
            · exact hrb.2 h
            · omega
          have hb7 : (w6.setCell ⟨b, 0, none⟩ (.slice va' (S1.length + 1) vc')).heap[b]? = some (.cells #[.slice va' (S1.length + 1) vc', .map (some M)] 193 (0, 0)) := by simp [World.setCell, Array.getElem?_modify, hb6]
          have hown7 := own_setT2 (o := 0) (u := .slice va' (S1.length + 1) vc') hvb hown6
          have hM7 : (w6.setCell ⟨b, 0, none⟩ (.slice va' (S1.length + 1) vc')).heap[M]? = wr.heap[M]? := (Deep.blk_setCell_other _ _ _ _ (by simp only; omega)).trans ((hgrow.block M hbl.2 (fun e => hrb.2 e.symm)).trans HMx.out)
          have hF7 : Fr b M v w (.slice va' (S1.length + 1) vc') (w6.setCell ⟨b, 0, none⟩ (.slice va' (S1.length + 1) vc')) := by
            refine (hFg.out.trans ⟨hgrow.os, hgrow.tape, hgrow.output, hgrow.size, fun k hk _ _ h3 => hgrow.block k hk (fun e => h3 e.symm), hfresh⟩).trans (v1 := .slice va' (S1.length + 1) vc') (w1 := w6) ⟨rfl, rfl, rfl, by simp [World.setCell], fun k hk h1 _ _ => Deep.blk_setCell_other _ _ _ _ (by simp only; omega), fun _ h => .inl h⟩
          have KL7 : KcL [(b, 1, .map (some M)), (w.heap.size + 1, 0, .string s.nm), (w.heap.size + 1, 1, .int .i64 s.a), (w.heap.size + 1, 2, .int .i64 s.b), (w.heap.size + 1, 3, .int .i64 s.c)] (w6.setCell ⟨b, 0, none⟩ (.slice va' (S1.length + 1) vc')) := by
            obtain ⟨_, q1, q2, q3, q4, q5, _⟩ := KL6
            simp only at q1 q2 q3 q4 q5
            refine ⟨?_, ?_, ?_, ?_, ?_, trivial⟩ <;> (rw [World.cell?_setCell_other _ _ _ _ (by simp <;> omega)]; assumption)
          have HB7 := hid hb7; have HO7 := hid hown7; have HM7 := hid hM7; have HF7 := hid hF7; have HK7 := hid KL7; have HVB := hid hvb; have HVM := hid hvM
          clear hb7 hown7 hM7 hF7 KL7 hgrow hfresh hown6 KL6 hrb hb6 KL hnews hone CX hlog hlod hloe hvb hvM
          go_upto_region 12 with fail
          clear t0 ft0
          generalize w6.setCell ⟨b, 0, none⟩ (.slice va' (S1.length + 1) vc') = w7 at *
          obtain ⟨q1, q2, q3, q4, q5, _⟩ := HK7.out
          simp only at q1 q2 q3 q4 q5
          have lb7 := cell_lt q1
          have lx7 := cell_lt q2
          have gc := @gro_cell w7
          refine region_plan (.takes [0, 1, 2, 3, 4, 5] .fin) 6 rfl (by kernel_rfl) ?_
          refine plan_takes ?_; simp only [pickOps, List.getElem?_cons_zero, List.getElem?_cons_succ]; (repeat (go_big_quiet_step (fail))); refine wpQuiet_nil ?_
          refine plan_fin ?_
          simp only [List.drop_succ_cons, List.drop_zero, Act.put, List.setIfInBounds_toArray, List.set_cons_succ, List.set_cons_zero]
          clear gc lb7 lx7 q1 q2 q3 q4 q5
          have qd := (Below.refl w7.heap.size w7).drew
          have hFM8 := hid (HFM.out.of_block (show w7.drew.heap[M]? = wr.heap[M]? from HM7.out))
          obtain ⟨w8, F', hrun, hS, ho8, hg8⟩ := hFM8.out.put keyM_sh trivial Try.underlying191 (k := s.key) ⟨s, rfl⟩ (.int .i64 S1.length)
          unfold Sh.key at hrun
          refine wpList_putM _ rfl _ _ _ _ rfl _ _ M w8 rfl rfl rfl hrun ?_
          go_wp2
          go_ret
          have hSP := hSl.out
          have hbM : b ≠ M := hb1
          refine ⟨S1.length, P1 ++ [.mk nm k kid], X ++ [.mk nm k kid], S1 ++ [s], .slice va' (S1.length + 1) vc', rfl, ⟨P1, HK.out, .inr ⟨fun ⟨u, hu, he⟩ => ?_, rfl⟩⟩, by rw [HX.out, List.append_assoc], ?_, by rw [List.length_append, hSP]; simp, ?_, ⟨?_, ?_, ⟨F', ho8, fun i hi => ?_, fun k' x' hk' => ?_⟩, HT1.out.ok.push hSh.out hnone.out⟩, ?_⟩
          · obtain ⟨i, hi, rfl⟩ := mem_getD hu
            exact hnone.out i hi he
          · rw [List.length_append, tSz]
            have h1 := HXl.out
            simp only [List.length_cons, List.length_nil]
            omega
          · rw [hSP, getD_app_new]; exact TEq.refl _
          · exact (hg8.block b (Array.getElem?_eq_some_iff.1 HB7.out).1 (fun e => hbM (Option.some.inj e))).trans HB7.out
          · rw [flatS_app, List.length_append]
            have h1 := (own_belowT qd HO7.out).kept hg8 (.inr (HVM.out))
            exact h1
          · rw [List.length_append] at hi
            simp only [List.length_cons, List.length_nil] at hi
            by_cases e : i < S1.length
            · rw [getD_app_left e]
              have hne : (S1.getD i default).key ≠ s.key := fun h => by
                have := HFa.out i e
                rw [h] at this
                have := HFN.out.symm.trans this
                cases this
              rw [hS.other _ hne]
              exact HFa.out i e
            · have : i = S1.length := by omega
              subst this
              rw [getD_app_new]
              exact hS.same
          · by_cases e : k' = s.key
            · exact ⟨S1.length, by rw [List.length_append]; simp, by rw [getD_app_new]; exact e⟩
            · rw [hS.other _ e] at hk'
              obtain ⟨i, hi, he⟩ := HFb.out _ _ hk'
              exact ⟨i, by rw [List.length_append]; omega, by rw [getD_app_left hi]; exact he⟩
          · exact (HF7.out.below qd).trans ⟨hg8.os, hg8.tape, hg8.output, hg8.size, fun k hk _ h2 _ => hg8.block k hk (fun e => h2 (Option.some.inj e)), fun _ h => .inl h⟩
        · rw [hFs] at hl0
          simp only [Option.getD_some, Option.isSome_some] at hl0
          obtain ⟨i, hi, hki⟩ := HFb.out _ _ hFs
          have hsi : s = S1.getD i default := Sh.key_inj hki
          have hx := HFa.out i hi
          rw [← hsi] at hx
          have hxi : x = .int .i64 i := Option.some.inj (hFs.symm.trans hx)
          subst hxi
          have hi' : i < P1.length := by rw [← hSl.out]; exact hi
          have hte := hid ((hsame.out i hi').1 hsi.symm)
          have HI := hid hi'
          clear hki hsi hx hi hi' hFs
          refine plan_val rfl rfl (.tuple #[.int .i64 i, .bool true]) (w'' := wr.drew) (by simp [execOp, go_sem, hl0]) (Below.refl _ _).drew ?_
          simp only [Act.put, List.setIfInBounds_toArray, List.set_cons_succ, List.set_cons_zero]
          refine plan_takes ?_; simp only [pickOps, List.getElem?_cons_zero, List.getElem?_cons_succ]; (repeat (go_big_quiet_step (fail))); refine wpQuiet_nil ?_
          refine plan_fin ?_
          simp only [List.drop_succ_cons, List.drop_zero, Act.put, List.setIfInBounds_toArray, List.set_cons_succ, List.set_cons_zero]
          clear gc hl0 t0 t1 p0 p1 p2 p3
          have hqd := (Below.refl wr.heap.size wr).drew
          go_wp2
          go_ret
          refine ⟨i, P1, X, S1, v1, rfl, ⟨P1, HK.out, .inl ⟨⟨_, getD_mem HI.out, hte.out⟩, rfl⟩⟩, HX.out, ?_, HI.out, hte.out, HT1.out.below hqd, HF1.out.below hqd⟩
          rw [tSz]
          have h1 := HXl.out
          omega
end Go.Proofs.Ytanfljajafelgaa
