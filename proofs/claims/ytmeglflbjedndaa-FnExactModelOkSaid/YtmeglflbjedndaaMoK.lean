/- Contracts of the model's l7Fit and ModelOk. -/
import Derived.Test.YtmeglflbjedndaaMoI
import Derived.Test.YtmeglflbjedndaaMoJ
namespace Go.Proofs.Ytmeglflbjedndaa
set_option linter.unusedVariables false
set_option linter.unusedSimpArgs false
open Go.RowKit
theorem l7fit_at {u v s : Int} (ho : okB u v = true) {r : Bool} (h : fitB s v = r) (w : World) :
    Calls Try.prog 85 #[.agg #[.int .i64 u, .int .i64 v], .int .i64 s] w fun e w' => e = .returned (.bool r) ∧ Below w.heap.size w w' := by
  subst h
  have hO := fun W => sratok_at u v W ho
  have H : KcL [(w.heap.size, 1, .int .i64 v)] (w.alloc (.cells #[.int .i64 u, .int .i64 v] 48)) := by
    refine ⟨?_, trivial⟩ <;> simp [go_sem]
  have q0 := bal (Below.refl w.heap.size w) (.cells #[.int .i64 u, .int .i64 v] 48)
  by_cases h : s = 1
  · have hs : fitB s v = true := fitB_iff.2 (.inl h)
    rw [hs]
    have d : (s == 1) = true := by simpa using h
    clear hs h H
    go_enter Try.func85, Try.ntmps85
    go_wp2_with fail
    refine (hO _).mono ?_
    rintro e w1 ⟨rfl, hq⟩
    go_wp2
    go_ret
    exact ⟨rfl, btr q0 hq⟩
  · have hs : fitB s v = (v == 1) := by unfold fitB; by_cases h1 : v = 1 <;> simp [h, h1]
    rw [hs]
    have d : (s == 1) = false := by simpa using h
    clear hs h
    go_enter Try.func85, Try.ntmps85
    go_wp2_with fail
    refine (hO _).mono ?_
    rintro e w1 ⟨rfl, hq⟩
    replace H := H.below hq
    have HH_ := H; obtain ⟨c0, _⟩ := HH_
    have l0 := cell_lt c0
    go_wp2
    go_ret
    exact ⟨rfl, btr q0 hq⟩
set_option maxRecDepth 100000 in
set_option maxHeartbeats 8000000 in
theorem smodelok_any (b : Bool) (A : Option Addr) (n c : Nat) (L : Sy) (B : Option Addr) (m d : Nat) (M : Mo) (hb : b = true ↔ ModP n L m M) (w : World) (hn : n ≤ 1048576) (hm : m ≤ 1048576) (hA : Syms w A n L) (hB : MRows w B m M) (hL : SmY n L) (hM : SmM m M) :
    Calls Try.prog 21 #[.agg #[.slice A n c], .agg #[.slice B m d]] w fun e w' => e = .returned (.bool b) ∧ Below w.heap.size w w' := by
  have HB := hid hb; have HL := hid hL; have HM := hid hM; clear hb hL hM
  have H : KcL [(w.heap.size, 0, .slice A n c), (w.heap.size + 1, 0, .slice B m d)] ((w.alloc (.cells #[.slice A n c] 39)).alloc (.cells #[.slice B m d] 29)) := by
    refine ⟨?_, ?_, trivial⟩ <;> simp [go_sem]
  have q0 := bal (bal (Below.refl w.heap.size w) (.cells #[.slice A n c] 39)) (.cells #[.slice B m d] 29)
  have hA2 := hA.below q0
  have hB2 := hB.below q0
  have hS := hid (fun W (h : Below w.heap.size w W) => ssigok_any A n c L W (by omega) (hA.below h) HL.out)
  obtain ⟨wb, hwb⟩ := bool_of (WellM m M)
  have hW := hid (fun W (h : Below w.heap.size w W) => l7right_any wb B m d M hwb W hm (hB.below h) HM.out)
  have HWB := hid hwb
  clear hA hB hwb
  cases hs : sigB n L
  · have HF := hid (b_no HB.out (fun h => by have h1 := h.1; rw [hs] at h1; cases h1))
    rw [hs] at hS
    clear hs hA2 hB2 H
    go_enter Try.func21, Try.ntmps21
    go_wp2_with fail
    refine (hS.out _ q0).mono ?_
    rintro e w1 ⟨rfl, hq⟩
    go_wp2
    go_ret
    exact ⟨ret_bool HF.out.symm, btr q0 hq⟩
  rw [hs] at hS
  have HSg := hid hs; clear hs
  go_enter Try.func21, Try.ntmps21
  go_wp2_with fail
  refine (hS.out _ q0).mono ?_
  rintro e w1 ⟨rfl, hq⟩
  replace H := H.below hq
  replace hA2 := hA2.below hq
  replace hB2 := hB2.below hq
  replace q0 := btr q0 hq
  clear hq hS
  have HH_ := H; obtain ⟨c0, c1, _⟩ := HH_
  have l0 := cell_lt c0
  have l1 := cell_lt c1
  cases wb
  · have HF := hid (b_no HB.out (fun h => by have := HWB.out.2 h.2.1; cases this))
    go_wp2_with fail
    refine (hW.out _ q0).mono ?_
    rintro e w2 ⟨rfl, hq⟩
    clear c0 c1 l0 l1
    go_wp2
    go_ret
    exact ⟨ret_bool HF.out.symm, btr q0 hq⟩
  go_wp2_with fail
  refine (hW.out _ q0).mono ?_
  rintro e w2 ⟨rfl, hq⟩
  clear c0 c1 l0 l1
  replace H := H.below hq
  replace hA2 := hA2.below hq
  replace hB2 := hB2.below hq
  replace q0 := btr q0 hq
  clear hq hW
  have HH_ := H; obtain ⟨c0, c1, _⟩ := HH_
  have l0 := cell_lt c0
  have l1 := cell_lt c1
  go_wp2
  clear c0 c1 l0 l1
  go_loopw [5] (fun i wr => ∃ k : Nat, k ≤ m ∧ i = .int .i64 k ∧ Below w2.heap.size w2 wr ∧ ∀ j, j < k → Agr n L (M.Nm j) (M.N j) (M.Q j) (M.V j)) (fun i _ => m - (intOf i).toNat)
  case atStart => exact ⟨0, Nat.zero_le _, rfl, Below.refl _ _, fun j hj => absurd hj (Nat.not_lt_zero _)⟩
  case round =>
    obtain ⟨k, hk, rfl, hb, he⟩ := hrel
    have HE := hid he; clear he
    have H2 := H.below hb
    have HH_ := H2; obtain ⟨c0, c1, _⟩ := HH_
    have l0 := cell_lt c0
    have l1 := cell_lt c1
    by_cases hlt : k < m
    · rcases hB2 with h0 | ⟨g, off, rfl, hg, hcA⟩
      · omega
      obtain ⟨a, ca, a0, a1, a2, a3, hMk, hNk, hI⟩ := hcA k hlt
      have gg : g < wr.heap.size := Nat.lt_of_lt_of_le hg hb.size
      replace a0 := carry hb a0
      replace a1 := carry hb a1
      replace a2 := carry hb a2
      replace a3 := carry hb a3
      have hIr := hI.below hb
      have hAr := hA2.below hb
      have hFn := fun W (h : Below wr.heap.size wr W) => lfind_any A n c L (M.Nm k) wr W hn hAr h
      have HRow := hid (rowB_iff.1 ((HWB.out.1 (by trivial)).2.1 k hlt))
      clear hcA hI
      go_upto_region 6 with fail
      have gc := @gro_cell wr
      go_cut [6, 7] (fun sp sb wx => ∃ (p : Nat) (nm1 : ByteArray) (a : Option Addr) (N ca : Nat) (S : Int) (ok : Bool), sp = .pointer (some ⟨p, 0, none⟩) ∧ sb = .bool ok ∧ Below wr.heap.size wr wx ∧ KcL [(p, 0, .string nm1), (p, 1, .slice a N ca), (p, 2, .int .i64 S)] wx ∧ N ≤ 9223372036854775807 ∧ (ok = true → fnd L.Nm (M.Nm k) n < n ∧ N = L.N (fnd L.Nm (M.Nm k) n) ∧ S = L.S (fnd L.Nm (M.Nm k) n) ∧ Ints wr a N (L.Z (fnd L.Nm (M.Nm k) n))) ∧ (ok = false → fnd L.Nm (M.Nm k) n = n))
      case first =>
        refine region_plan (.takes [0, 1, 2, 3, 4, 5, 6] (.fork 7 11 (.takes [8, 9, 10] (.make 11 (.make 12 .fin))) (.make 7 (.takes [8, 9, 10] (.make 12 .fin))))) 13 rfl (by kernel_rfl) ?_
        refine plan_takes ?_; simp only [pickOps, List.getElem?_cons_zero, List.getElem?_cons_succ]; (repeat (go_big_quiet_step (fail))); refine wpQuiet_nil ?_
        clear gc
        have hB := (Below.refl wr.heap.size wr).drew
        refine plan_fork ?_ ?_
        · skip
          refine plan_call rfl rfl 84 #[.agg #[.slice A n c], .string (M.Nm k)] (by kernel_rfl) ?_
          refine (hFn _ hB).mono ?_
          rintro e u2 hP
          obtain ⟨nm1, a', N, ca', S, ok, rfl, hq, hN, hY, hZ⟩ := hP.uni; clear hP
          refine ⟨_, rfl, btr hB hq, ?_⟩
          replace hB := btr hB hq; clear hq
          refine plan_takes ?_; simp only [pickOps, List.getElem?_cons_zero, List.getElem?_cons_succ]
          refine quiet_do rfl (.tuple #[.agg #[.string nm1, .slice a' N ca', .int .i64 S], .bool ok]) (fun _ => by kernel_rfl) ?_
          refine quiet_do rfl (.agg #[.string nm1, .slice a' N ca', .int .i64 S]) (fun _ => by kernel_rfl) ?_
          refine quiet_do rfl (.bool ok) (fun _ => by kernel_rfl) ?_
          refine wpQuiet_nil ?_
          have al := bal (Below.refl u2.heap.size u2) (.cells #[.string ⟨#[]⟩, .slice none 0 0, .int .i64 0] 105)
          refine plan_val rfl rfl (.pointer (some ⟨u2.heap.size, 0, none⟩)) (w'' := u2.alloc (.cells #[.string ⟨#[]⟩, .slice none 0 0, .int .i64 0] 105)) (by kernel_rfl) (btr hB al) ?_
          have Zt := there_new u2 (.string ⟨#[]⟩) (.slice none 0 0) (.int .i64 0) 105
          have Zb : u2.heap.size < (u2.alloc (.cells #[.string ⟨#[]⟩, .slice none 0 0, .int .i64 0] 105)).heap.size := by simp
          have Zl := hB.size
          replace hB := btr hB al
          refine plan_store rfl rfl _ _ _ rfl _ (.string nm1) (.slice a' N ca') (.int .i64 S) (by kernel_rfl) (by kernel_rfl) Zt (by kernel_rfl) (by simp [Value.oneCell']) hB (by first | exact Zl | omega) ?_
          intro wx hg hBx hK
          refine plan_fin ?_
          simp only [List.drop_succ_cons, List.drop_zero]
          go_wp2_with fail
          go_meet
          exact ⟨_, nm1, a', N, ca', S, ok, rfl, rfl, hBx, hK, hN, hY, hZ⟩
        · skip
          have al := bal (Below.refl wr.drew.heap.size wr.drew) (.cells #[.string ⟨#[]⟩, .slice none 0 0, .int .i64 0] 105)
          refine plan_val rfl rfl (.pointer (some ⟨wr.drew.heap.size, 0, none⟩)) (w'' := wr.drew.alloc (.cells #[.string ⟨#[]⟩, .slice none 0 0, .int .i64 0] 105)) (by kernel_rfl) (btr hB al) ?_
          have Zt := there_new wr.drew (.string ⟨#[]⟩) (.slice none 0 0) (.int .i64 0) 105
          have Zb : wr.drew.heap.size < (wr.drew.alloc (.cells #[.string ⟨#[]⟩, .slice none 0 0, .int .i64 0] 105)).heap.size := by simp
          have Zl := hB.size
          replace hB := btr hB al
          refine plan_call rfl rfl 84 #[.agg #[.slice A n c], .string (M.Nm k)] (by kernel_rfl) ?_
          refine (hFn _ hB).mono ?_
          rintro e u2 hP
          obtain ⟨nm1, a', N, ca', S, ok, rfl, hq, hN, hY, hZ⟩ := hP.uni; clear hP
          refine ⟨_, rfl, btr hB hq, ?_⟩
          replace Zt := there_below hq Zb Zt; replace Zb := Nat.lt_of_lt_of_le Zb hq.size
          replace hB := btr hB hq; clear hq
          refine plan_takes ?_; simp only [pickOps, List.getElem?_cons_zero, List.getElem?_cons_succ]
          refine quiet_do rfl (.tuple #[.agg #[.string nm1, .slice a' N ca', .int .i64 S], .bool ok]) (fun _ => by kernel_rfl) ?_
          refine quiet_do rfl (.agg #[.string nm1, .slice a' N ca', .int .i64 S]) (fun _ => by kernel_rfl) ?_
          refine quiet_do rfl (.bool ok) (fun _ => by kernel_rfl) ?_
          refine wpQuiet_nil ?_
          refine plan_store rfl rfl _ _ _ rfl _ (.string nm1) (.slice a' N ca') (.int .i64 S) (by kernel_rfl) (by kernel_rfl) Zt (by kernel_rfl) (by simp [Value.oneCell']) hB (by first | exact Zl | omega) ?_
          intro wx hg hBx hK
          refine plan_fin ?_
          simp only [List.drop_succ_cons, List.drop_zero]
          go_wp2_with fail
          go_meet
          exact ⟨_, nm1, a', N, ca', S, ok, rfl, rfl, hBx, hK, hN, hY, hZ⟩
      obtain ⟨w5, hwc⟩ : ∃ x, x = wc := ⟨_, rfl⟩
      subst hwc
      obtain ⟨p, nm1, a', N, ca', S, ok, rfl, rfl, hq, ⟨n0, n1, n2, _⟩, hN, hY, hZ⟩ := hcut
      replace a0 := carry hq a0
      replace a1 := carry hq a1
      replace a2 := carry hq a2
      replace a3 := carry hq a3
      replace c1 := carry hq c1
      have hI5 := hIr.below hq
      have gg5 : g < w5.heap.size := Nat.lt_of_lt_of_le gg hq.size
      have hb5 := btr hb hq
      clear gc hFn c0 l0 l1 n0 hAr H2
      have l1 := cell_lt c1
      have l2 := cell_lt n1
      have gc := @gro_cell w5
      cases ok
      · have HF := hid (b_no HB.out (fun h => by have := hZ rfl; have h1 := (h.2.2 k hlt).1; omega))
        clear hY hZ
        go_upto_region 7 with fail
        refine wp_region_grow_lit (by kernel_rfl) (by kernel_rfl) ?_
        repeat (go_big_quiet_step (fail))
        refine wpQuiet_nil ?_
        rintro _ ⟨X, rfl⟩
        clear gc
        go_wp2
        go_ret
        exact ⟨ret_bool HF.out.symm, btr q0 (btr hb5 X.h)⟩
      obtain ⟨h1, h2, h3, hJ⟩ := hY rfl
      clear hY hZ
      have hJ5 := hJ.below hq
      clear hJ
      generalize hk : fnd L.Nm (M.Nm k) n = t at *
      have HNo : Hid ((t < n ∧ L.N t = M.N k ∧ (∀ j, j < M.N k → fitB (L.Z t j) (M.Q k j) = true) ∧ fitB (L.S t) (M.V k) = true) ↔ Agr n L (M.Nm k) (M.N k) (M.Q k) (M.V k)) := hid (by unfold Agr; rw [hk])
      have H1 := hid h1; have H3 := hid h3
      clear h1 h3 hk
      by_cases hNm : N = M.N k
      rotate_left
      · have HF := hid (b_no HB.out (fun h => hNm (h2.trans ((HNo.out.2 (h.2.2 k hlt)).2.1))))
        have d1 : ((N : Int) != (M.N k : Int)) = true := by simp; omega
        have d1' : (N != M.N k) = true := by simpa using hNm
        have HNm := hid hNm; clear hNm h2
        go_upto_region 7 with fail
        refine wp_region_grow_lit (by kernel_rfl) (by kernel_rfl) ?_
        repeat (go_big_quiet_step (fail))
        refine wpQuiet_nil ?_
        rintro _ ⟨X, rfl⟩
        clear gc
        go_wp2
        go_ret
        exact ⟨ret_bool HF.out.symm, btr q0 (btr hb5 X.h)⟩
      have d1 : ((N : Int) != (M.N k : Int)) = false := by simp; omega
      have d1' : (N != M.N k) = false := by simpa using hNm
      have H2' := hid h2; have HNm := hid hNm; clear h2 hNm
      cases hv : fitB S (M.V k)
      · have hC := fun X : Gro w5 => l7fit_at (u := M.U k) HRow.out.2.2.2 hv (gro w5 X)
        have HF := hid (b_no HB.out (fun h => by have := (HNo.out.2 (h.2.2 k hlt)).2.2.2; rw [← H3.out, hv] at this; cases this))
        clear hv
        go_upto_region 7 with fail
        refine wp_region_grow_lit (by kernel_rfl) (by kernel_rfl) ?_
        repeat (go_big_quiet_step ((go_at_call 85; exact grow_call _ (hC _))))
        refine wpQuiet_nil ?_
        rintro _ ⟨X, rfl⟩
        clear gc
        go_wp2
        go_ret
        exact ⟨ret_bool HF.out.symm, btr q0 (btr hb5 X.h)⟩
      have hC := fun X : Gro w5 => l7fit_at (u := M.U k) HRow.out.2.2.2 hv (gro w5 X)
      have HV := hid hv; clear hv
      go_upto_region 7 with fail
      refine wp_region_grow_lit (by kernel_rfl) (by kernel_rfl) ?_
      repeat (go_big_quiet_step ((go_at_call 85; exact grow_call _ (hC _))))
      refine wpQuiet_nil ?_
      rintro _ ⟨X, rfl⟩
      clear gc hC l1 l2
      have hX : Below w5.heap.size w5 (gro w5 X) := X.h
      replace a0 := carry hX a0
      replace a1 := carry hX a1
      replace a2 := carry hX a2
      replace a3 := carry hX a3
      replace c1 := carry hX c1
      replace n1 := carry hX n1
      replace hI5 := hI5.below hX
      replace hJ5 := hJ5.below hX
      have gg6 : g < (gro w5 X).heap.size := Nat.lt_of_lt_of_le gg5 hX.size
      have hb6 := btr hb5 hX
      clear hX n2 gg5
      generalize gro w5 X = w6 at *
      go_wp2
      go_loopw [8] (fun i wx => ∃ j : Nat, j ≤ N ∧ i = .int .i64 j ∧ Below w6.heap.size w6 wx ∧ ∀ i, i < j → fitB (L.Z t i) (M.Q k i) = true) (fun i _ => N - (intOf i).toNat)
      case atStart => exact ⟨0, Nat.zero_le _, rfl, Below.refl _ _, fun j hj => by omega⟩
      case round =>
        obtain ⟨j, hj, rfl, hbx, hz⟩ := hrel
        have HZ := hid hz; clear hz
        have y0 := carry hbx a1
        have y1 := carry hbx c1
        have y2 := carry hbx n1
        have ggx : g < wr.heap.size := Nat.lt_of_lt_of_le gg6 hbx.size
        have l1 := cell_lt y1
        have l2 := cell_lt y2
        by_cases hlt2 : j < N
        · rcases hI5 with h0 | ⟨gi, oi, rfl, hgi, hci⟩
          · have := HNm.out; omega
          rcases hJ5 with h0 | ⟨gz, oz, rfl, hgz, hcz⟩
          · omega
          have z0 := carry hbx (hcz j hlt2)
          have z1 := carry hbx (hci j (by have := HNm.out; omega)).1
          have z2 := carry hbx (hci j (by have := HNm.out; omega)).2
          have gi1 : gi < wr.heap.size := Nat.lt_of_lt_of_le hgi hbx.size
          have gz1 : gz < wr.heap.size := Nat.lt_of_lt_of_le hgz hbx.size
          have hjM : j < M.N k := by have := HNm.out; omega
          clear hci hcz
          have gc := @gro_cell wr
          cases hv : fitB (L.Z t j) (M.Q k j)
          · have hC := fun X : Gro wr => l7fit_at (u := M.P k j) (HRow.out.2.2.1 j hjM) hv (gro wr X)
            have HF := hid (b_no HB.out (fun h => by have := (HNo.out.2 (h.2.2 k hlt)).2.2.1 j hjM; rw [hv] at this; cases this))
            clear hv
            go_upto_region 12 with fail
            refine wp_region_grow_lit (by kernel_rfl) (by kernel_rfl) ?_
            repeat (go_big_quiet_step ((go_at_call 85; exact grow_call _ (hC _))))
            refine wpQuiet_nil ?_
            rintro _ ⟨X, rfl⟩
            clear gc
            go_wp2
            go_ret
            exact ⟨ret_bool HF.out.symm, btr q0 (btr hb6 (btr hbx X.h))⟩
          · have hC := fun X : Gro wr => l7fit_at (u := M.P k j) (HRow.out.2.2.1 j hjM) hv (gro wr X)
            have HV2 := hid hv; clear hv
            go_upto_region 12 with fail
            refine wp_region_grow_lit (by kernel_rfl) (by kernel_rfl) ?_
            repeat (go_big_quiet_step ((go_at_call 85; exact grow_call _ (hC _))))
            refine wpQuiet_nil ?_
            rintro _ ⟨X, rfl⟩
            clear gc
            go_wp2
            go_roundw
            case rel =>
              refine ⟨j + 1, by omega, by go_num, btr hbx X.h, fun i hi => ?_⟩
              by_cases e : i = j
              · subst e; exact HV2.out
              · exact HZ.out i (by omega)
            case measure => simp [intOf]; omega
        · have hje : j = N := by omega
          have HA := hid (HNo.out.1 ⟨H1.out, by have := H2'.out; have := HNm.out; omega, fun i hi => HZ.out i (by have := HNm.out; omega), by rw [← H3.out]; exact HV.out⟩)
          have d5 : decide ((j : Int) < (N : Int)) = false := by simp; omega
          clear hje
          go_wp2
          go_roundw
          case rel =>
            refine ⟨k + 1, by omega, by go_num, btr hb6 hbx, fun i hi => ?_⟩
            by_cases e : i = k
            · rw [e]; exact HA.out
            · exact HE.out i (by omega)
          case measure => simp [intOf]; omega
    · have hke : k = m := by omega
      subst hke
      have HF := hid (b_yes HB.out ⟨HSg.out, HWB.out.1 (by trivial), HE.out⟩)
      go_wp2
      go_ret
      exact ⟨ret_bool HF.out.symm, btr q0 hb⟩
end Go.Proofs.Ytmeglflbjedndaa
