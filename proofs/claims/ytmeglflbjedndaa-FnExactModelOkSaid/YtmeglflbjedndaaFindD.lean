/- The sort of a term: contract of the program's sortOf. -/
import Derived.Test.YtmeglflbjedndaaFindC
import Derived.Test.YtmeglflbjedndaaPlanB
namespace Go.Proofs.Ytmeglflbjedndaa
set_option linter.unusedVariables false
set_option linter.unusedSimpArgs false
open Go.RowKit
/-- what sortOf answers -/
def SrtE (s : Int) : Ending := .returned (.tuple #[.int .i64 (if 0 ≤ s then s else 0), .bool (decide (0 ≤ s))])
theorem SrtE.yes {s : Int} (h : 0 ≤ s) : SrtE s = .returned (.tuple #[.int .i64 s, .bool true]) := by unfold SrtE; rw [if_pos h, decide_eq_true h]
theorem SrtE.no {s : Int} (h : ¬ 0 ≤ s) : SrtE s = .returned (.tuple #[.int .i64 0, .bool false]) := by unfold SrtE; rw [if_neg h, decide_eq_false h]
/-- the sorts of a valid vocabulary are not negative -/
def VS (n : Nat) (L : Sy) : Prop := ∀ k, k < n → 0 ≤ L.S k ∧ ∀ j, j < L.N k → 0 ≤ L.Z k j
theorem sortB_nn {z : Int} (h : sortB z = true) : 0 ≤ z := by
  unfold sortB at h
  have := of_decide_eq_true h
  omega
theorem vs_of {n : Nat} {L : Sy} (h : sigB n L = true) : VS n L := fun k hk => by
  obtain ⟨_, _, h3, h4⟩ := symB_iff.1 ((sigB_iff.1 h).2.1 k hk)
  exact ⟨sortB_nn h4, fun j hj => sortB_nn (h3 j hj)⟩
set_option maxRecDepth 100000 in
set_option maxHeartbeats 4000000 in
theorem sortof_any (n : Nat) (L : Sy) (hn : n ≤ 1048576) (hs : ascB n L.Nm = true) (hv : VS n L) : ∀ (t : Tm), Fits 1048576 t → ∀ (A B : Option Addr) (c d : Nat) (w : World), Syms w A n L → Kids 0 w t B →
    Calls Try.prog 162 #[.agg #[.slice A n c], .agg #[.string t.nm, .slice B t.n d]] w fun e w' => e = SrtE (sortT n L t) ∧ Below w.heap.size w w' := by
  intro t
  induction t with
  | bad => intro h; exact False.elim h
  | mk nm m kid ih =>
    rintro ⟨hm, hmn, hf⟩ A B c d w hA hB
    show Calls _ _ #[.agg #[.slice A n c], .agg #[.string nm, .slice B m d]] w _
    have HI := hid (fun k hk A B c d W h1 h2 => ih k (hf k hk) A B c d W h1 h2)
    clear ih hf
    generalize hr : sortT n L (.mk nm m kid) = res
    have HR := hid hr; clear hr
    have q0 := bal (bal (Below.refl w.heap.size w) (.cells #[.slice A n c] 39)) (.cells #[.string nm, .slice B m d] 53)
    have b0 : ((w.alloc (.cells #[.slice A n c] 39)).alloc (.cells #[.string nm, .slice B m d] 53)).cell? ⟨w.heap.size, 0, none⟩ = some (.slice A n c) := by simp [go_sem]
    have bn : ((w.alloc (.cells #[.slice A n c] 39)).alloc (.cells #[.string nm, .slice B m d] 53)).cell? ⟨w.heap.size + 1, 0, none⟩ = some (.string nm) := by simp [go_sem]
    have b1 : ((w.alloc (.cells #[.slice A n c] 39)).alloc (.cells #[.string nm, .slice B m d] 53)).cell? ⟨w.heap.size + 1, 1, none⟩ = some (.slice B m d) := by simp [go_sem]
    have HV := hid hv; clear hv
    have hF0 := fun W (hb : Below w.heap.size w W) => find_any A n c L nm w W hn hA hb hs
    go_enter Try.func162, Try.ntmps162
    go_upto_region 1 with fail
    generalize (w.alloc (.cells #[.slice A n c] 39)).alloc (.cells #[.string nm, .slice B m d] 53) = W at *
    have lb0 : w.heap.size < W.heap.size := cell_lt b0
    have lb1 : w.heap.size + 1 < W.heap.size := cell_lt b1
    have hF := fun W' (hb : Below W.heap.size W W') => hF0 W' (btr q0 hb)
    clear hF0
    have gc := @gro_cell W
    go_cut [6, 7] (fun sp sb wx => ∃ (p : Nat) (nm1 : ByteArray) (a : Option Addr) (N ca : Nat) (S : Int) (ok : Bool), sp = .pointer (some ⟨p, 0, none⟩) ∧ sb = .bool ok ∧ Below W.heap.size W wx ∧ KcL [(p, 0, .string nm1), (p, 1, .slice a N ca), (p, 2, .int .i64 S)] wx ∧ N ≤ 9223372036854775807 ∧ (ok = true → fnd L.Nm nm n < n ∧ N = L.N (fnd L.Nm nm n) ∧ S = L.S (fnd L.Nm nm n) ∧ Ints w a N (L.Z (fnd L.Nm nm n))) ∧ (ok = false → fnd L.Nm nm n = n))
    case first =>
      refine region_plan (.takes [0, 2, 3] (.fork 1 8 (.fork 4 8 (.takes [5, 6, 7] (.make 8 (.make 9 .fin))) (.make 4 (.takes [5, 6, 7] (.make 9 .fin)))) (.make 1 (.make 4 (.takes [5, 6, 7] (.make 9 .fin)))))) 10 rfl (by kernel_rfl) ?_
      refine plan_takes ?_; simp only [pickOps, List.getElem?_cons_zero, List.getElem?_cons_succ]; (repeat (go_big_quiet_step (fail))); refine wpQuiet_nil ?_
      clear gc
      have hB := (Below.refl W.heap.size W).drew
      refine plan_fork ?_ ?_
      · skip
        refine plan_call rfl rfl 136 #[.agg #[.slice A n c]] (by kernel_rfl) ?_
        refine (byname_any A n c _).mono ?_
        rintro e u1 ⟨rfl, hq⟩
        refine ⟨_, rfl, btr hB hq, ?_⟩
        replace hB := btr hB hq; clear hq
        refine plan_fork ?_ ?_
        · skip
          refine plan_call rfl rfl 156 #[.agg #[.slice A n c, .func (.func 186) #[] #[]], .string nm] (by kernel_rfl) ?_
          refine (hF _ hB).mono ?_
          rintro e u2 hP
          obtain ⟨nm1, a, N, ca, S, ok, rfl, hq, hN, hY, hZ⟩ := hP.uni; clear hP
          refine ⟨_, rfl, btr hB hq, ?_⟩
          replace hB := btr hB hq; clear hq
          refine plan_takes ?_; simp only [pickOps, List.getElem?_cons_zero, List.getElem?_cons_succ]
          refine quiet_do rfl (.tuple #[.agg #[.string nm1, .slice a N ca, .int .i64 S], .bool ok]) (fun _ => by kernel_rfl) ?_
          refine quiet_do rfl (.agg #[.string nm1, .slice a N ca, .int .i64 S]) (fun _ => by kernel_rfl) ?_
          refine quiet_do rfl (.bool ok) (fun _ => by kernel_rfl) ?_
          refine wpQuiet_nil ?_
          have al := bal (Below.refl u2.heap.size u2) (.cells #[.string ⟨#[]⟩, .slice none 0 0, .int .i64 0] 105)
          refine plan_val rfl rfl (.pointer (some ⟨u2.heap.size, 0, none⟩)) (w'' := u2.alloc (.cells #[.string ⟨#[]⟩, .slice none 0 0, .int .i64 0] 105)) (by kernel_rfl) (btr hB al) ?_
          have Zt := there_new u2 (.string ⟨#[]⟩) (.slice none 0 0) (.int .i64 0) 105
          have Zb : u2.heap.size < (u2.alloc (.cells #[.string ⟨#[]⟩, .slice none 0 0, .int .i64 0] 105)).heap.size := by simp
          have Zl := hB.size
          replace hB := btr hB al
          refine plan_store rfl rfl _ _ _ rfl _ (.string nm1) (.slice a N ca) (.int .i64 S) (by kernel_rfl) (by kernel_rfl) Zt (by kernel_rfl) (by simp [Value.oneCell']) hB (by first | exact Zl | omega) ?_
          intro wx hg hBx hK
          refine plan_fin ?_
          simp only [List.drop_succ_cons, List.drop_zero]
          go_wp2_with fail
          go_meet
          exact ⟨_, nm1, a, N, ca, S, ok, rfl, rfl, hBx, hK, hN, hY, hZ⟩
        · skip
          have al := bal (Below.refl u1.heap.size u1) (.cells #[.string ⟨#[]⟩, .slice none 0 0, .int .i64 0] 105)
          refine plan_val rfl rfl (.pointer (some ⟨u1.heap.size, 0, none⟩)) (w'' := u1.alloc (.cells #[.string ⟨#[]⟩, .slice none 0 0, .int .i64 0] 105)) (by kernel_rfl) (btr hB al) ?_
          have Zt := there_new u1 (.string ⟨#[]⟩) (.slice none 0 0) (.int .i64 0) 105
          have Zb : u1.heap.size < (u1.alloc (.cells #[.string ⟨#[]⟩, .slice none 0 0, .int .i64 0] 105)).heap.size := by simp
          have Zl := hB.size
          replace hB := btr hB al
          refine plan_call rfl rfl 156 #[.agg #[.slice A n c, .func (.func 186) #[] #[]], .string nm] (by kernel_rfl) ?_
          refine (hF _ hB).mono ?_
          rintro e u2 hP
          obtain ⟨nm1, a, N, ca, S, ok, rfl, hq, hN, hY, hZ⟩ := hP.uni; clear hP
          refine ⟨_, rfl, btr hB hq, ?_⟩
          replace Zt := there_below hq Zb Zt; replace Zb := Nat.lt_of_lt_of_le Zb hq.size
          replace hB := btr hB hq; clear hq
          refine plan_takes ?_; simp only [pickOps, List.getElem?_cons_zero, List.getElem?_cons_succ]
          refine quiet_do rfl (.tuple #[.agg #[.string nm1, .slice a N ca, .int .i64 S], .bool ok]) (fun _ => by kernel_rfl) ?_
          refine quiet_do rfl (.agg #[.string nm1, .slice a N ca, .int .i64 S]) (fun _ => by kernel_rfl) ?_
          refine quiet_do rfl (.bool ok) (fun _ => by kernel_rfl) ?_
          refine wpQuiet_nil ?_
          refine plan_store rfl rfl _ _ _ rfl _ (.string nm1) (.slice a N ca) (.int .i64 S) (by kernel_rfl) (by kernel_rfl) Zt (by kernel_rfl) (by simp [Value.oneCell']) hB (by first | exact Zl | omega) ?_
          intro wx hg hBx hK
          refine plan_fin ?_
          simp only [List.drop_succ_cons, List.drop_zero]
          go_wp2_with fail
          go_meet
          exact ⟨_, nm1, a, N, ca, S, ok, rfl, rfl, hBx, hK, hN, hY, hZ⟩
      · skip
        have al := bal (Below.refl (W.drew).heap.size (W.drew)) (.cells #[.string ⟨#[]⟩, .slice none 0 0, .int .i64 0] 105)
        refine plan_val rfl rfl (.pointer (some ⟨(W.drew).heap.size, 0, none⟩)) (w'' := (W.drew).alloc (.cells #[.string ⟨#[]⟩, .slice none 0 0, .int .i64 0] 105)) (by kernel_rfl) (btr hB al) ?_
        have Zt := there_new (W.drew) (.string ⟨#[]⟩) (.slice none 0 0) (.int .i64 0) 105
        have Zb : (W.drew).heap.size < ((W.drew).alloc (.cells #[.string ⟨#[]⟩, .slice none 0 0, .int .i64 0] 105)).heap.size := by simp
        have Zl := hB.size
        replace hB := btr hB al
        refine plan_call rfl rfl 136 #[.agg #[.slice A n c]] (by kernel_rfl) ?_
        refine (byname_any A n c _).mono ?_
        rintro e u1 ⟨rfl, hq⟩
        refine ⟨_, rfl, btr hB hq, ?_⟩
        replace Zt := there_below hq Zb Zt; replace Zb := Nat.lt_of_lt_of_le Zb hq.size
        replace hB := btr hB hq; clear hq
        refine plan_call rfl rfl 156 #[.agg #[.slice A n c, .func (.func 186) #[] #[]], .string nm] (by kernel_rfl) ?_
        refine (hF _ hB).mono ?_
        rintro e u2 hP
        obtain ⟨nm1, a, N, ca, S, ok, rfl, hq, hN, hY, hZ⟩ := hP.uni; clear hP
        refine ⟨_, rfl, btr hB hq, ?_⟩
        replace Zt := there_below hq Zb Zt; replace Zb := Nat.lt_of_lt_of_le Zb hq.size
        replace hB := btr hB hq; clear hq
        refine plan_takes ?_; simp only [pickOps, List.getElem?_cons_zero, List.getElem?_cons_succ]
        refine quiet_do rfl (.tuple #[.agg #[.string nm1, .slice a N ca, .int .i64 S], .bool ok]) (fun _ => by kernel_rfl) ?_
        refine quiet_do rfl (.agg #[.string nm1, .slice a N ca, .int .i64 S]) (fun _ => by kernel_rfl) ?_
        refine quiet_do rfl (.bool ok) (fun _ => by kernel_rfl) ?_
        refine wpQuiet_nil ?_
        refine plan_store rfl rfl _ _ _ rfl _ (.string nm1) (.slice a N ca) (.int .i64 S) (by kernel_rfl) (by kernel_rfl) Zt (by kernel_rfl) (by simp [Value.oneCell']) hB (by first | exact Zl | omega) ?_
        intro wx hg hBx hK
        refine plan_fin ?_
        simp only [List.drop_succ_cons, List.drop_zero]
        go_wp2_with fail
        go_meet
        exact ⟨_, nm1, a, N, ca, S, ok, rfl, rfl, hBx, hK, hN, hY, hZ⟩
    obtain ⟨w1, hwc⟩ : ∃ x, x = wc := ⟨_, rfl⟩
    subst hwc
    obtain ⟨p, nm1, a, N, ca, S, ok, rfl, rfl, hq, ⟨n0, n1, n2, _⟩, hN, hY, hZ⟩ := hcut
    clear gc hF
    replace b0 := carry hq b0
    replace b1 := carry hq b1
    have hq1 := btr q0 hq
    clear hq q0 bn
    cases ok
    · have HF := hid (sortT_no (m := m) (kid := kid) (hZ rfl) (fun h => Nat.lt_irrefl _ h.1))
      have HE := hid (show Ending.returned (.tuple #[.int .i64 0, .bool false]) = SrtE res by rw [← HR.out, HF.out]; rfl)
      clear hY hZ hA hB
      go_wp2
      go_ret2
      exact ⟨HE.out, hq1⟩
    · obtain ⟨h1, h2, h3, hJ⟩ := hY rfl
      clear hY hZ
      generalize hk : fnd L.Nm nm n = k at *
      have H1 := hid h1; have H2 := hid h2; have H3 := hid h3; have HK := hid hk
      clear h1 h2 h3 hk
      by_cases hNm : N = m
      · have hmN : m = N := hNm.symm
        clear hNm
        subst hmN
        have d1 : ((m : Int) != (m : Int)) = false := by simp
        have hA2 := hA.below hq1
        have hB2 := hB.below hq1
        have hJ2 := hJ.below hq1
        clear hA hB hJ n0
        go_wp2_with fail
        clear d1
        go_loopw [34] (fun i wr => ∃ j : Nat, j ≤ m ∧ i = .int .i64 j ∧ Below w1.heap.size w1 wr ∧ ∀ i, i < j → sortT n L (kid i) = L.Z k i) (fun i _ => m - (intOf i).toNat)
        case atStart => exact ⟨0, Nat.zero_le _, rfl, Below.refl _ _, fun j hj => by omega⟩
        case round =>
          obtain ⟨j, hj, rfl, hb, he⟩ := hrel
          have HE := hid he; clear he
          have g0 := carry hb b0
          have g1 := carry hb b1
          have x1 := carry hb n1
          have x2 := carry hb n2
          clear b0 b1 n1 n2
          by_cases hlt : j < m
          · rcases hB2 with h0 | ⟨g, off, rfl, _, hg, hcB⟩
            · omega
            obtain ⟨a2, ca2, a0, a1, hK⟩ := hcB j hlt
            rcases hJ2 with h0 | ⟨gz, oz, rfl, hgz, hcZ⟩
            · omega
            have z0 := carry hb (hcZ j (by omega))
            have gg : g < wr.heap.size := Nat.lt_of_lt_of_le hg hb.size
            have ggz : gz < wr.heap.size := Nat.lt_of_lt_of_le hgz hb.size
            replace a0 := carry hb a0
            replace a1 := carry hb a1
            have hKr := hK.below hb
            have hAr := hA2.below hb
            have hnn := (HV.out k H1.out).2 j (by rw [← H2.out]; exact hlt)
            clear hcB hcZ hK hA2
            have lg0 : w.heap.size < wr.heap.size := cell_lt g0
            have lg1 : w.heap.size + 1 < wr.heap.size := cell_lt g1
            have lx1 : p < wr.heap.size := cell_lt x1
            have al := bal (Below.refl wr.heap.size wr) (.cells #[.string (kid j).nm, .slice a2 (kid j).n ca2] 53)
            have y0 := carryA (.cells #[.string (kid j).nm, .slice a2 (kid j).n ca2] 53) g0
            have y1 := carryA (.cells #[.string (kid j).nm, .slice a2 (kid j).n ca2] 53) x1
            have yz := carryA (.cells #[.string (kid j).nm, .slice a2 (kid j).n ca2] 53) z0
            have hC := HI.out j hlt A a2 c ca2 (wr.alloc (.cells #[.string (kid j).nm, .slice a2 (kid j).n ca2] 53)) (hAr.below al) (hKr.below al)
            have HH := hid (sortT_no (n := n) (L := L) (m := m) (kid := kid) (nm := nm) HK.out)
            generalize hsv : sortT n L (kid j) = s at hC
            have HS := hid hsv; clear hsv hKr hAr
            by_cases hs : s = L.Z k j
            · have HSE := hid hs
              rw [hs, SrtE.yes hnn] at hC
              have d2 : (L.Z k j != L.Z k j) = false := by simp
              clear hs
              go_wp2_with (go_at_call 162; refine hC.mono ?_; rintro e w2 ⟨rfl, hq2⟩; replace y1 := carry hq2 y1; replace yz := carry hq2 yz)
              go_roundw
              case rel =>
                refine ⟨j + 1, by omega, by go_num, btr hb (btr al (by assumption)), fun i hi => ?_⟩
                by_cases e : i = j
                · subst e; exact HS.out.trans HSE.out
                · exact HE.out i (by omega)
              case measure => simp [intOf]; omega
            · have HF := hid (show Ending.returned (.tuple #[.int .i64 0, .bool false]) = SrtE res by rw [← HR.out, HH.out (fun h => hs (HS.out.symm.trans (h.2.2 j hlt)))]; rfl)
              by_cases hp : 0 ≤ s
              · rw [SrtE.yes hp] at hC
                have d2 : (s != L.Z k j) = true := by simpa using hs
                clear hs
                go_wp2_with (go_at_call 162; refine hC.mono ?_; rintro e w2 ⟨rfl, hq2⟩; replace y1 := carry hq2 y1; replace yz := carry hq2 yz)
                go_ret2
                exact ⟨HF.out, btr hq1 (btr hb (btr al (by assumption)))⟩
              · rw [SrtE.no hp] at hC
                clear hs
                go_wp2_with (go_at_call 162; refine hC.mono ?_; rintro e w2 ⟨rfl, hq2⟩; replace y1 := carry hq2 y1; replace yz := carry hq2 yz)
                go_ret2
                exact ⟨HF.out, btr hq1 (btr hb (btr al (by assumption)))⟩
          · have HT := hid (sortT_yes (m := m) (kid := kid) HK.out H1.out H2.out.symm (fun i hi => HE.out i (by omega)))
            have d3 : decide ((j : Int) < (m : Int)) = false := by simp; omega
            have HF := hid (show Ending.returned (.tuple #[.int .i64 S, .bool true]) = SrtE res by rw [← HR.out, HT.out, SrtE.yes (HV.out k H1.out).1, H3.out])
            go_wp2
            go_ret2
            exact ⟨HF.out, btr hq1 hb⟩
      · have HF := hid (sortT_no (m := m) (kid := kid) HK.out (fun h => hNm (H2.out.trans h.2.1)))
        have HE := hid (show Ending.returned (.tuple #[.int .i64 0, .bool false]) = SrtE res by rw [← HR.out, HF.out]; rfl)
        have d1 : ((N : Int) != (m : Int)) = true := by simp; omega
        clear hA hB hJ
        go_wp2
        go_ret2
        exact ⟨HE.out, hq1⟩
end Go.Proofs.Ytmeglflbjedndaa
