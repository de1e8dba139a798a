/- Contract of the program's FarSum. -/
import Derived.Test.YtplocljoanaoeaaFarG
import Derived.Test.YtplocljoanaoeaaFarJ
import Derived.Test.YtplocljoanaoeaaLinSE
namespace Go.Proofs.Ytplocljoanaoeaa
set_option linter.unusedVariables false
set_option linter.unusedSimpArgs false
open Go.RowKit
/-- FarSum's answer is the empty one -/
theorem farsum_zero {w w' : World} (hb : Below w.heap.size w w') : SumP w (zeroL, false) (.returned (.tuple #[.agg #[.slice none 0 0, .int .i64 0, .bool false], .bool false])) w' := sum_p (r := (zeroL, false)) (NewL.zero _ _) hb
set_option maxRecDepth 100000 in
set_option maxHeartbeats 2000000 in
theorem farsum_a (A : Option Addr) (n c : Nat) (L : Lst) (B : Option Addr) (m d : Nat) (w : World) (hn : n ≤ 9223372036854775806) (hA : Lins w A n L) (hN : ∀ k, k < n → L.N k ≤ 1048576) (h : okS n L = false) :
    Calls Try.prog 18 #[.slice A n c, .slice B m d] w (SumP w (zeroL, false)) := by
  have hO := fun W hb => issys_at (c := c) hn hA hN h W hb
  have hz := build_lin0
  clear hA hN h
  go_enter Try.func18, Try.ntmps18
  go_wp2_with fail
  refine (hO _ (bal (Below.refl _ _) _)).mono ?_
  rintro e w1 ⟨rfl, hq⟩
  obtain ⟨hc, hf⟩ := bcell hq
  go_wp2_with fail
  have e0 : w1.cell? ⟨w.heap.size, 0, none⟩ = some (.slice none 0 0) := by rw [hc _ _ (by simp <;> omega)]; simp [go_sem]
  have e1 : w1.cell? ⟨w.heap.size, 1, none⟩ = some (.int .i64 0) := by rw [hc _ _ (by simp <;> omega)]; simp [go_sem]
  have e2 : w1.cell? ⟨w.heap.size, 2, none⟩ = some (.bool false) := by rw [hc _ _ (by simp <;> omega)]; simp [go_sem]
  obtain ⟨t0, t1, t2⟩ := set3 e0 e1 e2 (.slice none 0 0) (.int .i64 0) (.bool false)
  clear hc hf hO hz
  refine bodyPost_ret (v := .tuple #[.agg #[.slice none 0 0, .int .i64 0, .bool false], .bool false]) (by simp [results, Try.results18, go_sem, t0, t1, t2]) rfl (farsum_zero ?_)
  clear e0 e1 e2 t0 t1 t2
  (repeat first | with_reducible exact Below.refl _ _ | with_reducible assumption | with_reducible refine Below.drew ?_ | with_reducible refine bdn ?_ _ | with_reducible refine bal ?_ _ | (with_reducible refine bst ?_ ?_ _; rotate_left; (simp <;> omega)) | (with_reducible refine btr ?_ (by with_reducible assumption)))
set_option maxRecDepth 100000 in
set_option maxHeartbeats 2000000 in
theorem farsum_b (A : Option Addr) (n c : Nat) (L : Lst) (B : Option Addr) (m d : Nat) (w : World) (hn : n ≤ 9223372036854775806) (hm : m ≤ 9223372036854775806) (hA : Lins w A n L) (hN : ∀ k, k < n → L.N k ≤ 1048576) (h : okS n L = true) (hmn : m ≠ n) :
    Calls Try.prog 18 #[.slice A n c, .slice B m d] w (SumP w (zeroL, false)) := by
  have hO := fun W hb => issys_at (c := c) hn hA hN h W hb
  have hz := build_lin0
  have hd : ((m : Int) != n) = true := by simp; omega
  clear hA hN h hmn
  go_enter Try.func18, Try.ntmps18
  go_wp2_with fail
  refine (hO _ (bal (Below.refl _ _) _)).mono ?_
  rintro e w1 ⟨rfl, hq⟩
  obtain ⟨hc, hf⟩ := bcell hq
  go_wp2_with fail
  have e0 : w1.cell? ⟨w.heap.size, 0, none⟩ = some (.slice none 0 0) := by rw [hc _ _ (by simp <;> omega)]; simp [go_sem]
  have e1 : w1.cell? ⟨w.heap.size, 1, none⟩ = some (.int .i64 0) := by rw [hc _ _ (by simp <;> omega)]; simp [go_sem]
  have e2 : w1.cell? ⟨w.heap.size, 2, none⟩ = some (.bool false) := by rw [hc _ _ (by simp <;> omega)]; simp [go_sem]
  obtain ⟨t0, t1, t2⟩ := set3 e0 e1 e2 (.slice none 0 0) (.int .i64 0) (.bool false)
  clear hc hf hO hz
  refine bodyPost_ret (v := .tuple #[.agg #[.slice none 0 0, .int .i64 0, .bool false], .bool false]) (by simp [results, Try.results18, go_sem, t0, t1, t2]) rfl (farsum_zero ?_)
  clear e0 e1 e2 t0 t1 t2
  (repeat first | with_reducible exact Below.refl _ _ | with_reducible assumption | with_reducible refine Below.drew ?_ | with_reducible refine bdn ?_ _ | with_reducible refine bal ?_ _ | (with_reducible refine bst ?_ ?_ _; rotate_left; (simp <;> omega)) | (with_reducible refine btr ?_ (by with_reducible assumption)))
set_option maxRecDepth 100000 in
set_option maxHeartbeats 4000000 in
theorem farsum_y (A : Option Addr) (n c : Nat) (L : Lst) (B : Option Addr) (d : Nat) (T : Nat → Int) (w : World) (hn : n ≤ 9223372036854775806) (hA : Lins w A n L) (hB : Ints w B n T) (hN : ∀ k, k < n → L.N k ≤ 1048576) (h : okS n L = true) :
    Calls Try.prog 18 #[.slice A n c, .slice B n d] w (SumP w (farS n L n T)) := by
  have hO := fun W hb => issys_at (c := c) hn hA hN h W hb
  have HOK := hid h; clear h
  have HNN := hid hN; clear hN
  have hz := build_lin0
  have hz1 := build_lin1
  have hmk := mk4
  go_enter Try.func18, Try.ntmps18
  go_wp2_with fail
  refine (hO _ (bal (Below.refl _ _) _)).mono ?_
  rintro e w1 ⟨rfl, hq⟩
  clear hO
  have hq0 := btr (bal (Below.refl w.heap.size w) (.cells #[.slice none 0 0, .int .i64 0, .bool false] 28)) hq
  have hw1 : w.heap.size < w1.heap.size := by have := hq.size; simp at this; omega
  have hst : SumI w (w1.heap.size + 1) (sumS L T 0).1 ((w1.alloc (.cells #[.int .i64 0, .int .i64 0, .int .i64 0, .int .i64 0] 3)).alloc (.cells #[.slice (some ⟨w1.heap.size, 0, none⟩) 4 4, .int .i64 0, .bool false] 28)) := by
    obtain ⟨hc, hf⟩ := bcell hq
    have e0 : w1.cell? ⟨w.heap.size, 0, none⟩ = some (.slice none 0 0) := by rw [hc _ _ (by simp <;> omega)]; simp [go_sem]
    have e1 : w1.cell? ⟨w.heap.size, 1, none⟩ = some (.int .i64 0) := by rw [hc _ _ (by simp <;> omega)]; simp [go_sem]
    have e2 : w1.cell? ⟨w.heap.size, 2, none⟩ = some (.bool false) := by rw [hc _ _ (by simp <;> omega)]; simp [go_sem]
    refine ⟨some ⟨w1.heap.size, 0, none⟩, 4, w1.heap.size, w1.heap.size + 1, bal (bal hq0 _) _, by omega, by simp [sumS], by omega, by omega, .inr (Nat.le_refl _), ?_, carryA _ (carryA _ e0), carryA _ (carryA _ e1), carryA _ (carryA _ e2), ?_, ?_, ?_, fun o => carryAf _ (carryAf _ (carryf hq (by simp [go_sem]) (by simp)) hw1) (by simp; omega), fun o => ?_⟩
    · refine .inr ⟨w1.heap.size, rfl, Nat.le_refl _, by omega, by simp; omega, fun k hk => ?_⟩
      have hk4 : k < 4 := hk
      have hk' : k = 0 ∨ k = 1 ∨ k = 2 ∨ k = 3 := by omega
      rcases hk' with rfl | rfl | rfl | rfl <;> simp [go_sem, sumS]
    all_goals simp [go_sem, sumS]
  clear hq hq0 hw1
  go_wp2
  clear hmk hz1
  generalize (w1.alloc (.cells #[.int .i64 0, .int .i64 0, .int .i64 0, .int .i64 0] 3)).alloc (.cells #[.slice (some ⟨w1.heap.size, 0, none⟩) 4 4, .int .i64 0, .bool false] 28) = w2 at hst ⊢
  generalize hp : w1.heap.size + 1 = p at hst ⊢
  clear hp
  go_loopw [26] (fun i wr => ∃ k : Nat, k ≤ n ∧ i = .int .i64 k ∧ (sumS L T k).2 = true ∧ SumI w p (sumS L T k).1 wr) (fun i _ => n - (intOf i).toNat)
  case atStart => exact ⟨0, Nat.zero_le _, rfl, rfl, hst⟩
  case round =>
    obtain ⟨k, hk, rfl, hk2, hI⟩ := hrel
    have HS := hid hk2; clear hk2 hst
    have hlen := sumS_len L T k
    by_cases hlt : k < n
    · rcases hA with h0 | ⟨g, off, rfl, hg, hcA⟩
      · omega
      rcases hB with h0 | ⟨g2, off2, rfl, hg2, hcB⟩
      · omega
      obtain ⟨a, ca, a0, a1, a2, _, hI2⟩ := hcA k hlt
      have hNk : L.N k ≤ 9223372036854775806 := Nat.le_trans (HNN.out k hlt) (by omega)
      obtain ⟨A0, c0, lo, hi, hb, hp, hc0, hc1, hlo, hlp, hO, r0, r1, r2, s0, s1, s2, fr, fs⟩ := hI
      have b0 := carry hb (hcB k hlt)
      replace a0 := carry hb a0
      replace a1 := carry hb a1
      replace a2 := carry hb a2
      have gg : g < wr.heap.size := cell_lt a0
      have gg2 : g2 < wr.heap.size := cell_lt b0
      replace hI2 := hI2.below hb
      clear hcA hcB hg hg2
      have hstep := sumS_succ HS.out
      have HST := hid hstep
      have hM := fun W (h1 : Ints W A0 (sumS L T k).1.1 (sumS L T k).1.2.1) (h2 : Ints W a (L.N k) (L.Z k)) => linsum_any A0 (sumS L T k).1.1 c0 (sumS L T k).1.2.1 (sumS L T k).1.2.2.1 1 (sumS L T k).1.2.2.2 a (L.N k) ca (L.Z k) (L.B k) (T k) (L.S k) W (by omega) h1 (by omega) h2
      have hR4 := stepS_len (sumS L T k).1 L T k
      change ∀ W, _ → _ → Calls _ _ _ W (SumP W (stepS (sumS L T k).1 L T k)) at hM
      rw [← hstep] at hM hR4
      clear hstep
      generalize hR2 : sumS L T (k + 1) = R2 at hM hR4
      generalize hR : (sumS L T k).1 = R at *
      have HR2 := hid hR2; clear hR2
      have HR := hid hR; clear hR
      obtain ⟨m0, Z0, bd0, st0⟩ := R
      simp only at *
      go_upto_region 7 with fail
      have al := bal (Below.refl wr.heap.size wr) (.cells #[.slice a (L.N k) ca, .int .i64 (L.B k), .bool (L.S k)] 28)
      obtain ⟨l0, l1, l2⟩ := new3 wr (.slice a (L.N k) ca) (.int .i64 (L.B k)) (.bool (L.S k)) 28
      have x0 := carryA (.cells #[.slice a (L.N k) ca, .int .i64 (L.B k), .bool (L.S k)] 28) s0
      have x1 := carryA (.cells #[.slice a (L.N k) ca, .int .i64 (L.B k), .bool (L.S k)] 28) s1
      have x2 := carryA (.cells #[.slice a (L.N k) ca, .int .i64 (L.B k), .bool (L.S k)] 28) s2
      have xb := carryA (.cells #[.slice a (L.N k) ca, .int .i64 (L.B k), .bool (L.S k)] 28) b0
      have J0 := (OwnB.ints hO).below al
      have J1 := hI2.below al
      have hls : wr.heap.size < (wr.alloc (.cells #[.slice a (L.N k) ca, .int .i64 (L.B k), .bool (L.S k)] 28)).heap.size := by simp
      have lp : p < wr.heap.size := cell_lt s0
      generalize wr.alloc (.cells #[.slice a (L.N k) ca, .int .i64 (L.B k), .bool (L.S k)] 28) = W at *
      have lW : p < W.heap.size := by omega
      have lg : g2 < W.heap.size := by omega
      have gc := @gro_cell W
      go_cut [9, 10] (fun sp sb wx => ∃ (p' : Nat) (A : Option Addr) (k' : Nat), sp = .pointer (some ⟨p', 0, none⟩) ∧ sb = .bool R2.2 ∧ R2.1.1 ≤ k' ∧ k' ≤ 9223372036854775807 ∧ Below W.heap.size W wx ∧ KcL [(p', 0, .slice A R2.1.1 k'), (p', 1, .int .i64 R2.1.2.2.1), (p', 2, .bool R2.1.2.2.2)] wx ∧ OwnB W.heap.size wx.heap.size wx A R2.1.1 R2.1.2.1)
      case first =>
        refine region_plan (.takes [0, 1, 2, 3, 4, 5] (.fork 10 6 (.make 6 (.takes [7, 8, 9] (.make 11 .fin))) (.takes [7, 8, 9] (.make 10 (.make 11 .fin))))) 12 rfl (by kernel_rfl) ?_
        refine plan_takes ?_; simp only [pickOps, List.getElem?_cons_zero, List.getElem?_cons_succ]; (repeat (go_big_quiet_step (fail))); refine wpQuiet_nil ?_
        clear gc
        have hB := (Below.refl W.heap.size W).drew
        refine plan_fork ?_ ?_
        · skip
          have al := bal (Below.refl (W.drew).heap.size (W.drew)) (.cells #[.slice none 0 0, .int .i64 0, .bool false] 28)
          refine plan_val rfl rfl (.pointer (some ⟨(W.drew).heap.size, 0, none⟩)) (w'' := (W.drew).alloc (.cells #[.slice none 0 0, .int .i64 0, .bool false] 28)) (by kernel_rfl) (btr hB al) ?_
          have Zt := there_new (W.drew) (.slice none 0 0) (.int .i64 0) (.bool false) 28
          have Zb : (W.drew).heap.size < ((W.drew).alloc (.cells #[.slice none 0 0, .int .i64 0, .bool false] 28)).heap.size := by simp
          have Zl := hB.size
          replace hB := btr hB al
          refine plan_call rfl rfl 42 #[.agg #[.slice A0 m0 c0, .int .i64 bd0, .bool st0], .int .i64 1, .agg #[.slice a (L.N k) ca, .int .i64 (L.B k), .bool (L.S k)], .int .i64 (T k)] (by kernel_rfl) ?_
          refine (hM _ (J0.below hB) (J1.below hB)).mono ?_
          rintro e u3 ⟨v, rfl, ⟨A, k', rfl, kc1, kc2, hO⟩, hq⟩
          refine ⟨_, rfl, btr hB hq, ?_⟩
          have O := hO.ownB; have Ow := hB.size; clear hO
          have Zp := Zb
          replace Zt := there_below hq Zb Zt; replace Zb := Nat.lt_of_lt_of_le Zb hq.size
          replace hB := btr hB hq; clear hq
          refine plan_takes ?_; simp only [pickOps, List.getElem?_cons_zero, List.getElem?_cons_succ]
          refine quiet_do rfl (.tuple #[.agg #[.slice A R2.1.1 k', .int .i64 R2.1.2.2.1, .bool R2.1.2.2.2], .bool R2.2]) (fun _ => by kernel_rfl) ?_
          refine quiet_do rfl (.agg #[.slice A R2.1.1 k', .int .i64 R2.1.2.2.1, .bool R2.1.2.2.2]) (fun _ => by kernel_rfl) ?_
          refine quiet_do rfl (.bool R2.2) (fun _ => by kernel_rfl) ?_
          refine wpQuiet_nil ?_
          refine plan_store rfl rfl _ _ _ rfl _ (.slice A R2.1.1 k') (.int .i64 R2.1.2.2.1) (.bool R2.1.2.2.2) (by kernel_rfl) (by kernel_rfl) Zt (by kernel_rfl) (by simp [Value.oneCell']) hB (by first | exact Zl | omega) ?_
          intro wx hg hBx hK
          refine plan_fin ?_
          simp only [List.drop_succ_cons, List.drop_zero]
          go_wp2_with fail
          go_meet
          exact ⟨_, A, k', rfl, rfl, kc1, kc2, hBx, hK, (O.keep hg (fun g hg => by obtain rfl := Option.some.inj hg; first | exact .inl Zp | exact .inr (Nat.le_refl _))).wider Ow (by have := hg.size; (try simp at this); omega)⟩
        · skip
          refine plan_call rfl rfl 42 #[.agg #[.slice A0 m0 c0, .int .i64 bd0, .bool st0], .int .i64 1, .agg #[.slice a (L.N k) ca, .int .i64 (L.B k), .bool (L.S k)], .int .i64 (T k)] (by kernel_rfl) ?_
          refine (hM _ (J0.below hB) (J1.below hB)).mono ?_
          rintro e u3 ⟨v, rfl, ⟨A, k', rfl, kc1, kc2, hO⟩, hq⟩
          refine ⟨_, rfl, btr hB hq, ?_⟩
          have O := hO.ownB; have Ow := hB.size; clear hO
          replace hB := btr hB hq; clear hq
          refine plan_takes ?_; simp only [pickOps, List.getElem?_cons_zero, List.getElem?_cons_succ]
          refine quiet_do rfl (.tuple #[.agg #[.slice A R2.1.1 k', .int .i64 R2.1.2.2.1, .bool R2.1.2.2.2], .bool R2.2]) (fun _ => by kernel_rfl) ?_
          refine quiet_do rfl (.agg #[.slice A R2.1.1 k', .int .i64 R2.1.2.2.1, .bool R2.1.2.2.2]) (fun _ => by kernel_rfl) ?_
          refine quiet_do rfl (.bool R2.2) (fun _ => by kernel_rfl) ?_
          refine wpQuiet_nil ?_
          have al := bal (Below.refl (u3).heap.size (u3)) (.cells #[.slice none 0 0, .int .i64 0, .bool false] 28)
          refine plan_val rfl rfl (.pointer (some ⟨(u3).heap.size, 0, none⟩)) (w'' := (u3).alloc (.cells #[.slice none 0 0, .int .i64 0, .bool false] 28)) (by kernel_rfl) (btr hB al) ?_
          have Zt := there_new (u3) (.slice none 0 0) (.int .i64 0) (.bool false) 28
          have Zb : (u3).heap.size < ((u3).alloc (.cells #[.slice none 0 0, .int .i64 0, .bool false] 28)).heap.size := by simp
          have Zl := hB.size
          replace hB := btr hB al
          replace O := O.below al
          refine plan_store rfl rfl _ _ _ rfl _ (.slice A R2.1.1 k') (.int .i64 R2.1.2.2.1) (.bool R2.1.2.2.2) (by kernel_rfl) (by kernel_rfl) Zt (by kernel_rfl) (by simp [Value.oneCell']) hB (by first | exact Zl | omega) ?_
          intro wx hg hBx hK
          refine plan_fin ?_
          simp only [List.drop_succ_cons, List.drop_zero]
          go_wp2_with fail
          go_meet
          exact ⟨_, A, k', rfl, rfl, kc1, kc2, hBx, hK, (O.keep hg (fun g hg => by obtain rfl := Option.some.inj hg; first | exact .inl Zp | exact .inr (Nat.le_refl _))).wider Ow (by have := hg.size; (try simp at this); omega)⟩
      obtain ⟨w19, hwc⟩ : ∃ x, x = wc := ⟨_, rfl⟩
      subst hwc
      obtain ⟨p9, A9, k9, rfl, rfl, kc1, kc2, hq, ⟨n0, n1, n2, _⟩, O9⟩ := hcut
      clear gc hM J0 J1
      have lr : w.heap.size < wr.heap.size := cell_lt r0
      have hq2 := btr al hq
      replace r0 := carry hq2 r0
      replace r1 := carry hq2 r1
      replace r2 := carry hq2 r2
      replace s0 := carry hq2 s0
      replace s1 := carry hq2 s1
      replace s2 := carry hq2 s2
      replace fr := fun o => carryf hq2 (fr o) lr
      replace fs := fun o => carryf hq2 (fs o) lp
      replace hb := btr hb hq2
      clear hI2 hO x0 x1 x2 xb l0 l1 l2 a0 a1 a2 b0
      obtain ⟨⟨m9, Z9, bd9, st9⟩, ok9⟩ := R2
      simp only at n0 n1 n2 O9 kc1 hR4
      cases ok9
      · have HF := hid (farS_no3 (n := n) (L := L) (T := T) (k := k + 1) (by rw [HR2.out]) (by omega))
        go_wp2
        obtain ⟨t0, t1, t2⟩ := set3 r0 r1 r2 (.slice none 0 0) (.int .i64 0) (.bool false)
        refine bodyPost_ret (v := .tuple #[.agg #[.slice none 0 0, .int .i64 0, .bool false], .bool false]) (by simp [results, Try.results18, go_sem, t0, t1, t2]) rfl (by rw [HF.out]; exact farsum_zero (bst (bst (bst hb (Nat.le_refl _) _) (Nat.le_refl _) _) (Nat.le_refl _) _))
      · go_wp2
        go_roundw
        case rel =>
          obtain ⟨t0, t1, t2⟩ := set3 s0 s1 s2 (.slice A9 m9 k9) (.int .i64 bd9) (.bool st9)
          refine ⟨k + 1, by omega, by go_num, by rw [HR2.out], ?_⟩
          rw [HR2.out]
          exact ⟨A9, k9, W.heap.size, w19.heap.size, bst (bst (bst hb (by simp; omega) _) (by simp; omega) _) (by simp; omega) _, hp, kc1, kc2, by omega, .inl lW, (O9.keep (grownBy_setCell3 w19 p (.slice A9 m9 k9) (.int .i64 bd9) (.bool st9)) (fun g hg => by obtain rfl := Option.some.inj hg; exact .inl lW)), far3 _ _ _ (by omega) r0, far3 _ _ _ (by omega) r1, far3 _ _ _ (by omega) r2, t0, t1, t2, fun o => far3f _ _ _ (fr o), fun o => far3f _ _ _ (fs o)⟩
        case measure => simp [intOf]; omega
    · have hke : k = n := by omega
      subst hke
      have HT := hid (farS_yes HOK.out HS.out)
      obtain ⟨A0, c0, lo, hi, hb, hp, hc0, hc1, hlo, hlp, hO, r0, r1, r2, s0, s1, s2, fr, fs⟩ := hI
      go_wp2
      obtain ⟨t0, t1, t2⟩ := set3 r0 r1 r2 (.slice A0 (sumS L T k).1.1 c0) (.int .i64 (sumS L T k).1.2.2.1) (.bool (sumS L T k).1.2.2.2)
      refine bodyPost_ret (v := .tuple #[.agg #[.slice A0 (sumS L T k).1.1 c0, .int .i64 (sumS L T k).1.2.2.1, .bool (sumS L T k).1.2.2.2], .bool true]) (by simp [results, Try.results18, go_sem, t0, t1, t2]) rfl ?_
      rw [HT.out]
      refine ⟨_, by rw [HS.out], ⟨A0, c0, rfl, hc0, hc1, (hO.keep (grownBy_setCell3 wr w.heap.size _ _ _) (fun g hg => by obtain rfl := Option.some.inj hg; exact .inl hlo)).ownI (Nat.le_of_lt hlo)⟩, bst (bst (bst hb (Nat.le_refl _) _) (Nat.le_refl _) _) (Nat.le_refl _) _⟩
theorem farsum_any (A : Option Addr) (n c : Nat) (L : Lst) (B : Option Addr) (m d : Nat) (T : Nat → Int) (w : World) (hn : n ≤ 9223372036854775806) (hA : Lins w A n L) (hm : m ≤ 9223372036854775806) (hB : Ints w B m T) (hN : ∀ k, k < n → L.N k ≤ 1048576) :
    Calls Try.prog 18 #[.slice A n c, .slice B m d] w (SumP w (farS n L m T)) := by
  cases h : okS n L
  · rw [farS_no1 h]; exact farsum_a A n c L B m d w hn hA hN h
  by_cases e : m = n
  · subst e; exact farsum_y A m c L B d T w hn hA hB hN h
  · rw [farS_no2 e]; exact farsum_b A n c L B m d w hn hm hA hN h e
end Go.Proofs.Ytplocljoanaoeaa
