/- Contract of the model's FarSum. -/
import Derived.Test.YtplocljoanaoeaaFarF
import Derived.Test.YtplocljoanaoeaaFarJ
import Derived.Test.YtplocljoanaoeaaLinSB
import Derived.Test.YtplocljoanaoeaaFarK
namespace Go.Proofs.Ytplocljoanaoeaa
set_option linter.unusedVariables false
set_option linter.unusedSimpArgs false
open Go.RowKit
theorem sl3ok_at' {A : Option Addr} {n c : Nat} {L : Lst} {w : World} (hn : n ≤ 9223372036854775806) (hA : Lins w A n L) (hN : ∀ k, k < n → L.N k ≤ 1048576) {v : Bool} (h : okS n L = v) (W : World) (hb : Below w.heap.size w W) :
    Calls Try.prog 43 #[.slice A n c] W fun e w' => e = .returned (.bool v) ∧ Below W.heap.size W w' := by
  subst h; exact sl3ok_any A n c L W hn (hA.below hb) hN
theorem SumI.below {w : World} {p : Nat} {R : LinR} {w1 w2 : World} (h : SumI w p R w1) (hq : Below w1.heap.size w1 w2) : SumI w p R w2 := by
  obtain ⟨A, c, lo, hi, hb, hp, h1, h2, h3, h4, hO, r0, r1, r2, s0, s1, s2, fr, fs⟩ := h
  exact ⟨A, c, lo, hi, btr hb hq, hp, h1, h2, h3, h4, hO.below hq, carry hq r0, carry hq r1, carry hq r2, carry hq s0, carry hq s1, carry hq s2, fun o => carryf hq (fr o) (cell_lt r0), fun o => carryf hq (fs o) (cell_lt s0)⟩
set_option maxRecDepth 100000 in
set_option maxHeartbeats 2000000 in
theorem sfarsum_a (A : Option Addr) (n c : Nat) (L : Lst) (B : Option Addr) (m d : Nat) (w : World) (hn : n ≤ 9223372036854775806) (hA : Lins w A n L) (hN : ∀ k, k < n → L.N k ≤ 1048576) (h : okS n L = false) :
    Calls Try.prog 19 #[.slice A n c, .slice B m d] w (SumP w (zeroL, false)) := by
  have hO := fun W hb => sl3ok_at' (c := c) hn hA hN h W hb
  have hz := build_lin0
  have hz1 := build_lin1
  have hmk := mk4
  clear hA hN h
  go_enter Try.func19, Try.ntmps19
  go_wp2_with fail
  refine (hO _ (bal (bal (bal (Below.refl _ _) _) _) _)).mono ?_
  rintro e w1 ⟨rfl, hq⟩
  obtain ⟨hc, hf⟩ := bcell hq
  go_wp2_with fail
  have e0 : w1.cell? ⟨w.heap.size, 0, none⟩ = some (.slice none 0 0) := by rw [hc _ _ (by simp <;> omega)]; simp [go_sem]
  have e1 : w1.cell? ⟨w.heap.size, 1, none⟩ = some (.int .i64 0) := by rw [hc _ _ (by simp <;> omega)]; simp [go_sem]
  have e2 : w1.cell? ⟨w.heap.size, 2, none⟩ = some (.bool false) := by rw [hc _ _ (by simp <;> omega)]; simp [go_sem]
  obtain ⟨t0, t1, t2⟩ := set3 e0 e1 e2 (.slice none 0 0) (.int .i64 0) (.bool false)
  clear hc hf hO hz hz1 hmk
  refine bodyPost_ret (v := .tuple #[.agg #[.slice none 0 0, .int .i64 0, .bool false], .bool false]) (by simp [results, Try.results19, go_sem, t0, t1, t2]) rfl (farsum_zero ?_)
  clear e0 e1 e2 t0 t1 t2
  (repeat first | with_reducible exact Below.refl _ _ | with_reducible assumption | with_reducible refine Below.drew ?_ | with_reducible refine bdn ?_ _ | with_reducible refine bal ?_ _ | (with_reducible refine bst ?_ ?_ _; rotate_left; (simp <;> omega)) | (with_reducible refine btr ?_ (by with_reducible assumption)))
set_option maxRecDepth 100000 in
set_option maxHeartbeats 2000000 in
theorem sfarsum_b (A : Option Addr) (n c : Nat) (L : Lst) (B : Option Addr) (m d : Nat) (w : World) (hn : n ≤ 9223372036854775806) (hm : m ≤ 9223372036854775806) (hA : Lins w A n L) (hN : ∀ k, k < n → L.N k ≤ 1048576) (h : okS n L = true) (hmn : m ≠ n) :
    Calls Try.prog 19 #[.slice A n c, .slice B m d] w (SumP w (zeroL, false)) := by
  have hO := fun W hb => sl3ok_at' (c := c) hn hA hN h W hb
  have hz := build_lin0
  have hz1 := build_lin1
  have hmk := mk4
  have hd : ((m : Int) != n) = true := by simp; omega
  clear hA hN h hmn
  go_enter Try.func19, Try.ntmps19
  go_wp2_with fail
  refine (hO _ (bal (bal (bal (Below.refl _ _) _) _) _)).mono ?_
  rintro e w1 ⟨rfl, hq⟩
  obtain ⟨hc, hf⟩ := bcell hq
  go_wp2_with fail
  have e0 : w1.cell? ⟨w.heap.size, 0, none⟩ = some (.slice none 0 0) := by rw [hc _ _ (by simp <;> omega)]; simp [go_sem]
  have e1 : w1.cell? ⟨w.heap.size, 1, none⟩ = some (.int .i64 0) := by rw [hc _ _ (by simp <;> omega)]; simp [go_sem]
  have e2 : w1.cell? ⟨w.heap.size, 2, none⟩ = some (.bool false) := by rw [hc _ _ (by simp <;> omega)]; simp [go_sem]
  obtain ⟨t0, t1, t2⟩ := set3 e0 e1 e2 (.slice none 0 0) (.int .i64 0) (.bool false)
  clear hc hf hO hz hz1 hmk
  refine bodyPost_ret (v := .tuple #[.agg #[.slice none 0 0, .int .i64 0, .bool false], .bool false]) (by simp [results, Try.results19, go_sem, t0, t1, t2]) rfl (farsum_zero ?_)
  clear e0 e1 e2 t0 t1 t2
  (repeat first | with_reducible exact Below.refl _ _ | with_reducible assumption | with_reducible refine Below.drew ?_ | with_reducible refine bdn ?_ _ | with_reducible refine bal ?_ _ | (with_reducible refine bst ?_ ?_ _; rotate_left; (simp <;> omega)) | (with_reducible refine btr ?_ (by with_reducible assumption)))
set_option maxRecDepth 100000 in
set_option maxHeartbeats 4000000 in
theorem sfarsum_y (A : Option Addr) (n c : Nat) (L : Lst) (B : Option Addr) (d : Nat) (T : Nat → Int) (w : World) (hn : n ≤ 9223372036854775806) (hA : Lins w A n L) (hB : Ints w B n T) (hN : ∀ k, k < n → L.N k ≤ 1048576) (h : okS n L = true) :
    Calls Try.prog 19 #[.slice A n c, .slice B n d] w (SumP w (farS n L n T)) := by
  have hO := fun W hb => sl3ok_at' (c := c) hn hA hN h W hb
  have HOK := hid h; clear h
  have HNN := hid hN; clear hN
  have hz := build_lin0
  have hz1 := build_lin1
  have hmk := mk4
  go_enter Try.func19, Try.ntmps19
  go_wp2_with fail
  refine (hO _ (bal (bal (bal (Below.refl _ _) _) _) _)).mono ?_
  rintro e w1 ⟨rfl, hq⟩
  clear hO
  have hst : SumI w (w.heap.size + 1 + 1) (sumS L T 0).1 (((w.alloc (.cells #[.slice none 0 0, .int .i64 0, .bool false] 28)).alloc (.cells #[.int .i64 0, .int .i64 0, .int .i64 0, .int .i64 0] 3)).alloc (.cells #[.slice (some ⟨w.heap.size + 1, 0, none⟩) 4 4, .int .i64 0, .bool false] 28)) := by
    refine ⟨some ⟨w.heap.size + 1, 0, none⟩, 4, w.heap.size + 1, w.heap.size + 1 + 1, bal (bal (bal (Below.refl _ _) _) _) _, by omega, by simp [sumS], by omega, by omega, .inr (Nat.le_refl _), ?_, ?_, ?_, ?_, ?_, ?_, ?_, fun o => ?_, fun o => ?_⟩
    · refine .inr ⟨w.heap.size + 1, rfl, Nat.le_refl _, by omega, by simp, fun k hk => ?_⟩
      have hk4 : k < 4 := hk
      have hk' : k = 0 ∨ k = 1 ∨ k = 2 ∨ k = 3 := by omega
      rcases hk' with rfl | rfl | rfl | rfl <;> simp [go_sem, sumS]
    all_goals simp [go_sem, sumS]
  replace hst := hst.below hq
  clear hq
  go_wp2
  clear hmk hz1
  generalize hp : w.heap.size + 1 + 1 = p at hst ⊢
  clear hp
  go_loopw [7] (fun i wr => ∃ k : Nat, k ≤ n ∧ i = .int .i64 k ∧ (sumS L T k).2 = true ∧ SumI w p (sumS L T k).1 wr) (fun i _ => n - (intOf i).toNat)
  case atStart => exact ⟨0, Nat.zero_le _, rfl, rfl, hst⟩
  case round =>
    obtain ⟨k, hk, rfl, hk2, hI⟩ := hrel
    have HS := hid hk2; clear hk2 hst
    have hlen := sumS_len L T k
    by_cases hlt : k < n
    · rcases hA with h0 | ⟨g, off, rfl, hg, hcA⟩
      · omega
      rcases hB with h0 | ⟨g2, off2, rfl, hg2, hcB⟩
      · omega
      obtain ⟨a, ca, a0, a1, a2, _, hI2⟩ := hcA k hlt
      have hNk : L.N k ≤ 9223372036854775806 := Nat.le_trans (HNN.out k hlt) (by omega)
      obtain ⟨A0, c0, lo, hi, hb, hp, hc0, hc1, hlo, hlp, hO, r0, r1, r2, s0, s1, s2, fr, fs⟩ := hI
      have b0 := carry hb (hcB k hlt)
      replace a0 := carry hb a0
      replace a1 := carry hb a1
      replace a2 := carry hb a2
      have gg : g < wr.heap.size := cell_lt a0
      have gg2 : g2 < wr.heap.size := cell_lt b0
      replace hI2 := hI2.below hb
      clear hcA hcB hg hg2
      have hstep := sumS_succ HS.out
      have HST := hid hstep
      have hM := fun W (h1 : Ints W A0 (sumS L T k).1.1 (sumS L T k).1.2.1) (h2 : Ints W a (L.N k) (L.Z k)) => slinsum_any A0 (sumS L T k).1.1 c0 (sumS L T k).1.2.1 (sumS L T k).1.2.2.1 1 (sumS L T k).1.2.2.2 a (L.N k) ca (L.Z k) (L.B k) (T k) (L.S k) W (by omega) h1 (by omega) h2
      have hR4 := stepS_len (sumS L T k).1 L T k
      change ∀ W, _ → _ → Calls _ _ _ W (SumP W (stepS (sumS L T k).1 L T k)) at hM
      rw [← hstep] at hM hR4
      clear hstep
      generalize hR2 : sumS L T (k + 1) = R2 at hM hR4
      generalize hR : (sumS L T k).1 = R at *
      have HR2 := hid hR2; clear hR2
      have HR := hid hR; clear hR
      obtain ⟨m0, Z0, bd0, st0⟩ := R
      simp only at *
      go_upto_region 8 with fail
      have J0 := OwnB.ints hO
      have lp : p < wr.heap.size := cell_lt s0
      have hB := (Below.refl wr.heap.size wr).drew
      have J1 := J0.below hB
      have J2 := hI2.below hB
      have lr : w.heap.size < wr.heap.size := by omega
      clear hI2 J0
      go_cut [8] (fun sb wx => sb = .bool R2.2 ∧ SumI w p R2.1 wx)
      case first =>
        go_region_with (go_at_call 44; refine (hM _ J1 J2).mono ?_; rintro e w19 ⟨v, rfl, ⟨A9, k9, rfl, kc1, kc2, hO9⟩, hq⟩; have O9 := hO9.ownB; clear hO9; have hq2 := btr hB hq; replace s0 := carry hq2 s0; replace s1 := carry hq2 s1; replace s2 := carry hq2 s2; replace fs := fun o => carryf hq2 (fs o) lp)
        all_goals
          go_wp2_with fail
          go_meet
          replace r0 := carry hq2 r0
          replace r1 := carry hq2 r1
          replace r2 := carry hq2 r2
          replace fr := fun o => carryf hq2 (fr o) lr
          replace hb := btr hb hq2
          have hlo9 : p < wr.drew.heap.size := lp
          obtain ⟨t0, t1, t2⟩ := set3 s0 s1 s2 (.slice A9 R2.1.1 k9) (.int .i64 R2.1.2.2.1) (.bool R2.1.2.2.2)
          exact ⟨rfl, A9, k9, wr.drew.heap.size, w19.heap.size, bst (bst (bst hb (by simp; omega) _) (by simp; omega) _) (by simp; omega) _, hp, kc1, kc2, Nat.lt_trans hp hlo9, .inl hlo9, (O9.keep (grownBy_setCell3 w19 p _ _ _) (fun g hg => by obtain rfl := Option.some.inj hg; exact .inl hlo9)), far3 _ _ _ (by omega) r0, far3 _ _ _ (by omega) r1, far3 _ _ _ (by omega) r2, t0, t1, t2, fun o => far3f _ _ _ (fr o), fun o => far3f _ _ _ (fs o)⟩
      clear hb hp hc0 hc1 hlo hlp hO r0 r1 r2 s0 s1 s2 fr fs J1 J2 hB lr lp hM a0 a1 a2 b0
      obtain ⟨w19, hwc⟩ : ∃ x, x = wc := ⟨_, rfl⟩
      subst hwc
      obtain ⟨rfl, A9, k9, lo, hi, hb, hp, kc1, kc2, hlo, hlp, O9, r0, r1, r2, s0, s1, s2, fr, fs⟩ := hcut
      obtain ⟨⟨m9, Z9, bd9, st9⟩, ok9⟩ := R2
      simp only at O9 kc1 hR4 s0 s1 s2
      cases ok9
      · have HF := hid (farS_no3 (n := n) (L := L) (T := T) (k := k + 1) (by rw [HR2.out]) (by omega))
        go_wp2
        obtain ⟨t0, t1, t2⟩ := set3 r0 r1 r2 (.slice none 0 0) (.int .i64 0) (.bool false)
        refine bodyPost_ret (v := .tuple #[.agg #[.slice none 0 0, .int .i64 0, .bool false], .bool false]) (by simp [results, Try.results19, go_sem, t0, t1, t2]) rfl (by rw [HF.out]; exact farsum_zero (bst (bst (bst hb (Nat.le_refl _) _) (Nat.le_refl _) _) (Nat.le_refl _) _))
      · go_wp2
        go_roundw
        case rel =>
          refine ⟨k + 1, by omega, by go_num, by rw [HR2.out], ?_⟩
          rw [HR2.out]
          exact ⟨A9, k9, lo, hi, hb, hp, kc1, kc2, hlo, hlp, O9, r0, r1, r2, s0, s1, s2, fr, fs⟩
        case measure => simp [intOf]; omega
    · have hke : k = n := by omega
      subst hke
      have HT := hid (farS_yes HOK.out HS.out)
      obtain ⟨A0, c0, lo, hi, hb, hp, hc0, hc1, hlo, hlp, hO, r0, r1, r2, s0, s1, s2, fr, fs⟩ := hI
      go_wp2
      obtain ⟨t0, t1, t2⟩ := set3 r0 r1 r2 (.slice A0 (sumS L T k).1.1 c0) (.int .i64 (sumS L T k).1.2.2.1) (.bool (sumS L T k).1.2.2.2)
      refine bodyPost_ret (v := .tuple #[.agg #[.slice A0 (sumS L T k).1.1 c0, .int .i64 (sumS L T k).1.2.2.1, .bool (sumS L T k).1.2.2.2], .bool true]) (by simp [results, Try.results19, go_sem, t0, t1, t2]) rfl ?_
      rw [HT.out]
      refine ⟨_, by rw [HS.out], ⟨A0, c0, rfl, hc0, hc1, (hO.keep (grownBy_setCell3 wr w.heap.size _ _ _) (fun g hg => by obtain rfl := Option.some.inj hg; exact .inl hlo)).ownI (Nat.le_of_lt hlo)⟩, bst (bst (bst hb (Nat.le_refl _) _) (Nat.le_refl _) _) (Nat.le_refl _) _⟩
theorem sfarsum_any (A : Option Addr) (n c : Nat) (L : Lst) (B : Option Addr) (m d : Nat) (T : Nat → Int) (w : World) (hn : n ≤ 9223372036854775806) (hA : Lins w A n L) (hm : m ≤ 9223372036854775806) (hB : Ints w B m T) (hN : ∀ k, k < n → L.N k ≤ 1048576) :
    Calls Try.prog 19 #[.slice A n c, .slice B m d] w (SumP w (farS n L m T)) := by
  cases h : okS n L
  · rw [farS_no1 h]; exact sfarsum_a A n c L B m d w hn hA hN h
  by_cases e : m = n
  · subst e; exact sfarsum_y A m c L B d T w hn hA hB hN h
  · rw [farS_no2 e]; exact sfarsum_b A n c L B m d w hn hm hA hN h e
end Go.Proofs.Ytplocljoanaoeaa
