/- Walk of the exact law of LogTrim. -/
import Derived.Test.YtjnngijilkdhbaaLgE
import Derived.Test.YtjnngijilkdhbaaLgF
import Derived.Test.YtjnngijilkdhbaaCuN
import Derived.Test.YtjnngijilkdhbaaBT
namespace Go.Proofs.Ytjnngijilkdhbaa
set_option linter.unusedVariables false
set_option linter.unusedSimpArgs false
open Go.RowKit
theorem RN.ssf {w0 W : World} {A : Option Addr} {n c : Nat} {M : Lls} (h : RN w0 W (.slice A n c) n M) : SSF w0.heap.size W.heap.size W A n M := by
  obtain ⟨xs, LA, LC, h1, h2, h3⟩ := h
  by_cases h0 : n = 0
  · exact .inl h0
  rcases h1.2 with ⟨_, h⟩ | ⟨g, cap, cur, e, hgb, hh, _⟩
  · exact absurd h h0
  injection e with e1 _ e3
  subst e1 e3
  have hl := (Array.getElem?_eq_some_iff.1 hh).1
  refine .inr ⟨g, LA, LC, rfl, hgb, hl, hl, fun k hk => ?_, fun k hk => ?_, h3⟩
  · rw [h1.cellAt k (by omega), (h2 k hk).1]
  · obtain ⟨A', c', e, hO⟩ := own_numsF (W := w0) (Nat.le_refl _) (h2 k hk).2
    injection e with e _ _
    rw [e]
    exact hO.ownB
theorem trimM_bd (n : Nat) (L : Lls) (m : Int) (B : Nat) : ∀ (j : Nat) (s : Nat × Lls), (∀ k, k < s.1 → s.2.N k ≤ B) → (trimM n L m j s).1 ≤ s.1 ∧ ∀ k, k < (trimM n L m j s).1 → (trimM n L m j s).2.N k ≤ B
  | 0, s, h => ⟨Nat.le_refl _, h⟩
  | i + 1, s, h => by
    have h2 : (stepM n L m i s).1 ≤ s.1 ∧ ∀ k, k < (stepM n L m i s).1 → (stepM n L m i s).2.N k ≤ B := by
      unfold stepM
      split
      · refine ⟨Nat.sub_le _ _, fun k hk => ?_⟩
        simp only at hk ⊢
        by_cases e : k < i
        · simp only [dropM, catL, if_pos e]; exact h k (by omega)
        · simp only [dropM, catL, if_neg e, shM]; exact h _ (by omega)
      · exact ⟨Nat.le_refl _, h⟩
    have h3 := trimM_bd n L m B i (stepM n L m i s) h2.2
    exact ⟨Nat.le_trans h3.1 h2.1, h3.2⟩
theorem trimS_bd {n : Nat} {L : Lls} {m : Int} {N : Nat} {M : Lls} {B : Nat} (h : ∀ k, k < N → M.N k ≤ B) : (trimS n L m N M).1 ≤ N ∧ ∀ k, k < (trimS n L m N M).1 → (trimS n L m N M).2.N k ≤ B := by
  unfold trimS
  split
  · exact trimM_bd n L m B (N - 1) (N, M) h
  · exact ⟨Nat.zero_le _, fun k hk => absurd hk (Nat.not_lt_zero _)⟩
set_option maxHeartbeats 16000000 in
set_option maxRecDepth 100000 in
theorem walk_ExactLogTrim (m : Int) (A : Option Addr) (n c : Nat) (L : Lls) (G : Option Addr) (K cG : Nat) (M : Lls) (w : World) (hn : n ≤ 9223372036854775807) (hA : IntSS w A n L) (hK : K ≤ 9223372036854775807) (hG : IntSS w G K M) :
    Calls Try.prog 5 #[.agg #[.int .i64 m, .slice A n c], .slice G K cG] w fun e w' => e = .returned (.bool true) ∧ Below w.heap.size w w' := by
  have q0 := bal (Below.refl w.heap.size w) (.cells #[.int .i64 m, .slice A n c] 28)
  obtain ⟨x0, x1⟩ := pair_new w (.int .i64 m) (.slice A n c) 28
  have z0 : (w.alloc (.cells #[.int .i64 m, .slice A n c] 28)).heap.size = w.heap.size + 1 := World.size_alloc _ _
  have hS := szcnf_any A n c L m 1048576 _ hn (by omega) (hA.below q0)
  go_enter Try.func5, Try.ntmps5
  go_upto_region 2 with fail
  generalize w.alloc (.cells #[.int .i64 m, .slice A n c] 28) = w0 at *
  replace z0 : w.heap.size + 1 ≤ w0.heap.size := by omega
  go_wp2_with fail
  refine (hS).mono ?_
  rintro e w1 ⟨⟨r, rfl, hr⟩, hq⟩
  have z1 := hq.size
  replace q0 := btr q0 (hq)
  replace x0 := carry (hq) x0
  replace x1 := carry (hq) x1
  clear hq hS
  by_cases hneg : r < 0
  · have d1 : decide (r < 0) = true := by simpa using hneg
    go_wp2
    go_ret
    exact ⟨rfl, q0⟩
  have d1 : decide (r < 0) = false := by simpa using hneg
  obtain ⟨r1, r2, hn1, hN⟩ := hr.resolve_left hneg
  have hn2 : n ≤ 1048576 := by omega
  have hL : ∀ k, k < n → L.N k ≤ 1048576 := fun k hk => by have := hN k hk; omega
  have hT := fun W (h : Below w.heap.size w W) => tocnfD_any A n c L m W hn2 (hA.below h) hL
  have hS := szintss_any G K cG M r w1 hK ⟨r1, r2⟩ (hG.below q0)
  clear hr hneg hn1 hN
  go_wp2_with fail
  refine hS.mono ?_
  rintro e _ ⟨⟨r', rfl, hr⟩, rfl⟩
  clear hS d1
  by_cases hneg : r' < 0
  · have d1 : decide (r' < 0) = true := by simpa using hneg
    go_wp2
    go_ret
    exact ⟨rfl, q0⟩
  have d1 : decide (r' < 0) = false := by simpa using hneg
  obtain ⟨_, _, hn1, hN'⟩ := hr.resolve_left hneg
  have hK2 : K ≤ 1048576 := by omega
  have hM : ∀ k, k < K → M.N k ≤ 1048576 := fun k hk => by have := hN' k hk; omega
  have hU := fun W (h : Below w.heap.size w W) => tointssD_any G K cG M W hK2 (hG.below h) hM
  obtain ⟨s, hs⟩ : ∃ s, s = trimS n L m K M := ⟨_, rfl⟩
  obtain ⟨ok, hok⟩ : ∃ ok, ok = (lokB n L m K M && leB K M) := ⟨_, rfl⟩
  have hP : ∀ A' B' W, IntSS W A' n L → IntSS W B' K M → Calls Try.prog 18 #[.agg #[.int .i64 m, .slice A' n n], .slice B' K K] W fun e w' => (∃ v, e = .returned (.tuple #[v, .bool ok]) ∧ RN W w' v s.1 s.2) ∧ Below W.heap.size W w' := fun A' B' W h1 h2 => by
    rw [hs, hok]; exact slogtrim_any A' n n L m B' K K M W (by omega) (by omega) ⟨Nat.le_refl _, by omega⟩ h1 h2 hM
  have hI : ∀ A' B' W, IntSS W A' n L → IntSS W B' K M → Calls Try.prog 19 #[.agg #[.int .i64 m, .slice A' n n], .slice B' K K] W fun e w' => (∃ v, e = .returned (.tuple #[v, .bool ok]) ∧ RN W w' v s.1 s.2) ∧ Below W.heap.size W w' := fun A' B' W h1 h2 => by
    rw [hs, hok]; exact logtrim_any A' n n L m B' K K M W (by omega) (by omega) ⟨Nat.le_refl _, by omega⟩ h1 h2 hM
  obtain ⟨hs1, hs2⟩ : s.1 ≤ 1048576 ∧ ∀ k, k < s.1 → s.2.N k ≤ 1048576 := by
    rw [hs]; exact ⟨Nat.le_trans (trimS_bd hM).1 hK2, (trimS_bd hM).2⟩
  obtain ⟨sn, sm⟩ := s
  simp only at hP hI hs1 hs2
  have hmk := mkI_bd 1 L n hL (by omega) n (Nat.le_refl _)
  have HL := hid hL
  have HM := hid hM
  have HS := hid hs2
  clear hr hneg hn1 hN' hA hG hL hM hs hok hs2 r1 r2
  have dk : (ok != ok) = false := by simp
  go_wp2_with fail
  refine (hT _ q0).mono ?_
  rintro e w2 ⟨A2, rfl, hO2, hq⟩
  have z2 := hq.size
  replace q0 := btr q0 (hq)
  replace x0 := carry (hq) x0
  replace x1 := carry (hq) x1
  have O2 := hO2.ssb
  clear hq hO2
  go_wp2_with fail
  refine (hU _ q0).mono ?_
  rintro e w3 ⟨A3, rfl, hO3, hq⟩
  have z3 := hq.size
  replace q0 := btr q0 (hq)
  replace x0 := carry (hq) x0
  replace x1 := carry (hq) x1
  replace O2 := SSB.below (hq) O2
  have O3 := hO3.ssb
  clear hq hO3
  go_wp2_with fail
  refine (hP _ _ w3 (O2.intss HL.out) (O3.intss HM.out)).mono ?_
  rintro e w4 ⟨⟨v4, rfl, hR4⟩, hq⟩
  have z4 := hq.size
  replace q0 := btr q0 (hq)
  replace x0 := carry (hq) x0
  replace x1 := carry (hq) x1
  replace O2 := SSB.below (hq) O2
  replace O3 := SSB.below (hq) O3
  obtain ⟨A4, c4, rfl, _⟩ := hR4.slice2
  have F4 := hR4.ssf
  clear hq hR4 hP
  clear O2 O3
  go_wp2_with fail
  refine (hT _ q0).mono ?_
  rintro e w5 ⟨A5, rfl, hO5, hq⟩
  have z5 := hq.size
  replace q0 := btr q0 (hq)
  replace x0 := carry (hq) x0
  replace x1 := carry (hq) x1
  replace F4 := SSF.below (hq) F4
  have O5 := hO5.ssb
  clear hq hO5
  have b0 := (pair_new w5 (.int .i64 m) (.slice A5 n n) 31).1
  have b1 := (pair_new w5 (.int .i64 m) (.slice A5 n n) 31).2
  have hq := bal (Below.refl w5.heap.size w5) (.cells #[.int .i64 m, .slice A5 n n] 31)
  replace q0 := btr q0 (hq)
  replace x0 := carry (hq) x0
  replace x1 := carry (hq) x1
  replace F4 := SSF.below (hq) F4
  replace O5 := SSB.below (hq) O5
  have zb : (w5.alloc (.cells #[.int .i64 m, .slice A5 n n] 31)).heap.size = w5.heap.size + 1 := World.size_alloc _ _
  clear hq
  go_upto_region 10 with fail
  obtain ⟨wb, hwb⟩ : ∃ wb, wb = w5.alloc (.cells #[.int .i64 m, .slice A5 n n] 31) := ⟨_, rfl⟩
  rw [← hwb] at x0 x1 F4 O5 b0 b1 zb q0 ⊢
  clear hwb
  go_wp2_with fail
  refine (hU _ q0).mono ?_
  rintro e w6 ⟨A6, rfl, hO6, hq⟩
  have z6 := hq.size
  replace q0 := btr q0 (hq)
  replace x0 := carry (hq) x0
  replace x1 := carry (hq) x1
  replace F4 := SSF.below (hq) F4
  replace O5 := SSB.below (hq) O5
  replace b0 := carry (hq) b0
  replace b1 := carry (hq) b1
  have O6 := hO6.ssb
  clear hq hO6
  go_wp2_with fail
  refine (hI _ _ w6 (O5.intss HL.out) (O6.intss HM.out)).mono ?_
  rintro e w7 ⟨⟨v7, rfl, hR7⟩, hq⟩
  have z7 := hq.size
  replace q0 := btr q0 (hq)
  replace x0 := carry (hq) x0
  replace x1 := carry (hq) x1
  replace F4 := SSF.below (hq) F4
  replace O5 := SSB.below (hq) O5
  replace b0 := carry (hq) b0
  replace b1 := carry (hq) b1
  replace O6 := SSB.below (hq) O6
  obtain ⟨A7, c7, rfl, _⟩ := hR7.slice2
  have F7 := hR7.ssf
  clear hq hR7
  go_wp2_with fail
  refine (eqintss_same A7 A4 sn c7 c4 sm w7 (by omega) (F7.intss HS.out) (F4.intss HS.out)).mono ?_
  rintro e w8 ⟨rfl, hq⟩
  have z8 := hq.size
  replace q0 := btr q0 (hq)
  replace x0 := carry (hq) x0
  replace x1 := carry (hq) x1
  replace F4 := SSF.below (hq) F4
  replace O5 := SSB.below (hq) O5
  replace b0 := carry (hq) b0
  replace b1 := carry (hq) b1
  replace O6 := SSB.below (hq) O6
  replace F7 := SSF.below (hq) F7
  clear hq
  have l0 := cell_lt x0
  have l1 := cell_lt b0
  have gc := @gro_cell w8
  go_wp2_with fail
  refine region_grow_call 2 rfl (by kernel_rfl) (by kernel_rfl) rfl ?_; simp only [List.take_succ_cons, List.take_zero]; (repeat (go_big_quiet_step (fail))); refine wpQuiet_nil ?_
  intro w9 hq
  clear gc l0 l1
  refine ⟨15, #[.agg #[.int .i64 m, .slice A n c]], by kernel_rfl, ?_⟩
  refine (hT _ (btr q0 hq)).mono ?_
  rintro e w10 ⟨A9, rfl, hO9, hr⟩
  refine ⟨_, rfl, btr hq hr, ?_⟩
  have z10 := (btr hq hr).size
  replace q0 := btr q0 (btr hq hr)
  replace x0 := carry (btr hq hr) x0
  replace x1 := carry (btr hq hr) x1
  replace F4 := SSF.below (btr hq hr) F4
  replace O5 := SSB.below (btr hq hr) O5
  replace b0 := carry (btr hq hr) b0
  replace b1 := carry (btr hq hr) b1
  replace O6 := SSB.below (btr hq hr) O6
  replace F7 := SSF.below (btr hq hr) F7
  have O9 := hO9.ssb
  clear hq hr hO9
  go_wp2_with fail
  refine (eqcnf_same A5 A9 n n n L m w10 (by omega) (O5.intss HL.out) (O9.intss HL.out)).mono ?_
  rintro e w11 ⟨rfl, hq⟩
  have z11 := hq.size
  replace q0 := btr q0 (hq)
  replace x0 := carry (hq) x0
  replace x1 := carry (hq) x1
  replace F4 := SSF.below (hq) F4
  replace O5 := SSB.below (hq) O5
  replace b0 := carry (hq) b0
  replace b1 := carry (hq) b1
  replace O6 := SSB.below (hq) O6
  replace F7 := SSF.below (hq) F7
  replace O9 := SSB.below (hq) O9
  clear hq
  clear O9
  go_wp2_with fail
  refine (hU _ q0).mono ?_
  rintro e w12 ⟨A11, rfl, hO11, hq⟩
  have z12 := hq.size
  replace q0 := btr q0 (hq)
  replace x0 := carry (hq) x0
  replace x1 := carry (hq) x1
  replace F4 := SSF.below (hq) F4
  replace O5 := SSB.below (hq) O5
  replace b0 := carry (hq) b0
  replace b1 := carry (hq) b1
  replace O6 := SSB.below (hq) O6
  replace F7 := SSF.below (hq) F7
  have O11 := hO11.ssb
  clear hq hO11
  go_wp2_with fail
  refine (eqintss_same A6 A11 K K K M w12 (by omega) (O6.intss HM.out) (O11.intss HM.out)).mono ?_
  rintro e w13 ⟨rfl, hq⟩
  have z13 := hq.size
  replace q0 := btr q0 (hq)
  replace x0 := carry (hq) x0
  replace x1 := carry (hq) x1
  replace F4 := SSF.below (hq) F4
  replace O5 := SSB.below (hq) O5
  replace b0 := carry (hq) b0
  replace b1 := carry (hq) b1
  replace O6 := SSB.below (hq) O6
  replace F7 := SSF.below (hq) F7
  replace O11 := SSB.below (hq) O11
  clear hq
  clear O11
  go_wp2_with fail
  refine (markcnf_any _ _ A5 n n L m 1 w13 (by omega) hn2 HL.out (by omega) O5).mono ?_
  rintro e w14 ⟨rfl, hw⟩
  clear O5 b0 b1
  have z14 := hw.size
  replace q0 := hw.below q0 (by omega)
  replace x0 := hw.cell x0 (by omega)
  replace x1 := hw.cell x1 (by omega)
  replace F4 := F4.wrt hw (by omega)
  replace O6 := O6.wrt hw (by omega)
  replace F7 := F7.wrt hw (by omega)
  clear hw
  generalize mkI 1 L n = k1 at *
  have hmk2 := mkI_bd k1 M K HM.out (by omega) K (Nat.le_refl _)
  have dn : decide (mkI k1 M K < 0) = false := decide_eq_false (by omega)
  go_wp2_with fail
  refine (markintssH_any _ _ A6 K K M k1 w14 hK2 HM.out (by omega) O6).mono ?_
  rintro e w15 ⟨rfl, _, hw⟩
  clear O6
  have z15 := hw.size
  replace q0 := hw.below q0 (by omega)
  replace x0 := hw.cell x0 (by omega)
  replace x1 := hw.cell x1 (by omega)
  replace F4 := F4.wrt hw (by omega)
  replace F7 := F7.wrt hw (by omega)
  clear hw
  generalize mkI k1 M K = k2 at *
  go_wp2_with fail
  refine (eqintss_same A7 A4 sn c7 c4 sm w15 (by omega) (F7.intss HS.out) (F4.intss HS.out)).mono ?_
  rintro e w16 ⟨rfl, hq⟩
  have z16 := hq.size
  replace q0 := btr q0 (hq)
  replace x0 := carry (hq) x0
  replace x1 := carry (hq) x1
  replace F4 := SSF.below (hq) F4
  replace F7 := SSF.below (hq) F7
  clear hq
  have hmk3 := mkI_bd 1 sm sn HS.out (by omega) sn (Nat.le_refl _)
  have dn3 : decide (mkI 1 sm sn < 0) = false := decide_eq_false (by omega)
  have dn4 : (mkI 1 sm sn != mkI 1 sm sn) = false := by simp
  go_wp2_with fail
  refine (markssf_any _ _ A7 sn c7 sm 1 w16 (by omega) HS.out (by omega) F7).mono ?_
  rintro e w17 ⟨rfl, M7, hw⟩
  clear F7
  have z17 := hw.size
  replace q0 := hw.below q0 (by omega)
  replace x0 := hw.cell x0 (by omega)
  replace x1 := hw.cell x1 (by omega)
  replace F4 := F4.wrt hw (by omega)
  clear hw
  have HMN : ∀ k, k < sn → (mixI 1 sm sn).N k ≤ 1048576 := fun k hk => HS.out k hk
  have hH := fun W (h : IntSS W A7 sn (mixI 1 sm sn)) => heldintss_any A7 sn c7 sm 1 W (by omega) HS.out (by omega) h
  go_wp2_with fail
  refine (hH _ (M7.intss HMN)).mono ?_
  rintro e _ ⟨rfl, rfl⟩
  go_wp2_with fail
  refine (hT _ q0).mono ?_
  rintro e w18 ⟨A18, rfl, hO18, hq⟩
  have z18 := hq.size
  replace q0 := btr q0 (hq)
  replace x0 := carry (hq) x0
  replace x1 := carry (hq) x1
  replace F4 := SSF.below (hq) F4
  replace M7 := SSF.below (hq) M7
  have O18 := hO18.ssb
  clear hq hO18
  go_wp2_with fail
  refine (hU _ q0).mono ?_
  rintro e w19 ⟨A19, rfl, hO19, hq⟩
  have z19 := hq.size
  replace q0 := btr q0 (hq)
  replace x0 := carry (hq) x0
  replace x1 := carry (hq) x1
  replace F4 := SSF.below (hq) F4
  replace M7 := SSF.below (hq) M7
  replace O18 := SSB.below (hq) O18
  have O19 := hO19.ssb
  clear hq hO19
  go_wp2_with fail
  refine (hI _ _ w19 (O18.intss HL.out) (O19.intss HM.out)).mono ?_
  rintro e w20 ⟨⟨v20, rfl, hR20⟩, hq⟩
  have z20 := hq.size
  replace q0 := btr q0 (hq)
  replace x0 := carry (hq) x0
  replace x1 := carry (hq) x1
  replace F4 := SSF.below (hq) F4
  replace M7 := SSF.below (hq) M7
  replace O18 := SSB.below (hq) O18
  replace O19 := SSB.below (hq) O19
  obtain ⟨A20, c20, rfl, _⟩ := hR20.slice2
  have F20 := hR20.ssf
  clear hq hR20
  clear O18 O19
  go_wp2_with fail
  refine (eqintss_same A20 A4 sn c20 c4 sm w20 (by omega) (F20.intss HS.out) (F4.intss HS.out)).mono ?_
  rintro e w21 ⟨rfl, hq⟩
  have z21 := hq.size
  replace q0 := btr q0 (hq)
  replace x0 := carry (hq) x0
  replace x1 := carry (hq) x1
  replace F4 := SSF.below (hq) F4
  replace M7 := SSF.below (hq) M7
  replace F20 := SSF.below (hq) F20
  clear hq
  go_wp2_with fail
  refine (hH _ (M7.intss HMN)).mono ?_
  rintro e _ ⟨rfl, rfl⟩
  go_wp2_with fail
  go_ret
  exact ⟨rfl, q0⟩
end Go.Proofs.Ytjnngijilkdhbaa
