/- Walks of FnFarAll and FnFarTwice. -/
import Derived.Test.YtplocljoanaoeaaFvN
import Derived.Test.YtplocljoanaoeaaLawK
namespace Go.Proofs.Ytplocljoanaoeaa
set_option linter.unusedVariables false
set_option linter.unusedSimpArgs false
open Go.RowKit
def e1F (n m : Nat) (N D : Nat → Int) (k : Nat) : Bool := decide (n ≤ 20 ∧ m = 4 ∧ ∀ j, j < k → okB (N j) (D j) = true)
def e2F (n m : Nat) (L : Lst) (N D : Nat → Int) (k : Nat) : Bool := decide ((n ≤ 20 ∧ m = 4 ∧ ∀ j, j < m → okB (N j) (D j) = true) ∧ ∀ j, j < k → atB (L.N j) (L.Z j) (L.B j) (L.S j) m N D = (true, true))
theorem e1F_no {n m k : Nat} {N D : Nat → Int} (h : e1F n m N D k = false) : e1F n m N D (k + 1) = false := by
  unfold e1F at *
  rw [decide_eq_false_iff_not] at *
  exact fun x => h ⟨x.1, x.2.1, fun j hj => x.2.2 j (by omega)⟩
theorem e1F_yes {n m k : Nat} {N D : Nat → Int} (h : e1F n m N D k = true) : e1F n m N D (k + 1) = okB (N k) (D k) := by
  unfold e1F at *
  rw [decide_eq_true_iff] at h
  cases e : okB (N k) (D k)
  · rw [decide_eq_false_iff_not]
    intro x
    have := x.2.2 k (by omega)
    rw [e] at this
    cases this
  · rw [decide_eq_true_iff]
    refine ⟨h.1, h.2.1, fun j hj => ?_⟩
    by_cases hjk : j = k
    · subst hjk; exact e
    · exact h.2.2 j (by omega)
theorem e2F_zero (n m : Nat) (L : Lst) (N D : Nat → Int) : e2F n m L N D 0 = e1F n m N D m := by
  unfold e1F e2F
  congr 1
  exact propext ⟨fun h => h.1, fun h => ⟨h, fun j hj => by omega⟩⟩
theorem e2F_no {n m k : Nat} {L : Lst} {N D : Nat → Int} (h : e2F n m L N D k = false) : e2F n m L N D (k + 1) = false := by
  unfold e2F at *
  rw [decide_eq_false_iff_not] at *
  exact fun x => h ⟨x.1, fun j hj => x.2 j (by omega)⟩
theorem e2F_yes {n m k : Nat} {L : Lst} {N D : Nat → Int} {p q : Bool} (h : e2F n m L N D k = true) (hv : atB (L.N k) (L.Z k) (L.B k) (L.S k) m N D = (p, q)) : e2F n m L N D (k + 1) = (q && p) := by
  unfold e2F at *
  rw [decide_eq_true_iff] at h
  cases hpq : (q && p)
  · rw [decide_eq_false_iff_not]
    intro x
    have := x.2 k (by omega)
    rw [hv] at this
    injection this with h1 h2
    subst h1
    subst h2
    cases hpq
  · rw [decide_eq_true_iff]
    refine ⟨h.1, fun j hj => ?_⟩
    by_cases hjk : j = k
    · subst hjk
      rw [hv]
      cases q <;> cases p <;> simp at hpq ⊢
    · exact h.2 j (by omega)
theorem e2F_all {n m : Nat} {L : Lst} {N D : Nat → Int} : e2F n m L N D n = allB n L m N D := by
  unfold e2F allB
  congr 1
  refine propext ⟨fun h => ⟨h.2, okS_iff.2 ⟨h.1.1, fun k hk => (atB_true (h.2 k hk)).1⟩, valsB_iff.2 ⟨h.1.2.1, h.1.2.2⟩⟩, fun h => ⟨⟨(okS_iff.1 h.2.1).1, (valsB_iff.1 h.2.2).1, (valsB_iff.1 h.2.2).2⟩, h.1⟩⟩
set_option maxRecDepth 100000 in
set_option maxHeartbeats 16000000 in
theorem walk_FarAll (a0 : Option Addr) (len0 cap0 : Nat) (w : World) (hby : Bytes w.heap.size w a0 len0) (hlc : len0 ≤ cap0) (hc0 : cap0 ≤ 9223372036854775807) :
    Calls Try.prog 7 #[.slice a0 len0 cap0] w fun e w' => e = .returned (.bool true) ∧ Below w.heap.size w w' := by
  by_cases hbig : 1048576 < len0
  · go_enter Try.func7, Try.ntmps7
    go_wp2
    go_ret
    exact ⟨rfl, Below.refl _ _⟩
  go_enter Try.func7, Try.ntmps7
  go_wp2_with fail
  refine (drawfarall_any w.heap.size w a0 len0 cap0 (Nat.le_refl _) hby hlc hc0).mono ?_
  rintro e w1 ⟨A, n, c, L, D, m, d, N, M, rfl, hn, hA, hN0, hm, hV, hq⟩
  have hN : ∀ k, k < n → L.N k ≤ 1048576 := fun k hk => by have := hN0 k hk; omega
  have q0 := hq
  clear hq hN0 hby hlc hc0 hbig
  have hF := fun W h1 h2 => farall_any A n c L D m d N M W (by omega) h1 hN (by omega) h2
  have hP := fun W h1 h2 => sfarall_any A n c L D m d N M W (by omega) h1 hN (by omega) h2
  have hal := @e2F_all n m L N M
  generalize allB n L m N M = al at *
  have dk : (al != al) = false := by simp
  have dk2 : (al == al) = true := by simp
  go_wp2_with fail
  refine (hF _ hA hV).mono ?_
  rintro e w2 ⟨rfl, hq⟩
  replace hA := hA.below hq
  replace hV := hV.below hq
  replace q0 := btr q0 hq
  clear hq hF
  go_wp2_with fail
  refine (hP _ hA hV).mono ?_
  rintro e w3 ⟨rfl, hq⟩
  replace hA := hA.below hq
  replace hV := hV.below hq
  replace q0 := btr q0 hq
  clear hq hP
  have HAL := hid hal
  clear hal
  have h0 : e1F n m N M 0 = (decide (n ≤ 20) && decide (m = 4)) := by
    unfold e1F
    rw [← Bool.decide_and]
    congr 1
    exact propext ⟨fun h => ⟨h.1, h.2.1⟩, fun h => ⟨h.1, h.2, fun j hj => by omega⟩⟩
  obtain ⟨b0, hb0⟩ : ∃ b, b = e1F n m N M 0 := ⟨_, rfl⟩
  go_upto_region 7 with fail
  go_cut [6] (fun v wx => v = .bool b0 ∧ wx = w3)
  case first =>
    have HB := hid (hb0.trans h0)
    clear hb0 h0
    by_cases c1 : n ≤ 20
    · have d1 : decide ((n : Int) ≤ 20) = true := decide_eq_true (by omega)
      by_cases c2 : m = 4
      · have d2 : ((m : Int) == 4) = true := by simp; omega
        have HT := hid (show b0 = true from by rw [HB.out, decide_eq_true c1, decide_eq_true c2]; rfl)
        clear c1 c2
        go_wp2
        go_meet
        exact ⟨by rw [HT.out], rfl⟩
      · have d2 : ((m : Int) == 4) = false := by simp; omega
        have HT := hid (show b0 = false from by rw [HB.out, decide_eq_true c1, decide_eq_false c2]; rfl)
        clear c1 c2
        go_wp2
        go_meet
        exact ⟨by rw [HT.out], rfl⟩
    · have d1 : decide ((n : Int) ≤ 20) = false := decide_eq_false (by omega)
      have HT := hid (show b0 = false from by rw [HB.out, decide_eq_false c1]; rfl)
      clear c1
      go_wp2
      go_meet
      exact ⟨by rw [HT.out], rfl⟩
  case rest =>
    obtain ⟨rfl, hw⟩ := hcut
    replace hw := hw.symm
    subst hw
    clear h0
    go_wp2
    go_loopw [6, 7] (fun v i wr => ∃ k : Nat, k ≤ m ∧ i = .int .i64 k ∧ v = .bool (e1F n m N M k) ∧ Below w3.heap.size w3 wr) (fun _ i _ => m - (intOf i).toNat)
    case atStart => exact ⟨0, Nat.zero_le _, rfl, by rw [hb0], Below.refl _ _⟩
    case round =>
      obtain ⟨k, hk, rfl, rfl, hb⟩ := hrel
      by_cases hlt : k < m
      · cases he : e1F n m N M k
        · have HF := hid (e1F_no he)
          clear he
          go_wp2
          go_roundw
          case rel => exact ⟨k + 1, by omega, by go_num, by rw [HF.out], hb⟩
          case measure => simp [intOf]; omega
        · have HY := hid (e1F_yes he)
          rcases hV with h0 | ⟨g, off, rfl, hg, hcV⟩
          · omega
          obtain ⟨v0, v1⟩ := hcV k hlt
          replace v0 := carry hb v0
          replace v1 := carry hb v1
          clear hcV he
          go_wp2_with (go_at_call 29; refine (ratok_any (N k) (M k) _).mono ?_; rintro e w1 ⟨rfl, hq⟩)
          go_roundw
          case rel => exact ⟨k + 1, by omega, by go_num, by rw [HY.out], btr hb hq⟩
          case measure => simp [intOf]; omega
      · have hkm : k = m := by omega
        subst hkm
        have hA2 := hA.below hb
        have hV2 := hV.below hb
        have q2 := btr q0 hb
        clear hA hV
        go_wp2
        go_loopw [6, 8] (fun v i wy => ∃ j : Nat, j ≤ n ∧ i = .int .i64 j ∧ v = .bool (e2F n k L N M j) ∧ Below wr.heap.size wr wy) (fun _ i _ => n - (intOf i).toNat)
        case atStart => exact ⟨0, Nat.zero_le _, rfl, by rw [e2F_zero], Below.refl _ _⟩
        case round =>
          obtain ⟨j, hj, rfl, rfl, hb2⟩ := hrel
          by_cases hltj : j < n
          · rcases hA2 with h0 | ⟨g, off, rfl, hg, hcA⟩
            · omega
            obtain ⟨a, ca, a0, a1, a2, _, hI⟩ := hcA j hltj
            have hNj := hN j hltj
            replace a0 := carry hb2 a0
            replace a1 := carry hb2 a1
            replace a2 := carry hb2 a2
            rcases hat : atB (L.N j) (L.Z j) (L.B j) (L.S j) k N M with ⟨p, q⟩
            have hT := linat_atN (c := ca) (d := d) (by omega) (hI.below hb2) (by omega) (hV2.below hb2) hat
            clear hcA hI
            cases he : e2F n k L N M j
            · have HF := hid (e2F_no he)
              clear he hat
              go_wp2_with (go_at_call 21; refine hT.mono ?_; rintro e w1 ⟨rfl, hq⟩)
              go_roundw
              case rel => exact ⟨j + 1, by omega, by go_num, by rw [HF.out], btr hb2 hq⟩
              case measure => simp [intOf]; omega
            · have HY := hid (e2F_yes he hat)
              clear he hat
              cases q
              · go_wp2_with (go_at_call 21; refine hT.mono ?_; rintro e w1 ⟨rfl, hq⟩)
                go_roundw
                case rel => exact ⟨j + 1, by omega, by go_num, by rw [HY.out]; rfl, btr hb2 hq⟩
                case measure => simp [intOf]; omega
              · go_wp2_with (go_at_call 21; refine hT.mono ?_; rintro e w1 ⟨rfl, hq⟩)
                go_roundw
                case rel => exact ⟨j + 1, by omega, by go_num, by rw [HY.out]; rfl, btr hb2 hq⟩
                case measure => simp [intOf]; omega
          · have hjn : j = n := by omega
            subst hjn
            have HA2 := HAL.out
            generalize e2F j k L N M j = ee at *
            subst HA2
            go_wp2
            go_ret
            exact ⟨rfl, btr q2 hb2⟩
theorem sumS_T {L : Lst} {T : Nat → Int} : ∀ {k : Nat}, (sumS L T k).2 = true → ∀ j, j < k → 0 ≤ T j ∧ T j ≤ 1000000
  | 0, _, j, hj => by omega
  | k + 1, h, j, hj => by
    have hk : (sumS L T k).2 = true := by
      cases e : (sumS L T k).2
      · rw [sumS, if_neg (by rw [e]; simp)] at h; cases h
      · rfl
    by_cases e : j = k
    · subst e
      rw [sumS_succ hk] at h
      unfold stepS sumR at h
      split at h
      · rename_i e2; exact e2.2.2.2
      · cases h
    · exact sumS_T hk j (by omega)
/-- twice as often: twice as much -/
theorem sumS_two {L : Lst} {T : Nat → Int} : ∀ {k : Nat}, (sumS L T k).2 = true → (sumS L (fun j => 2 * T j) k).2 = true → (sumS L (fun j => 2 * T j) k).1.2.1 = (fun i => 2 * (sumS L T k).1.2.1 i) ∧ (sumS L (fun j => 2 * T j) k).1.2.2.1 = 2 * (sumS L T k).1.2.2.1 ∧ (sumS L (fun j => 2 * T j) k).1.2.2.2 = (sumS L T k).1.2.2.2
  | 0, _, _ => ⟨by funext i; simp [sumS], by simp [sumS], rfl⟩
  | k + 1, h, h2 => by
    have hk : (sumS L T k).2 = true := by
      cases e : (sumS L T k).2
      · rw [sumS, if_neg (by rw [e]; simp)] at h; cases h
      · rfl
    have hk2 : (sumS L (fun j => 2 * T j) k).2 = true := by
      cases e : (sumS L (fun j => 2 * T j) k).2
      · rw [sumS, if_neg (by rw [e]; simp)] at h2; cases h2
      · rfl
    obtain ⟨i1, i2, i3⟩ := sumS_two hk hk2
    rw [sumS_succ hk] at h ⊢
    rw [sumS_succ hk2] at h2 ⊢
    have hR : stepS (sumS L T k).1 L T k = ((stepS (sumS L T k).1 L T k).1, true) := Prod.ext rfl h
    have hR2 : stepS (sumS L (fun j => 2 * T j) k).1 L (fun j => 2 * T j) k = ((stepS (sumS L (fun j => 2 * T j) k).1 L (fun j => 2 * T j) k).1, true) := Prod.ext rfl h2
    obtain ⟨_, _, _, ht, _, e1⟩ := sum_true hR
    obtain ⟨_, _, _, _, _, e2⟩ := sum_true hR2
    rw [e1, e2]
    simp only
    rw [i1, i2, i3]
    refine ⟨?_, by grind, ?_⟩
    · funext i
      simp only [addZ]
      grind
    · unfold strB
      congr 2
      rw [decide_eq_decide]
      omega
theorem far_two {n : Nat} {L : Lst} {m : Nat} {T : Nat → Int} (h : farOkB (farS n L m T) = true) (h2 : (farS n L m (fun j => 2 * T j)).2 = true) : badB (farS n L m (fun j => 2 * T j)).1.1 (farS n L m (fun j => 2 * T j)).1.2.1 (farS n L m (fun j => 2 * T j)).1.2.2.1 (farS n L m (fun j => 2 * T j)).1.2.2.2 = true := by
  unfold farOkB at h
  rw [Bool.and_eq_true] at h
  unfold farS at h h2 ⊢
  split at h
  · rename_i e
    split at h2
    · rename_i e2
      rw [if_pos e2]
      obtain ⟨i1, i2, i3⟩ := sumS_two e.2.2 e2.2.2
      have hb := h.2
      unfold badB emptyB refB at hb ⊢
      simp only [Bool.and_eq_true, Bool.or_eq_true, decide_eq_true_eq] at hb ⊢
      obtain ⟨_, ⟨z0, z1, z2, z3⟩, hc⟩ := hb
      rw [i1, i2, i3]
      refine ⟨?_, ⟨by simp only; omega, by simp only; omega, by simp only; omega, by simp only; omega⟩, ?_⟩
      · rw [← i1, ← i2]
        cases n with
        | zero =>
            simp only [sumS] at hc
            rcases hc with hc | hc
            · omega
            · cases hc.2
        | succ q =>
            have hq2 : (sumS L (fun j => 2 * T j) q).2 = true := by
              cases e3 : (sumS L (fun j => 2 * T j) q).2
              · have := e2.2.2; rw [sumS, if_neg (by rw [e3]; simp)] at this; cases this
              · rfl
            have h3 := e2.2.2
            rw [sumS_succ hq2] at h3 ⊢
            exact sum_ok (Prod.ext rfl h3)
      · rcases hc with hc | hc
        · left; omega
        · right; exact ⟨by omega, hc.2⟩
    · cases h2
  · cases h.1
theorem far_T {n : Nat} {L : Lst} {m : Nat} {T : Nat → Int} (h : farOkB (farS n L m T) = true) : ∀ j, j < m → 0 ≤ T j ∧ T j ≤ 1000000 := by
  unfold farOkB at h
  rw [Bool.and_eq_true] at h
  unfold farS at h
  split at h
  · rename_i e
    intro j hj
    exact sumS_T e.2.2 j (by have := e.2.1; omega)
  · cases h.1
theorem own_emptyN (w : World) (t : TypeId) (size : Nat) : (w.alloc (.cells #[] t)).ownsRow w.heap.size t size (.slice (some ⟨w.heap.size, 0, none⟩) 0 0) 0 [] :=
  ⟨by simp, .inr ⟨w.heap.size, 0, #[], rfl, Nat.le_refl _, Deep.blk_alloc_new _ _, Nat.le_refl _, by unfold maxLen; omega, by simp, by simp⟩⟩
set_option maxRecDepth 100000 in
set_option maxHeartbeats 16000000 in
theorem walk_FarTwice (a0 : Option Addr) (len0 cap0 : Nat) (w : World) (hby : Bytes w.heap.size w a0 len0) (hlc : len0 ≤ cap0) (hc0 : cap0 ≤ 9223372036854775807) :
    Calls Try.prog 8 #[.slice a0 len0 cap0] w fun e w' => e = .returned (.bool true) ∧ Below w.heap.size w w' := by
  by_cases hbig : 1048576 < len0
  · go_enter Try.func8, Try.ntmps8
    go_wp2
    go_ret
    exact ⟨rfl, Below.refl _ _⟩
  go_enter Try.func8, Try.ntmps8
  go_wp2_with fail
  refine (drawfarok_any w.heap.size w a0 len0 cap0 (Nat.le_refl _) hby hlc hc0).mono ?_
  rintro e w1 ⟨A, n, c, L, B, m, d, T, rfl, hn, hA, hN0, hm, hB, hq⟩
  have hN : ∀ k, k < n → L.N k ≤ 1048576 := fun k hk => by have := hN0 k hk; omega
  have q0 := hq
  clear hq hN0 hby hlc hc0 hbig
  have hI := fun W h1 h2 => farok_any A n c L B m d T W (by omega) h1 (by omega) h2 hN
  have hP := fun W h1 h2 => sfarok_any A n c L B m d T W (by omega) h1 (by omega) h2 hN
  have hT2 := @far_two n L m T
  have hTb := @far_T n L m T
  generalize hk : farOkB (farS n L m T) = ok at *
  clear hk
  have dk : (ok != ok) = false := by simp
  have dk2 : (ok == ok) = true := by simp
  go_wp2_with fail
  refine (hI _ hA hB).mono ?_
  rintro e w3 ⟨rfl, hq⟩
  replace hA := hA.below hq
  replace hB := hB.below hq
  replace q0 := btr q0 hq
  clear hq hI
  go_wp2_with fail
  refine (hP _ hA hB).mono ?_
  rintro e w4 ⟨rfl, hq⟩
  replace hA := hA.below hq
  replace hB := hB.below hq
  replace q0 := btr q0 hq
  clear hq
  cases ok
  · go_wp2_with fail
    refine (hP _ hA hB).mono ?_
    rintro e w5 ⟨rfl, hq⟩
    go_wp2
    go_ret
    exact ⟨rfl, btr q0 hq⟩
  have HT2 := hid (hT2 rfl)
  have HTB := hid (hTb rfl)
  clear hT2 hTb hP
  have h0 : Below w4.heap.size w4 (w4.alloc (.cells #[] 3)) ∧ (w4.alloc (.cells #[] 3)).ownsRow w4.heap.size 3 1 (.slice (some ⟨w4.heap.size, 0, none⟩) 0 0) 0 (vals 0 (fun j => 2 * T j)) := ⟨bal (Below.refl _ _) _, own_emptyN w4 3 1⟩
  obtain ⟨i0, hi, hz0, hz1, hz2⟩ := info_parts infoI
  go_wp2
  go_loopw [6, 7] (fun v i wr => ∃ k : Nat, k ≤ m ∧ i = .int .i64 k ∧ Below w4.heap.size w4 wr ∧ wr.ownsRow w4.heap.size 3 1 v k (vals k (fun j => 2 * T j))) (fun _ i _ => m - (intOf i).toNat)
  case atStart => exact ⟨0, Nat.zero_le _, rfl, h0.1, h0.2⟩
  case round =>
    clear h0
    obtain ⟨k, hk, rfl, hb, ho⟩ := hrel
    by_cases hlt : k < m
    · obtain ⟨t0, t1⟩ := HTB.out k hlt
      rcases hB with h0 | ⟨gB, offB, rfl, hgB, hcB⟩
      · omega
      have c1 := carry hb (hcB k hlt)
      have hov : wrap64 (2 * T k) = 2 * T k := IntWalk.wrap64_in _ (by omega)
      have hal := bal (Below.refl wr.heap.size wr) (.cells #[.int .i64 (2 * T k)] 3)
      have hsz := hb.size
      clear hcB
      go_wp2_with ((at_builtin; refine wpList_append_own_at _ rfl _ _ 24 rfl w4.heap.size 3 i0 (.int .i64 0) 1 8 Try.underlying24 hi hz0 hz1 hz2 rfl (by decide) _ _ _ rfl (ho.alloc _) ⟨wr.heap.size, 0, none⟩ 1 1 [.int .i64 (2 * T k)] rfl rfl (cell_one_new _ _ _) (fun u hu => by simp at hu; subst hu; rfl) (by unfold maxLen; omega) (by omega) (by simp; omega) ?_; intro v' w5 hown hgrow _ _))
      go_roundw
      case rel =>
        refine ⟨k + 1, by omega, by go_num, (btr hb hal).grown hgrow (btr hb hal).size (fun j hj => (ho.lt j hj).1), ?_⟩
        rw [vals_snoc]
        exact hown
      case measure => simp [intOf]; omega
    · have hkm : k = m := by omega
      subst hkm
      obtain ⟨A2, c2, rfl⟩ := own_slice ho
      have hI2 : Ints wr A2 k (fun j => 2 * T j) := by
        by_cases hk0 : k = 0
        · exact .inl hk0
        · obtain ⟨A3, c3, e, _, _, hO⟩ := own_new (W := w4) (by omega) (Nat.le_refl _) ho
          injection e with e1 e2 e3
          subst e1
          exact hO.ownB.ints
      have hF := farsum_any A n c L A2 k c2 (fun j => 2 * T j) wr (by omega) (hA.below hb) (by omega) hI2 hN
      have q1 := btr q0 hb
      have hln := farS_len n L k (fun j => 2 * T j)
      rcases hFS : farS n L k (fun j => 2 * T j) with ⟨R, fine⟩
      have HT3 := HT2.out
      rw [hFS] at hF HT3 hln
      unfold SumP at hF
      simp only at hF HT3 hln
      clear hFS HT2 ho
      go_wp2_with fail
      refine hF.mono ?_
      rintro e w6 ⟨v6, rfl, ⟨A6, c6, rfl, _, _, O6⟩, hq⟩
      have I6 := O6.ownB.ints
      obtain ⟨x0, x1, x2⟩ := new3 w6 (.slice A6 R.1 c6) (.int .i64 R.2.2.1) (.bool R.2.2.2) 28
      have al := bal (Below.refl w6.heap.size w6) (.cells #[.slice A6 R.1 c6, .int .i64 R.2.2.1, .bool R.2.2.2] 28)
      cases fine
      · go_wp2
        go_ret
        exact ⟨rfl, btr (btr q1 hq) al⟩
      · have hbad := linbad_any A6 R.1 c6 R.2.1 R.2.2.1 R.2.2.2 _ (by omega) (I6.below al)
        rw [HT3 rfl] at hbad
        go_wp2_with fail
        refine hbad.mono ?_
        rintro e w7 ⟨rfl, hq7⟩
        go_wp2
        go_ret
        exact ⟨rfl, btr (btr (btr q1 hq) al) hq7⟩
end Go.Proofs.Ytplocljoanaoeaa
