/- The law FnLinBad: the walk. -/
import Derived.Test.YtbdmofmoegmigaaLinDH
import Derived.Test.YtbdmofmoegmigaaLinDG
import Derived.Test.YtbdmofmoegmigaaLinX
import Derived.Test.YtbdmofmoegmigaaLinBM
import Derived.Test.YtbdmofmoegmigaaLinAM
import Derived.Test.YtbdmofmoegmigaaBI
namespace Go.Proofs.Ytbdmofmoegmigaa
set_option linter.unusedVariables false
set_option linter.unusedSimpArgs false
open Go.RowKit
theorem atT_zero {Z N D : Nat → Int} : ∀ {k}, (∀ j, j < k → Z j = 0) → atT Z N D k = 0
  | 0, _ => rfl
  | k + 1, h => by
    show atT Z N D k * D k + Z k * N k * atP D k = 0
    rw [atT_zero (fun j hj => h j (by omega)), h k (by omega)]; simp
theorem at_empty {n m : Nat} {Z N D : Nat → Int} {b : Int} {s p : Bool} (h : atB n Z b s m N D = (p, true)) (he : emptyB Z = true) : p = !refB b s := by
  obtain ⟨h1, h2, x, y, h3, rfl⟩ := atB_true h
  have hb := inC_iff.1 (okL_iff.1 h1).2.2
  obtain ⟨_, _, hP, _⟩ := at_spec h3
  have he' : Z 0 = 0 ∧ Z 1 = 0 ∧ Z 2 = 0 ∧ Z 3 = 0 := by simpa [emptyB] using he
  rw [keep_at h3 hb, atT_zero (fun j hj => by rcases lt4 hj with rfl | rfl | rfl | rfl <;> omega)]
  unfold refB
  generalize atP D 4 = P at hP
  rcases Int.lt_trichotomy b 0 with hn | hn | hn
  · have := Int.mul_neg_of_neg_of_pos hn hP
    have e1 : ¬ (0 < b * P) := by omega
    have e2 : ¬ (0 = b * P) := by omega
    simp [hn, e1, e2]
  · subst hn
    cases s <;> simp
  · have := Int.mul_pos hn hP
    have e1 : ¬ b < 0 := by omega
    have e2 : ¬ b = 0 := by omega
    simp [this, e1, e2]
theorem empty_neg (Z : Nat → Int) : emptyB (fun k => -Z k) = emptyB Z := by
  unfold emptyB
  simp only [Int.neg_eq_zero]
theorem bad_not {n : Nat} {Z : Nat → Int} {b : Int} {s : Bool} (h : okL n Z b = true) : badB (notR n Z b s).1 (notR n Z b s).2.1 (notR n Z b s).2.2.1 (notR n Z b s).2.2.2 = freeB n Z b s ∧ freeB (notR n Z b s).1 (notR n Z b s).2.1 (notR n Z b s).2.2.1 (notR n Z b s).2.2.2 = badB n Z b s := by
  rw [notR_yes h]
  unfold badB freeB
  simp only [okL_neg h, h, Bool.true_and, empty_neg, ref_not]
  simp
theorem bad_at {n m : Nat} {Z N D : Nat → Int} {b : Int} {s p : Bool} (h : atB n Z b s m N D = (p, true)) (hb : badB n Z b s = true) : p = false := by
  unfold badB at hb
  simp only [Bool.and_eq_true] at hb
  rw [at_empty h hb.2.1, hb.2.2]; rfl
theorem free_at {n m : Nat} {Z N D : Nat → Int} {b : Int} {s p : Bool} (h : atB n Z b s m N D = (p, true)) (hb : freeB n Z b s = true) : p = true := by
  unfold freeB at hb
  simp only [Bool.and_eq_true] at hb
  rw [at_empty h hb.2.1]; exact hb.2.2
theorem bad_free (n : Nat) (Z : Nat → Int) (b : Int) (s : Bool) : (badB n Z b s && freeB n Z b s) = false := by
  unfold badB freeB
  cases okL n Z b <;> cases emptyB Z <;> cases refB b s <;> rfl
theorem linat_atB {A : Option Addr} {n c : Nat} {Z : Nat → Int} {b : Int} {s : Bool} {B : Option Addr} {m d : Nat} {N D : Nat → Int} {w : World} (hn : n ≤ 9223372036854775806) (hA : Ints w A n Z) (hm : m ≤ 9223372036854775806) (hB : Rats w B m N D) {p q : Bool} (h : atB n Z b s m N D = (p, q)) :
    Calls Try.prog 32 #[.agg #[.slice A n c, .int .i64 b, .bool s], .slice B m d] w fun e w' => e = .returned (.tuple #[.bool p, .bool q]) ∧ Below w.heap.size w w' := by
  have := linat_any A n c Z b s B m d N D w hn hA hm hB
  rw [h] at this
  exact this
set_option maxRecDepth 100000 in
set_option maxHeartbeats 16000000 in
theorem walk_LinBad (a0 : Option Addr) (len0 cap0 : Nat) (w : World) (hby : Bytes w.heap.size w a0 len0) (hlc : len0 ≤ cap0) (hc : cap0 ≤ 9223372036854775807) :
    Calls Try.prog 5 #[.slice a0 len0 cap0] w fun e w' => e = .returned (.bool true) ∧ Below w.heap.size w w' := by
  by_cases hbig : 1048576 < len0
  · go_enter Try.func5, Try.ntmps5
    go_wp2
    go_ret
    exact ⟨rfl, Below.refl _ _⟩
  go_enter Try.func5, Try.ntmps5
  go_wp2_with fail
  refine (drawlinbad_any w.heap.size w a0 len0 cap0 (Nat.le_refl _) hby hlc hc).mono ?_
  rintro e w1 ⟨A, n, c, Z, b, s, rfl, hn, hA, hq⟩
  have q0 := bal hq (.cells #[.slice A n c, .int .i64 b, .bool s] 25)
  go_wp2_with fail
  refine (drawlinat_any w.heap.size _ a0 len0 cap0 q0.size (hby.below q0) hlc hc).mono ?_
  rintro e w2 ⟨A2, n2, c2, Z2, b2, s2, D, m, d, N, M, rfl, _, _, hm, hD, hq2⟩
  have H := (KcL.new3 w1 (.slice A n c) (.int .i64 b) (.bool s) 25 rfl).below hq2
  have I1 := (hA.below (bal (Below.refl w1.heap.size w1) (.cells #[.slice A n c, .int .i64 b, .bool s] 25))).below hq2
  replace q0 := btr q0 hq2
  clear hq hq2 hA hby hlc hc hbig
  have al := bal (Below.refl w2.heap.size w2) (.cells #[.slice A2 n2 c2, .int .i64 b2, .bool s2] 25)
  replace H := H.below al
  replace I1 := I1.below al
  replace hD := hD.below al
  replace q0 := btr q0 al
  clear al
  have hbf := bad_free n Z b s
  have hba := fun p h => bad_at (n := n) (Z := Z) (b := b) (s := s) (m := m) (N := N) (D := M) (p := p) h
  have hfa := fun p h => free_at (n := n) (Z := Z) (b := b) (s := s) (m := m) (N := N) (D := M) (p := p) h
  have hnt := fun h => bad_not (n := n) (Z := Z) (b := b) (s := s) h
  have cB := fun W h => linbad_any A n c Z b s W (by omega) h
  have cF := fun W h => linfree_any A n c Z b s W (by omega) h
  have sB := fun W h => slinbad_any A n c Z b s W (by omega) h
  have sF := fun W h => slinfree_any A n c Z b s W (by omega) h
  generalize badB n Z b s = bad at *
  generalize freeB n Z b s = free at *
  rcases hp : atB n Z b s m N M with ⟨p1, p2⟩
  have HH := H; obtain ⟨c0, c1, cc2, _⟩ := HH
  go_wp2_with fail
  refine (cB _ I1).mono ?_
  rintro e w3 ⟨rfl, hq⟩
  clear c0 c1 cc2
  replace H := H.below hq
  replace I1 := I1.below hq
  replace hD := hD.below hq
  replace q0 := btr q0 hq
  clear hq
  have HH := H; obtain ⟨c0, c1, cc2, _⟩ := HH
  go_wp2_with fail
  refine (cF _ I1).mono ?_
  rintro e w4 ⟨rfl, hq⟩
  clear c0 c1 cc2
  replace H := H.below hq
  replace I1 := I1.below hq
  replace hD := hD.below hq
  replace q0 := btr q0 hq
  clear hq
  have HH := H; obtain ⟨c0, c1, cc2, _⟩ := HH
  go_wp2_with fail
  refine (sB _ I1).mono ?_
  rintro e w5 ⟨rfl, hq⟩
  clear c0 c1 cc2
  replace H := H.below hq
  replace I1 := I1.below hq
  replace hD := hD.below hq
  replace q0 := btr q0 hq
  clear hq
  have HH := H; obtain ⟨c0, c1, cc2, _⟩ := HH
  have db : (bad != bad) = false := by simp
  have df : (free != free) = false := by simp
  go_wp2_with fail
  refine (sF _ I1).mono ?_
  rintro e w6 ⟨rfl, hq⟩
  clear c0 c1 cc2
  replace H := H.below hq
  replace I1 := I1.below hq
  replace hD := hD.below hq
  replace q0 := btr q0 hq
  clear hq
  have HH := H; obtain ⟨c0, c1, cc2, _⟩ := HH
  cases bad
  · cases free
    · skip
      go_wp2_with fail
      refine (linat_atB (by omega) I1 (by omega) hD hp).mono ?_
      rintro e w7 ⟨rfl, hq⟩
      clear c0 c1 cc2
      replace H := H.below hq
      replace I1 := I1.below hq
      replace q0 := btr q0 hq
      clear hq hD
      have HH := H; obtain ⟨c0, c1, cc2, _⟩ := HH
      cases p2
      · skip
        go_wp2_with fail
        refine (linnot_any A n c Z b s _ (by omega) I1).mono ?_
        rintro e w8 ⟨v, rfl, ⟨A3, c3, rfl, hn3, hc3, O3⟩, hq⟩
        clear c0 c1 cc2
        have hR4 := notR_len n Z b s
        generalize notR n Z b s = R at O3 hn3 hc3 hR4 hnt ⊢
        replace H := H.below hq
        replace I1 := I1.below hq
        replace q0 := btr q0 hq
        have I3 := O3.ints
        clear hq O3
        have al := bal (Below.refl w8.heap.size w8) (.cells #[.slice A3 R.1 c3, .int .i64 R.2.2.1, .bool R.2.2.2] 25)
        replace H := (H.below al).app (KcL.new3 w8 (.slice A3 R.1 c3) (.int .i64 R.2.2.1) (.bool R.2.2.2) 25 rfl)
        replace I1 := I1.below al
        replace I3 := I3.below al
        replace q0 := btr q0 al
        have HH := H; obtain ⟨c0, c1, cc2, d0, d1, d2, _⟩ := HH
        go_wp2_with fail
        cases hv : okL n Z b
        · refine (slinok_at (by omega) I1 hv _ (Below.refl _ _)).mono ?_
          rintro e w9 ⟨rfl, hq⟩
          go_wp2
          go_ret
          exact ⟨rfl, btr q0 hq⟩
        · obtain ⟨e1, e2⟩ := hnt hv
          refine (slinok_at (by omega) I1 hv _ (Below.refl _ _)).mono ?_
          rintro e w9 ⟨rfl, hq⟩
          clear c0 c1 cc2 d0 d1 d2
          replace H := H.below hq
          replace I3 := I3.below hq
          replace q0 := btr q0 hq
          clear hq
          have HH := H; obtain ⟨c0, c1, cc2, d0, d1, d2, _⟩ := HH
          go_wp2_with fail
          refine (linbad_any A3 R.1 c3 R.2.1 R.2.2.1 R.2.2.2 _ (by omega) I3).mono ?_
          rintro e wa ⟨rfl, hq⟩
          rw [e1]
          clear c0 c1 cc2 d0 d1 d2
          replace H := H.below hq
          replace I3 := I3.below hq
          replace q0 := btr q0 hq
          clear hq
          have HH := H; obtain ⟨c0, c1, cc2, d0, d1, d2, _⟩ := HH
          go_wp2_with fail
          refine (linfree_any A3 R.1 c3 R.2.1 R.2.2.1 R.2.2.2 _ (by omega) I3).mono ?_
          rintro e wb ⟨rfl, hq⟩
          rw [e2]
          go_wp2
          go_ret
          exact ⟨rfl, btr q0 hq⟩
      · cases p1
        · skip
          go_wp2_with fail
          refine (linnot_any A n c Z b s _ (by omega) I1).mono ?_
          rintro e w8 ⟨v, rfl, ⟨A3, c3, rfl, hn3, hc3, O3⟩, hq⟩
          clear c0 c1 cc2
          have hR4 := notR_len n Z b s
          generalize notR n Z b s = R at O3 hn3 hc3 hR4 hnt ⊢
          replace H := H.below hq
          replace I1 := I1.below hq
          replace q0 := btr q0 hq
          have I3 := O3.ints
          clear hq O3
          have al := bal (Below.refl w8.heap.size w8) (.cells #[.slice A3 R.1 c3, .int .i64 R.2.2.1, .bool R.2.2.2] 25)
          replace H := (H.below al).app (KcL.new3 w8 (.slice A3 R.1 c3) (.int .i64 R.2.2.1) (.bool R.2.2.2) 25 rfl)
          replace I1 := I1.below al
          replace I3 := I3.below al
          replace q0 := btr q0 al
          have HH := H; obtain ⟨c0, c1, cc2, d0, d1, d2, _⟩ := HH
          go_wp2_with fail
          cases hv : okL n Z b
          · refine (slinok_at (by omega) I1 hv _ (Below.refl _ _)).mono ?_
            rintro e w9 ⟨rfl, hq⟩
            go_wp2
            go_ret
            exact ⟨rfl, btr q0 hq⟩
          · obtain ⟨e1, e2⟩ := hnt hv
            refine (slinok_at (by omega) I1 hv _ (Below.refl _ _)).mono ?_
            rintro e w9 ⟨rfl, hq⟩
            clear c0 c1 cc2 d0 d1 d2
            replace H := H.below hq
            replace I3 := I3.below hq
            replace q0 := btr q0 hq
            clear hq
            have HH := H; obtain ⟨c0, c1, cc2, d0, d1, d2, _⟩ := HH
            go_wp2_with fail
            refine (linbad_any A3 R.1 c3 R.2.1 R.2.2.1 R.2.2.2 _ (by omega) I3).mono ?_
            rintro e wa ⟨rfl, hq⟩
            rw [e1]
            clear c0 c1 cc2 d0 d1 d2
            replace H := H.below hq
            replace I3 := I3.below hq
            replace q0 := btr q0 hq
            clear hq
            have HH := H; obtain ⟨c0, c1, cc2, d0, d1, d2, _⟩ := HH
            go_wp2_with fail
            refine (linfree_any A3 R.1 c3 R.2.1 R.2.2.1 R.2.2.2 _ (by omega) I3).mono ?_
            rintro e wb ⟨rfl, hq⟩
            rw [e2]
            go_wp2
            go_ret
            exact ⟨rfl, btr q0 hq⟩
        · skip
          go_wp2_with fail
          refine (linnot_any A n c Z b s _ (by omega) I1).mono ?_
          rintro e w8 ⟨v, rfl, ⟨A3, c3, rfl, hn3, hc3, O3⟩, hq⟩
          clear c0 c1 cc2
          have hR4 := notR_len n Z b s
          generalize notR n Z b s = R at O3 hn3 hc3 hR4 hnt ⊢
          replace H := H.below hq
          replace I1 := I1.below hq
          replace q0 := btr q0 hq
          have I3 := O3.ints
          clear hq O3
          have al := bal (Below.refl w8.heap.size w8) (.cells #[.slice A3 R.1 c3, .int .i64 R.2.2.1, .bool R.2.2.2] 25)
          replace H := (H.below al).app (KcL.new3 w8 (.slice A3 R.1 c3) (.int .i64 R.2.2.1) (.bool R.2.2.2) 25 rfl)
          replace I1 := I1.below al
          replace I3 := I3.below al
          replace q0 := btr q0 al
          have HH := H; obtain ⟨c0, c1, cc2, d0, d1, d2, _⟩ := HH
          go_wp2_with fail
          cases hv : okL n Z b
          · refine (slinok_at (by omega) I1 hv _ (Below.refl _ _)).mono ?_
            rintro e w9 ⟨rfl, hq⟩
            go_wp2
            go_ret
            exact ⟨rfl, btr q0 hq⟩
          · obtain ⟨e1, e2⟩ := hnt hv
            refine (slinok_at (by omega) I1 hv _ (Below.refl _ _)).mono ?_
            rintro e w9 ⟨rfl, hq⟩
            clear c0 c1 cc2 d0 d1 d2
            replace H := H.below hq
            replace I3 := I3.below hq
            replace q0 := btr q0 hq
            clear hq
            have HH := H; obtain ⟨c0, c1, cc2, d0, d1, d2, _⟩ := HH
            go_wp2_with fail
            refine (linbad_any A3 R.1 c3 R.2.1 R.2.2.1 R.2.2.2 _ (by omega) I3).mono ?_
            rintro e wa ⟨rfl, hq⟩
            rw [e1]
            clear c0 c1 cc2 d0 d1 d2
            replace H := H.below hq
            replace I3 := I3.below hq
            replace q0 := btr q0 hq
            clear hq
            have HH := H; obtain ⟨c0, c1, cc2, d0, d1, d2, _⟩ := HH
            go_wp2_with fail
            refine (linfree_any A3 R.1 c3 R.2.1 R.2.2.1 R.2.2.2 _ (by omega) I3).mono ?_
            rintro e wb ⟨rfl, hq⟩
            rw [e2]
            go_wp2
            go_ret
            exact ⟨rfl, btr q0 hq⟩
    · skip
      go_wp2_with fail
      refine (linat_atB (by omega) I1 (by omega) hD hp).mono ?_
      rintro e w7 ⟨rfl, hq⟩
      clear c0 c1 cc2
      replace H := H.below hq
      replace I1 := I1.below hq
      replace q0 := btr q0 hq
      clear hq hD
      have HH := H; obtain ⟨c0, c1, cc2, _⟩ := HH
      cases p2
      · skip
        go_wp2_with fail
        refine (linnot_any A n c Z b s _ (by omega) I1).mono ?_
        rintro e w8 ⟨v, rfl, ⟨A3, c3, rfl, hn3, hc3, O3⟩, hq⟩
        clear c0 c1 cc2
        have hR4 := notR_len n Z b s
        generalize notR n Z b s = R at O3 hn3 hc3 hR4 hnt ⊢
        replace H := H.below hq
        replace I1 := I1.below hq
        replace q0 := btr q0 hq
        have I3 := O3.ints
        clear hq O3
        have al := bal (Below.refl w8.heap.size w8) (.cells #[.slice A3 R.1 c3, .int .i64 R.2.2.1, .bool R.2.2.2] 25)
        replace H := (H.below al).app (KcL.new3 w8 (.slice A3 R.1 c3) (.int .i64 R.2.2.1) (.bool R.2.2.2) 25 rfl)
        replace I1 := I1.below al
        replace I3 := I3.below al
        replace q0 := btr q0 al
        have HH := H; obtain ⟨c0, c1, cc2, d0, d1, d2, _⟩ := HH
        go_wp2_with fail
        cases hv : okL n Z b
        · refine (slinok_at (by omega) I1 hv _ (Below.refl _ _)).mono ?_
          rintro e w9 ⟨rfl, hq⟩
          go_wp2
          go_ret
          exact ⟨rfl, btr q0 hq⟩
        · obtain ⟨e1, e2⟩ := hnt hv
          refine (slinok_at (by omega) I1 hv _ (Below.refl _ _)).mono ?_
          rintro e w9 ⟨rfl, hq⟩
          clear c0 c1 cc2 d0 d1 d2
          replace H := H.below hq
          replace I3 := I3.below hq
          replace q0 := btr q0 hq
          clear hq
          have HH := H; obtain ⟨c0, c1, cc2, d0, d1, d2, _⟩ := HH
          go_wp2_with fail
          refine (linbad_any A3 R.1 c3 R.2.1 R.2.2.1 R.2.2.2 _ (by omega) I3).mono ?_
          rintro e wa ⟨rfl, hq⟩
          rw [e1]
          clear c0 c1 cc2 d0 d1 d2
          replace H := H.below hq
          replace I3 := I3.below hq
          replace q0 := btr q0 hq
          clear hq
          have HH := H; obtain ⟨c0, c1, cc2, d0, d1, d2, _⟩ := HH
          go_wp2_with fail
          refine (linfree_any A3 R.1 c3 R.2.1 R.2.2.1 R.2.2.2 _ (by omega) I3).mono ?_
          rintro e wb ⟨rfl, hq⟩
          rw [e2]
          go_wp2
          go_ret
          exact ⟨rfl, btr q0 hq⟩
      · obtain rfl := hfa _ hp (by trivial)
        go_wp2_with fail
        refine (linnot_any A n c Z b s _ (by omega) I1).mono ?_
        rintro e w8 ⟨v, rfl, ⟨A3, c3, rfl, hn3, hc3, O3⟩, hq⟩
        clear c0 c1 cc2
        have hR4 := notR_len n Z b s
        generalize notR n Z b s = R at O3 hn3 hc3 hR4 hnt ⊢
        replace H := H.below hq
        replace I1 := I1.below hq
        replace q0 := btr q0 hq
        have I3 := O3.ints
        clear hq O3
        have al := bal (Below.refl w8.heap.size w8) (.cells #[.slice A3 R.1 c3, .int .i64 R.2.2.1, .bool R.2.2.2] 25)
        replace H := (H.below al).app (KcL.new3 w8 (.slice A3 R.1 c3) (.int .i64 R.2.2.1) (.bool R.2.2.2) 25 rfl)
        replace I1 := I1.below al
        replace I3 := I3.below al
        replace q0 := btr q0 al
        have HH := H; obtain ⟨c0, c1, cc2, d0, d1, d2, _⟩ := HH
        go_wp2_with fail
        cases hv : okL n Z b
        · refine (slinok_at (by omega) I1 hv _ (Below.refl _ _)).mono ?_
          rintro e w9 ⟨rfl, hq⟩
          go_wp2
          go_ret
          exact ⟨rfl, btr q0 hq⟩
        · obtain ⟨e1, e2⟩ := hnt hv
          refine (slinok_at (by omega) I1 hv _ (Below.refl _ _)).mono ?_
          rintro e w9 ⟨rfl, hq⟩
          clear c0 c1 cc2 d0 d1 d2
          replace H := H.below hq
          replace I3 := I3.below hq
          replace q0 := btr q0 hq
          clear hq
          have HH := H; obtain ⟨c0, c1, cc2, d0, d1, d2, _⟩ := HH
          go_wp2_with fail
          refine (linbad_any A3 R.1 c3 R.2.1 R.2.2.1 R.2.2.2 _ (by omega) I3).mono ?_
          rintro e wa ⟨rfl, hq⟩
          rw [e1]
          clear c0 c1 cc2 d0 d1 d2
          replace H := H.below hq
          replace I3 := I3.below hq
          replace q0 := btr q0 hq
          clear hq
          have HH := H; obtain ⟨c0, c1, cc2, d0, d1, d2, _⟩ := HH
          go_wp2_with fail
          refine (linfree_any A3 R.1 c3 R.2.1 R.2.2.1 R.2.2.2 _ (by omega) I3).mono ?_
          rintro e wb ⟨rfl, hq⟩
          rw [e2]
          go_wp2
          go_ret
          exact ⟨rfl, btr q0 hq⟩
  · obtain rfl : free = false := by simpa using hbf
    go_wp2_with fail
    refine (linat_atB (by omega) I1 (by omega) hD hp).mono ?_
    rintro e w7 ⟨rfl, hq⟩
    clear c0 c1 cc2
    replace H := H.below hq
    replace I1 := I1.below hq
    replace q0 := btr q0 hq
    clear hq hD
    have HH := H; obtain ⟨c0, c1, cc2, _⟩ := HH
    cases p2
    · skip
      go_wp2_with fail
      refine (linnot_any A n c Z b s _ (by omega) I1).mono ?_
      rintro e w8 ⟨v, rfl, ⟨A3, c3, rfl, hn3, hc3, O3⟩, hq⟩
      clear c0 c1 cc2
      have hR4 := notR_len n Z b s
      generalize notR n Z b s = R at O3 hn3 hc3 hR4 hnt ⊢
      replace H := H.below hq
      replace I1 := I1.below hq
      replace q0 := btr q0 hq
      have I3 := O3.ints
      clear hq O3
      have al := bal (Below.refl w8.heap.size w8) (.cells #[.slice A3 R.1 c3, .int .i64 R.2.2.1, .bool R.2.2.2] 25)
      replace H := (H.below al).app (KcL.new3 w8 (.slice A3 R.1 c3) (.int .i64 R.2.2.1) (.bool R.2.2.2) 25 rfl)
      replace I1 := I1.below al
      replace I3 := I3.below al
      replace q0 := btr q0 al
      have HH := H; obtain ⟨c0, c1, cc2, d0, d1, d2, _⟩ := HH
      go_wp2_with fail
      cases hv : okL n Z b
      · refine (slinok_at (by omega) I1 hv _ (Below.refl _ _)).mono ?_
        rintro e w9 ⟨rfl, hq⟩
        go_wp2
        go_ret
        exact ⟨rfl, btr q0 hq⟩
      · obtain ⟨e1, e2⟩ := hnt hv
        refine (slinok_at (by omega) I1 hv _ (Below.refl _ _)).mono ?_
        rintro e w9 ⟨rfl, hq⟩
        clear c0 c1 cc2 d0 d1 d2
        replace H := H.below hq
        replace I3 := I3.below hq
        replace q0 := btr q0 hq
        clear hq
        have HH := H; obtain ⟨c0, c1, cc2, d0, d1, d2, _⟩ := HH
        go_wp2_with fail
        refine (linbad_any A3 R.1 c3 R.2.1 R.2.2.1 R.2.2.2 _ (by omega) I3).mono ?_
        rintro e wa ⟨rfl, hq⟩
        rw [e1]
        clear c0 c1 cc2 d0 d1 d2
        replace H := H.below hq
        replace I3 := I3.below hq
        replace q0 := btr q0 hq
        clear hq
        have HH := H; obtain ⟨c0, c1, cc2, d0, d1, d2, _⟩ := HH
        go_wp2_with fail
        refine (linfree_any A3 R.1 c3 R.2.1 R.2.2.1 R.2.2.2 _ (by omega) I3).mono ?_
        rintro e wb ⟨rfl, hq⟩
        rw [e2]
        go_wp2
        go_ret
        exact ⟨rfl, btr q0 hq⟩
    · obtain rfl := hba _ hp (by trivial)
      go_wp2_with fail
      refine (linnot_any A n c Z b s _ (by omega) I1).mono ?_
      rintro e w8 ⟨v, rfl, ⟨A3, c3, rfl, hn3, hc3, O3⟩, hq⟩
      clear c0 c1 cc2
      have hR4 := notR_len n Z b s
      generalize notR n Z b s = R at O3 hn3 hc3 hR4 hnt ⊢
      replace H := H.below hq
      replace I1 := I1.below hq
      replace q0 := btr q0 hq
      have I3 := O3.ints
      clear hq O3
      have al := bal (Below.refl w8.heap.size w8) (.cells #[.slice A3 R.1 c3, .int .i64 R.2.2.1, .bool R.2.2.2] 25)
      replace H := (H.below al).app (KcL.new3 w8 (.slice A3 R.1 c3) (.int .i64 R.2.2.1) (.bool R.2.2.2) 25 rfl)
      replace I1 := I1.below al
      replace I3 := I3.below al
      replace q0 := btr q0 al
      have HH := H; obtain ⟨c0, c1, cc2, d0, d1, d2, _⟩ := HH
      go_wp2_with fail
      cases hv : okL n Z b
      · refine (slinok_at (by omega) I1 hv _ (Below.refl _ _)).mono ?_
        rintro e w9 ⟨rfl, hq⟩
        go_wp2
        go_ret
        exact ⟨rfl, btr q0 hq⟩
      · obtain ⟨e1, e2⟩ := hnt hv
        refine (slinok_at (by omega) I1 hv _ (Below.refl _ _)).mono ?_
        rintro e w9 ⟨rfl, hq⟩
        clear c0 c1 cc2 d0 d1 d2
        replace H := H.below hq
        replace I3 := I3.below hq
        replace q0 := btr q0 hq
        clear hq
        have HH := H; obtain ⟨c0, c1, cc2, d0, d1, d2, _⟩ := HH
        go_wp2_with fail
        refine (linbad_any A3 R.1 c3 R.2.1 R.2.2.1 R.2.2.2 _ (by omega) I3).mono ?_
        rintro e wa ⟨rfl, hq⟩
        rw [e1]
        clear c0 c1 cc2 d0 d1 d2
        replace H := H.below hq
        replace I3 := I3.below hq
        replace q0 := btr q0 hq
        clear hq
        have HH := H; obtain ⟨c0, c1, cc2, d0, d1, d2, _⟩ := HH
        go_wp2_with fail
        refine (linfree_any A3 R.1 c3 R.2.1 R.2.2.1 R.2.2.2 _ (by omega) I3).mono ?_
        rintro e wb ⟨rfl, hq⟩
        rw [e2]
        go_wp2
        go_ret
        exact ⟨rfl, btr q0 hq⟩
end Go.Proofs.Ytbdmofmoegmigaa
