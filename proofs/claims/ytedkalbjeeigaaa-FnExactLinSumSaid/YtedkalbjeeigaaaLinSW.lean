/- Walk of the exact law of LinSum. -/
import Derived.Test.YtedkalbjeeigaaaMark
import Derived.Test.YtedkalbjeeigaaaLinSE
import Derived.Test.YtedkalbjeeigaaaPlanB
namespace Go.Proofs.Ytedkalbjeeigaaa
set_option linter.unusedVariables false
set_option linter.unusedSimpArgs false
open Go.RowKit
theorem KcL.two (w : World) (x0 x1 x2 y0 y1 y2 : Value) (t : TypeId) : KcL [(w.heap.size, 0, x0), (w.heap.size, 1, x1), (w.heap.size, 2, x2), (w.heap.size + 1, 0, y0), (w.heap.size + 1, 1, y1), (w.heap.size + 1, 2, y2)] ((w.alloc (.cells #[x0, x1, x2] t)).alloc (.cells #[y0, y1, y2] t)) :=
  (KcL.alloc (KcL.new3 w x0 x1 x2 t rfl) _).app (KcL.new3 (w.alloc (.cells #[x0, x1, x2] t)) y0 y1 y2 t (by simp))
theorem sumR_len (na : Nat) (Z : Nat → Int) (b : Int) (s : Bool) (m : Int) (nb : Nat) (Y : Nat → Int) (d : Int) (u : Bool) (n : Int) : (sumR na Z b s m nb Y d u n).1.1 ≤ 4 := by
  unfold sumR addR2
  split
  · split <;> simp [zeroL]
  · simp [zeroL]
set_option maxRecDepth 100000 in
set_option maxHeartbeats 8000000 in
theorem walk_ExactLinSum (A : Option Addr) (n c : Nat) (Z : Nat → Int) (b : Int) (s : Bool) (M : Int) (A' : Option Addr) (n' c' : Nat) (Z' : Nat → Int) (b' : Int) (s' : Bool) (N : Int) (w : World) (hn : n ≤ 9223372036854775807) (hA : Ints w A n Z) (hn' : n' ≤ 9223372036854775807) (hA' : Ints w A' n' Z') :
    Calls Try.prog 13 #[.agg #[.slice A n c, .int .i64 b, .bool s], .int .i64 M, .agg #[.slice A' n' c', .int .i64 b', .bool s'], .int .i64 N] w fun e w' => e = .returned (.bool true) ∧ Below w.heap.size w w' := by
  have hS := fun W => szlin_any A n c b 1048576 s W hn (by omega)
  have H := KcL.two w (.slice A n c) (.int .i64 b) (.bool s) (.slice A' n' c') (.int .i64 b') (.bool s') 42
  have q0 := bal (bal (Below.refl w.heap.size w) (.cells #[.slice A n c, .int .i64 b, .bool s] 42)) (.cells #[.slice A' n' c', .int .i64 b', .bool s'] 42)
  have HH_ := H; obtain ⟨c0, c1, c2, c3, c4, c5, _⟩ := HH_
  by_cases hb : (1048576 : Int) < n
  · rw [if_pos hb] at hS
    clear hb
    go_enter Try.func13, Try.ntmps13
    go_wp2_with (go_at_call 36; refine (hS _).mono ?_; rintro e w1 ⟨rfl, hq⟩)
    go_ret
    exact ⟨rfl, btr q0 hq⟩
  rw [if_neg hb] at hS
  have hl : 0 ≤ (1048576 : Int) - n ∧ (1048576 : Int) - n ≤ 1048576 := by omega
  have hS' := fun W => szlin_any A' n' c' b' ((1048576 : Int) - n) s' W hn' hl
  have hl0 := hl.1
  by_cases hb' : (1048576 : Int) - n < n'
  · rw [if_pos hb'] at hS'
    clear hb hb' hl
    generalize (1048576 : Int) - n = l at hS hS' hl0
    go_enter Try.func13, Try.ntmps13
    go_wp2_with fail
    refine (hS _).mono ?_
    rintro e w1 ⟨rfl, hq⟩
    replace c3 := carry hq c3
    replace c4 := carry hq c4
    replace c5 := carry hq c5
    go_wp2_with fail
    refine (hS' _).mono ?_
    rintro e w2 ⟨rfl, hq2⟩
    go_wp2_with fail
    go_ret
    exact ⟨rfl, btr (btr q0 hq) hq2⟩
  rw [if_neg hb'] at hS'
  have hn2 : n ≤ 1048576 := by omega
  have hn3 : n' ≤ 1048576 := by omega
  have hl1 : 0 ≤ (1048576 : Int) - n - n' := by omega
  generalize (1048576 : Int) - n - n' = l2 at hS' hl1
  clear hl hb hb'
  generalize (1048576 : Int) - n = l at hS hS' hl0
  have hT := fun W (h : Below w.heap.size w W) => tolin_any A n c Z b s W hn2 (hA.below h)
  have hT' := fun W (h : Below w.heap.size w W) => tolin_any A' n' c' Z' b' s' W hn3 (hA'.below h)
  have hP := fun (A3 : Option Addr) k3 (A4 : Option Addr) k4 W h1 h2 => slinsum_any A3 n k3 Z b M s A4 n' k4 Z' b' N s' W (by omega) h1 (by omega) h2
  have hI := fun (A3 : Option Addr) k3 (A4 : Option Addr) k4 W h1 h2 => linsum_any A3 n k3 Z b M s A4 n' k4 Z' b' N s' W (by omega) h1 (by omega) h2
  have hR4 := sumR_len n Z b s M n' Z' b' s' N
  generalize sumR n Z b s M n' Z' b' s' N = R at hP hI hR4
  have dR : (R.2 != R.2) = false := by simp
  have n1 : decide ((1 : Int) + n < 0) = false := by simp; omega
  have n12 : decide ((1 : Int) + n + n' < 0) = false := by simp; omega
  have n2 : decide ((1 : Int) + R.1.1 < 0) = false := by simp; omega
  have n3 : ((1 : Int) + R.1.1 != 1 + R.1.1) = false := by simp
  clear c0 c1 c2 c3 c4 c5
  clear hA hA'
  go_enter Try.func13, Try.ntmps13
  have HH_ := H; obtain ⟨c0, c1, c2, c3, c4, c5, _⟩ := HH_
  go_wp2_with fail
  refine (hS _).mono ?_
  rintro e w1 ⟨rfl, hq⟩
  clear c0 c1 c2 c3 c4 c5
  replace H := H.below hq
  replace q0 := btr q0 hq
  clear hS hq
  have HH_ := H; obtain ⟨c0, c1, c2, c3, c4, c5, _⟩ := HH_
  go_wp2_with fail
  refine (hS' _).mono ?_
  rintro e w2 ⟨rfl, hq⟩
  clear c0 c1 c2 c3 c4 c5
  replace H := H.below hq
  replace q0 := btr q0 hq
  clear hS' hq
  have y0 : w.heap.size + 1 < w2.heap.size := cell_lt H.2.2.2.1
  have HH_ := H; obtain ⟨c0, c1, c2, c3, c4, c5, _⟩ := HH_
  have l0 := cell_lt c0
  have l3 := cell_lt c3
  have gc := @gro_cell w2
  go_upto_region 8 with fail
  go_cut [10, 11] (fun sp sb wx => ∃ (p : Nat) (A : Option Addr) (k : Nat), sp = .pointer (some ⟨p, 0, none⟩) ∧ sb = .bool R.2 ∧ Below w2.heap.size w2 wx ∧ KcL [(p, 0, .slice A R.1.1 k), (p, 1, .int .i64 R.1.2.2.1), (p, 2, .bool R.1.2.2.2)] wx ∧ OwnB w2.heap.size wx.heap.size wx A R.1.1 R.1.2.1)
  case first =>
    refine region_plan (.takes [0, 2, 3, 5] (.fork 10 1 (.make 1 (.make 4 (.make 6 (.takes [7, 8, 9] (.make 11 .fin))))) (.fork 10 4 (.make 4 (.make 6 (.takes [7, 8, 9] (.make 11 .fin)))) (.fork 10 6 (.make 6 (.takes [7, 8, 9] (.make 11 .fin))) (.takes [7, 8, 9] (.make 10 (.make 11 .fin))))))) 12 rfl (by kernel_rfl) ?_
    refine plan_takes ?_; simp only [pickOps, List.getElem?_cons_zero, List.getElem?_cons_succ]; (repeat (go_big_quiet_step (fail))); refine wpQuiet_nil ?_
    clear gc l0 l3
    clear c0 c1 c2 c3 c4 c5
    have hB := (Below.refl w2.heap.size w2).drew
    refine plan_fork ?_ ?_
    · skip
      have al := bal (Below.refl (w2.drew).heap.size (w2.drew)) (.cells #[.slice none 0 0, .int .i64 0, .bool false] 25)
      refine plan_val rfl rfl (.pointer (some ⟨(w2.drew).heap.size, 0, none⟩)) (w'' := (w2.drew).alloc (.cells #[.slice none 0 0, .int .i64 0, .bool false] 25)) (by kernel_rfl) (btr hB al) ?_
      have Zt := there_new (w2.drew) (.slice none 0 0) (.int .i64 0) (.bool false) 25
      have Zb : (w2.drew).heap.size < ((w2.drew).alloc (.cells #[.slice none 0 0, .int .i64 0, .bool false] 25)).heap.size := by simp
      have Zl := hB.size
      replace hB := btr hB al
      clear al
      refine plan_call rfl rfl 37 #[.agg #[.slice A n c, .int .i64 b, .bool s]] (by kernel_rfl) ?_
      refine (hT _ (btr q0 hB)).mono ?_
      rintro e u1 ⟨v, rfl, ⟨A3, k3, rfl, _, _, P3⟩, hq⟩
      refine ⟨_, rfl, btr hB hq, ?_⟩
      replace Zt := there_below hq Zb Zt; replace Zb := Nat.lt_of_lt_of_le Zb hq.size
      replace hB := btr hB hq; clear hq
      refine plan_call rfl rfl 37 #[.agg #[.slice A' n' c', .int .i64 b', .bool s']] (by kernel_rfl) ?_
      refine (hT' _ (btr q0 hB)).mono ?_
      rintro e u2 ⟨v, rfl, ⟨A4, k4, rfl, _, _, P4⟩, hq⟩
      refine ⟨_, rfl, btr hB hq, ?_⟩
      replace Zt := there_below hq Zb Zt; replace Zb := Nat.lt_of_lt_of_le Zb hq.size
      replace P3 := P3.below hq
      replace hB := btr hB hq; clear hq
      refine plan_call rfl rfl 27 #[.agg #[.slice A3 n k3, .int .i64 b, .bool s], .int .i64 M, .agg #[.slice A4 n' k4, .int .i64 b', .bool s'], .int .i64 N] (by kernel_rfl) ?_
      refine (hP A3 k3 A4 k4 _ P3.ints P4.ints).mono ?_
      rintro e u3 ⟨v, rfl, ⟨A, k, rfl, _, _, hO⟩, hq⟩
      refine ⟨_, rfl, btr hB hq, ?_⟩
      have O := hO.ownB; have Ow := hB.size; clear hO
      have Zp := Zb
      clear P3 P4
      replace Zt := there_below hq Zb Zt; replace Zb := Nat.lt_of_lt_of_le Zb hq.size
      replace hB := btr hB hq; clear hq
      refine plan_takes ?_; simp only [pickOps, List.getElem?_cons_zero, List.getElem?_cons_succ]
      refine quiet_do rfl (.tuple #[.agg #[.slice A R.1.1 k, .int .i64 R.1.2.2.1, .bool R.1.2.2.2], .bool R.2]) (fun _ => by kernel_rfl) ?_
      refine quiet_do rfl (.agg #[.slice A R.1.1 k, .int .i64 R.1.2.2.1, .bool R.1.2.2.2]) (fun _ => by kernel_rfl) ?_
      refine quiet_do rfl (.bool R.2) (fun _ => by kernel_rfl) ?_
      refine wpQuiet_nil ?_
      refine plan_store rfl rfl _ _ _ rfl _ (.slice A R.1.1 k) (.int .i64 R.1.2.2.1) (.bool R.1.2.2.2) (by kernel_rfl) (by kernel_rfl) Zt (by kernel_rfl) (by simp [Value.oneCell']) hB (by first | exact Zl | omega) ?_
      intro wx hg hBx hK
      refine plan_fin ?_
      simp only [List.drop_succ_cons, List.drop_zero]
      go_wp2_with fail
      go_meet
      exact ⟨_, A, k, rfl, rfl, hBx, hK, (O.keep hg (fun g hg => by obtain rfl := Option.some.inj hg; first | exact .inl Zp | exact .inr (Nat.le_refl _))).wider Ow (by have := hg.size; (try simp at this); omega)⟩
    · skip
      refine plan_call rfl rfl 37 #[.agg #[.slice A n c, .int .i64 b, .bool s]] (by kernel_rfl) ?_
      refine (hT _ (btr q0 hB)).mono ?_
      rintro e u1 ⟨v, rfl, ⟨A3, k3, rfl, _, _, P3⟩, hq⟩
      refine ⟨_, rfl, btr hB hq, ?_⟩
      replace hB := btr hB hq; clear hq
      refine plan_fork ?_ ?_
      · skip
        have al := bal (Below.refl (u1).heap.size (u1)) (.cells #[.slice none 0 0, .int .i64 0, .bool false] 25)
        refine plan_val rfl rfl (.pointer (some ⟨(u1).heap.size, 0, none⟩)) (w'' := (u1).alloc (.cells #[.slice none 0 0, .int .i64 0, .bool false] 25)) (by kernel_rfl) (btr hB al) ?_
        have Zt := there_new (u1) (.slice none 0 0) (.int .i64 0) (.bool false) 25
        have Zb : (u1).heap.size < ((u1).alloc (.cells #[.slice none 0 0, .int .i64 0, .bool false] 25)).heap.size := by simp
        have Zl := hB.size
        replace hB := btr hB al
        replace P3 := P3.below al
        clear al
        refine plan_call rfl rfl 37 #[.agg #[.slice A' n' c', .int .i64 b', .bool s']] (by kernel_rfl) ?_
        refine (hT' _ (btr q0 hB)).mono ?_
        rintro e u2 ⟨v, rfl, ⟨A4, k4, rfl, _, _, P4⟩, hq⟩
        refine ⟨_, rfl, btr hB hq, ?_⟩
        replace Zt := there_below hq Zb Zt; replace Zb := Nat.lt_of_lt_of_le Zb hq.size
        replace P3 := P3.below hq
        replace hB := btr hB hq; clear hq
        refine plan_call rfl rfl 27 #[.agg #[.slice A3 n k3, .int .i64 b, .bool s], .int .i64 M, .agg #[.slice A4 n' k4, .int .i64 b', .bool s'], .int .i64 N] (by kernel_rfl) ?_
        refine (hP A3 k3 A4 k4 _ P3.ints P4.ints).mono ?_
        rintro e u3 ⟨v, rfl, ⟨A, k, rfl, _, _, hO⟩, hq⟩
        refine ⟨_, rfl, btr hB hq, ?_⟩
        have O := hO.ownB; have Ow := hB.size; clear hO
        have Zp := Zb
        clear P3 P4
        replace Zt := there_below hq Zb Zt; replace Zb := Nat.lt_of_lt_of_le Zb hq.size
        replace hB := btr hB hq; clear hq
        refine plan_takes ?_; simp only [pickOps, List.getElem?_cons_zero, List.getElem?_cons_succ]
        refine quiet_do rfl (.tuple #[.agg #[.slice A R.1.1 k, .int .i64 R.1.2.2.1, .bool R.1.2.2.2], .bool R.2]) (fun _ => by kernel_rfl) ?_
        refine quiet_do rfl (.agg #[.slice A R.1.1 k, .int .i64 R.1.2.2.1, .bool R.1.2.2.2]) (fun _ => by kernel_rfl) ?_
        refine quiet_do rfl (.bool R.2) (fun _ => by kernel_rfl) ?_
        refine wpQuiet_nil ?_
        refine plan_store rfl rfl _ _ _ rfl _ (.slice A R.1.1 k) (.int .i64 R.1.2.2.1) (.bool R.1.2.2.2) (by kernel_rfl) (by kernel_rfl) Zt (by kernel_rfl) (by simp [Value.oneCell']) hB (by first | exact Zl | omega) ?_
        intro wx hg hBx hK
        refine plan_fin ?_
        simp only [List.drop_succ_cons, List.drop_zero]
        go_wp2_with fail
        go_meet
        exact ⟨_, A, k, rfl, rfl, hBx, hK, (O.keep hg (fun g hg => by obtain rfl := Option.some.inj hg; first | exact .inl Zp | exact .inr (Nat.le_refl _))).wider Ow (by have := hg.size; (try simp at this); omega)⟩
      · skip
        refine plan_call rfl rfl 37 #[.agg #[.slice A' n' c', .int .i64 b', .bool s']] (by kernel_rfl) ?_
        refine (hT' _ (btr q0 hB)).mono ?_
        rintro e u2 ⟨v, rfl, ⟨A4, k4, rfl, _, _, P4⟩, hq⟩
        refine ⟨_, rfl, btr hB hq, ?_⟩
        replace P3 := P3.below hq
        replace hB := btr hB hq; clear hq
        refine plan_fork ?_ ?_
        · skip
          have al := bal (Below.refl (u2).heap.size (u2)) (.cells #[.slice none 0 0, .int .i64 0, .bool false] 25)
          refine plan_val rfl rfl (.pointer (some ⟨(u2).heap.size, 0, none⟩)) (w'' := (u2).alloc (.cells #[.slice none 0 0, .int .i64 0, .bool false] 25)) (by kernel_rfl) (btr hB al) ?_
          have Zt := there_new (u2) (.slice none 0 0) (.int .i64 0) (.bool false) 25
          have Zb : (u2).heap.size < ((u2).alloc (.cells #[.slice none 0 0, .int .i64 0, .bool false] 25)).heap.size := by simp
          have Zl := hB.size
          replace hB := btr hB al
          replace P3 := P3.below al
          replace P4 := P4.below al
          clear al
          refine plan_call rfl rfl 27 #[.agg #[.slice A3 n k3, .int .i64 b, .bool s], .int .i64 M, .agg #[.slice A4 n' k4, .int .i64 b', .bool s'], .int .i64 N] (by kernel_rfl) ?_
          refine (hP A3 k3 A4 k4 _ P3.ints P4.ints).mono ?_
          rintro e u3 ⟨v, rfl, ⟨A, k, rfl, _, _, hO⟩, hq⟩
          refine ⟨_, rfl, btr hB hq, ?_⟩
          have O := hO.ownB; have Ow := hB.size; clear hO
          have Zp := Zb
          clear P3 P4
          replace Zt := there_below hq Zb Zt; replace Zb := Nat.lt_of_lt_of_le Zb hq.size
          replace hB := btr hB hq; clear hq
          refine plan_takes ?_; simp only [pickOps, List.getElem?_cons_zero, List.getElem?_cons_succ]
          refine quiet_do rfl (.tuple #[.agg #[.slice A R.1.1 k, .int .i64 R.1.2.2.1, .bool R.1.2.2.2], .bool R.2]) (fun _ => by kernel_rfl) ?_
          refine quiet_do rfl (.agg #[.slice A R.1.1 k, .int .i64 R.1.2.2.1, .bool R.1.2.2.2]) (fun _ => by kernel_rfl) ?_
          refine quiet_do rfl (.bool R.2) (fun _ => by kernel_rfl) ?_
          refine wpQuiet_nil ?_
          refine plan_store rfl rfl _ _ _ rfl _ (.slice A R.1.1 k) (.int .i64 R.1.2.2.1) (.bool R.1.2.2.2) (by kernel_rfl) (by kernel_rfl) Zt (by kernel_rfl) (by simp [Value.oneCell']) hB (by first | exact Zl | omega) ?_
          intro wx hg hBx hK
          refine plan_fin ?_
          simp only [List.drop_succ_cons, List.drop_zero]
          go_wp2_with fail
          go_meet
          exact ⟨_, A, k, rfl, rfl, hBx, hK, (O.keep hg (fun g hg => by obtain rfl := Option.some.inj hg; first | exact .inl Zp | exact .inr (Nat.le_refl _))).wider Ow (by have := hg.size; (try simp at this); omega)⟩
        · skip
          refine plan_call rfl rfl 27 #[.agg #[.slice A3 n k3, .int .i64 b, .bool s], .int .i64 M, .agg #[.slice A4 n' k4, .int .i64 b', .bool s'], .int .i64 N] (by kernel_rfl) ?_
          refine (hP A3 k3 A4 k4 _ P3.ints P4.ints).mono ?_
          rintro e u3 ⟨v, rfl, ⟨A, k, rfl, _, _, hO⟩, hq⟩
          refine ⟨_, rfl, btr hB hq, ?_⟩
          have O := hO.ownB; have Ow := hB.size; clear hO
          clear P3 P4
          replace hB := btr hB hq; clear hq
          refine plan_takes ?_; simp only [pickOps, List.getElem?_cons_zero, List.getElem?_cons_succ]
          refine quiet_do rfl (.tuple #[.agg #[.slice A R.1.1 k, .int .i64 R.1.2.2.1, .bool R.1.2.2.2], .bool R.2]) (fun _ => by kernel_rfl) ?_
          refine quiet_do rfl (.agg #[.slice A R.1.1 k, .int .i64 R.1.2.2.1, .bool R.1.2.2.2]) (fun _ => by kernel_rfl) ?_
          refine quiet_do rfl (.bool R.2) (fun _ => by kernel_rfl) ?_
          refine wpQuiet_nil ?_
          have al := bal (Below.refl (u3).heap.size (u3)) (.cells #[.slice none 0 0, .int .i64 0, .bool false] 25)
          refine plan_val rfl rfl (.pointer (some ⟨(u3).heap.size, 0, none⟩)) (w'' := (u3).alloc (.cells #[.slice none 0 0, .int .i64 0, .bool false] 25)) (by kernel_rfl) (btr hB al) ?_
          have Zt := there_new (u3) (.slice none 0 0) (.int .i64 0) (.bool false) 25
          have Zb : (u3).heap.size < ((u3).alloc (.cells #[.slice none 0 0, .int .i64 0, .bool false] 25)).heap.size := by simp
          have Zl := hB.size
          replace hB := btr hB al
          replace O := O.below al
          clear al
          refine plan_store rfl rfl _ _ _ rfl _ (.slice A R.1.1 k) (.int .i64 R.1.2.2.1) (.bool R.1.2.2.2) (by kernel_rfl) (by kernel_rfl) Zt (by kernel_rfl) (by simp [Value.oneCell']) hB (by first | exact Zl | omega) ?_
          intro wx hg hBx hK
          refine plan_fin ?_
          simp only [List.drop_succ_cons, List.drop_zero]
          go_wp2_with fail
          go_meet
          exact ⟨_, A, k, rfl, rfl, hBx, hK, (O.keep hg (fun g hg => by obtain rfl := Option.some.inj hg; first | exact .inl Zp | exact .inr (Nat.le_refl _))).wider Ow (by have := hg.size; (try simp at this); omega)⟩
  obtain ⟨w3, hwc⟩ : ∃ x, x = wc := ⟨_, rfl⟩
  subst hwc
  obtain ⟨p5, A5, k5, rfl, rfl, hq, N, O5⟩ := hcut
  clear gc l0 l3
  clear c0 c1 c2 c3 c4 c5
  replace H := H.below hq
  replace q0 := btr q0 hq
  replace H := H.app N
  clear N hq
  have y5 : w.heap.size + 1 < w3.heap.size := cell_lt H.2.2.2.1
  have z5 : p5 < w3.heap.size := cell_lt H.2.2.2.2.2.2.1
  have HH_ := H; obtain ⟨c0, c1, c2, c3, c4, c5, c6, c7, c8, _⟩ := HH_
  go_wp2_with fail
  refine (hT _ q0).mono ?_
  rintro e w4 ⟨v, rfl, ⟨A6, k6, rfl, _, _, hO⟩, hq⟩
  clear c0 c1 c2 c3 c4 c5 c6 c7 c8
  replace H := H.below hq
  replace q0 := btr q0 hq
  replace O5 := O5.below hq
  have O6 := hO.ownB
  have z6 := hq.size
  clear hq hO
  have N := KcL.new3 w4 (.slice A6 n k6) (.int .i64 b) (.bool s) 25 rfl
  have al := bal (Below.refl w4.heap.size w4) (.cells #[.slice A6 n k6, .int .i64 b, .bool s] 25)
  replace H := (H.below al).app N
  replace q0 := btr q0 al
  replace O5 := O5.below al
  replace O6 := O6.below al
  clear N al
  have HH_ := H; obtain ⟨c0, c1, c2, c3, c4, c5, c6, c7, c8, c9, c10, c11, _⟩ := HH_
  go_wp2_with fail
  refine (hT' _ q0).mono ?_
  rintro e w5 ⟨v, rfl, ⟨A7, k7, rfl, _, _, hO⟩, hq⟩
  clear c0 c1 c2 c3 c4 c5 c6 c7 c8 c9 c10 c11
  replace H := H.below hq
  replace q0 := btr q0 hq
  replace O5 := O5.below hq
  replace O6 := O6.below hq
  have O7 := hO.ownB
  have z7 := hq.size
  clear hq hO
  rw [World.size_alloc] at z7 O7
  have N := KcL.new3 w5 (.slice A7 n' k7) (.int .i64 b') (.bool s') 25 rfl
  have al := bal (Below.refl w5.heap.size w5) (.cells #[.slice A7 n' k7, .int .i64 b', .bool s'] 25)
  replace H := (H.below al).app N
  replace q0 := btr q0 al
  replace O5 := O5.below al
  replace O6 := O6.below al
  replace O7 := O7.below al
  clear N al
  have HH_ := H; obtain ⟨c0, c1, c2, c3, c4, c5, c6, c7, c8, c9, c10, c11, c12, c13, c14, _⟩ := HH_
  go_wp2_with fail
  refine (hI A6 k6 A7 k7 _ O6.ints O7.ints).mono ?_
  rintro e w6 ⟨v, rfl, ⟨A8, k8, rfl, _, _, hO⟩, hq⟩
  clear c0 c1 c2 c3 c4 c5 c6 c7 c8 c9 c10 c11 c12 c13 c14
  replace H := H.below hq
  replace q0 := btr q0 hq
  replace O5 := O5.below hq
  replace O6 := O6.below hq
  replace O7 := O7.below hq
  have O8 := hO.ownB
  have z8 := hq.size
  clear hq hO
  rw [World.size_alloc] at z8 O8
  have N := KcL.new3 w6 (.slice A8 R.1.1 k8) (.int .i64 R.1.2.2.1) (.bool R.1.2.2.2) 25 rfl
  have al := bal (Below.refl w6.heap.size w6) (.cells #[.slice A8 R.1.1 k8, .int .i64 R.1.2.2.1, .bool R.1.2.2.2] 25)
  replace H := (H.below al).app N
  replace q0 := btr q0 al
  replace O5 := O5.below al
  replace O6 := O6.below al
  replace O7 := O7.below al
  replace O8 := O8.below al
  clear N al
  have HH_ := H; obtain ⟨c0, c1, c2, c3, c4, c5, c6, c7, c8, c9, c10, c11, c12, c13, c14, c15, c16, c17, _⟩ := HH_
  go_wp2_with fail
  refine (eqlin_same (by omega) O8.ints O5.ints).mono ?_
  rintro e w7 ⟨rfl, hq⟩
  clear c0 c1 c2 c3 c4 c5 c6 c7 c8 c9 c10 c11 c12 c13 c14 c15 c16 c17
  replace H := H.below hq
  replace q0 := btr q0 hq
  replace O5 := O5.below hq
  replace O6 := O6.below hq
  replace O7 := O7.below hq
  replace O8 := O8.below hq
  clear hq
  have HH_ := H; obtain ⟨c0, c1, c2, c3, c4, c5, c6, c7, c8, c9, c10, c11, c12, c13, c14, c15, c16, c17, _⟩ := HH_
  have l0 := cell_lt c0
  have l3 := cell_lt c3
  have l6 := cell_lt c6
  have l9 := cell_lt c9
  have l12 := cell_lt c12
  have l15 := cell_lt c15
  have gc := @gro_cell w7
  go_wp2_with fail
  refine region_grow_call 2 rfl (by kernel_rfl) (by kernel_rfl) rfl ?_; simp only [List.take_succ_cons, List.take_zero]; (repeat (go_big_quiet_step (fail))); refine wpQuiet_nil ?_
  intro w8 hq
  clear gc l0 l3 l6 l9 l12 l15
  clear c0 c1 c2 c3 c4 c5 c6 c7 c8 c9 c10 c11 c12 c13 c14 c15 c16 c17
  refine ⟨37, #[.agg #[.slice A n c, .int .i64 b, .bool s]], by kernel_rfl, ?_⟩
  refine (hT _ (btr q0 hq)).mono ?_
  rintro e w9 ⟨v, rfl, ⟨B8, j8, rfl, _, _, hO8⟩, hq8⟩
  refine ⟨_, rfl, btr hq hq8, ?_⟩
  replace H := H.below (btr hq hq8)
  replace q0 := btr q0 (btr hq hq8)
  replace O5 := O5.below (btr hq hq8)
  replace O6 := O6.below (btr hq hq8)
  replace O7 := O7.below (btr hq hq8)
  replace O8 := O8.below (btr hq hq8)
  clear hq hq8
  have HH_ := H; obtain ⟨c0, c1, c2, c3, c4, c5, c6, c7, c8, c9, c10, c11, c12, c13, c14, c15, c16, c17, _⟩ := HH_
  go_wp2_with fail
  refine (eqlin_same (by omega) O6.ints hO8.ints).mono ?_
  rintro e w10 ⟨rfl, hq⟩
  clear c0 c1 c2 c3 c4 c5 c6 c7 c8 c9 c10 c11 c12 c13 c14 c15 c16 c17
  replace H := H.below hq
  replace q0 := btr q0 hq
  replace O5 := O5.below hq
  replace O6 := O6.below hq
  replace O7 := O7.below hq
  replace O8 := O8.below hq
  clear hq hO8
  have HH_ := H; obtain ⟨c0, c1, c2, c3, c4, c5, c6, c7, c8, c9, c10, c11, c12, c13, c14, c15, c16, c17, _⟩ := HH_
  have l0 := cell_lt c0
  have l3 := cell_lt c3
  have l6 := cell_lt c6
  have l9 := cell_lt c9
  have l12 := cell_lt c12
  have l15 := cell_lt c15
  have gc := @gro_cell w10
  go_wp2_with fail
  refine region_grow_call 2 rfl (by kernel_rfl) (by kernel_rfl) rfl ?_; simp only [List.take_succ_cons, List.take_zero]; (repeat (go_big_quiet_step (fail))); refine wpQuiet_nil ?_
  intro w11 hq
  clear gc l0 l3 l6 l9 l12 l15
  clear c0 c1 c2 c3 c4 c5 c6 c7 c8 c9 c10 c11 c12 c13 c14 c15 c16 c17
  refine ⟨37, #[.agg #[.slice A' n' c', .int .i64 b', .bool s']], by kernel_rfl, ?_⟩
  refine (hT' _ (btr q0 hq)).mono ?_
  rintro e w12 ⟨v, rfl, ⟨B8, j8, rfl, _, _, hO8⟩, hq8⟩
  refine ⟨_, rfl, btr hq hq8, ?_⟩
  replace H := H.below (btr hq hq8)
  replace q0 := btr q0 (btr hq hq8)
  replace O5 := O5.below (btr hq hq8)
  replace O6 := O6.below (btr hq hq8)
  replace O7 := O7.below (btr hq hq8)
  replace O8 := O8.below (btr hq hq8)
  clear hq hq8
  have HH_ := H; obtain ⟨c0, c1, c2, c3, c4, c5, c6, c7, c8, c9, c10, c11, c12, c13, c14, c15, c16, c17, _⟩ := HH_
  go_wp2_with fail
  refine (eqlin_same (by omega) O7.ints hO8.ints).mono ?_
  rintro e w13 ⟨rfl, hq⟩
  clear c0 c1 c2 c3 c4 c5 c6 c7 c8 c9 c10 c11 c12 c13 c14 c15 c16 c17
  replace H := H.below hq
  replace q0 := btr q0 hq
  replace O5 := O5.below hq
  replace O6 := O6.below hq
  replace O7 := O7.below hq
  replace O8 := O8.below hq
  clear hq hO8
  have HH_ := H; obtain ⟨c0, c1, c2, c3, c4, c5, c6, c7, c8, c9, c10, c11, c12, c13, c14, c15, c16, c17, _⟩ := HH_
  go_wp2_with fail
  refine (marklin_any _ _ A6 n k6 Z b 1 s _ hn2 (by omega) O6).mono ?_
  rintro e w14 ⟨rfl, O6, row, hg, hr⟩
  clear c0 c1 c2 c3 c4 c5 c6 c7 c8 c9 c10 c11 c12 c13 c14 c15 c16 c17
  replace H := H.keep hg (fun e he g hg => by have := hr g hg; simp at he; rcases he with rfl | rfl | rfl | rfl | rfl | rfl | rfl | rfl | rfl | rfl | rfl | rfl | rfl | rfl | rfl | rfl | rfl | rfl <;> omega)
  replace O5 := O5.keep hg (fun g hg => by have := hr g hg; omega)
  replace O7 := O7.keep hg (fun g hg => by have := hr g hg; omega)
  replace O8 := O8.keep hg (fun g hg => by have := hr g hg; omega)
  replace q0 := q0.grown hg q0.size (fun g hgg => by have := hr g hgg; omega)
  clear hg hr row
  have HH_ := H; obtain ⟨c0, c1, c2, c3, c4, c5, c6, c7, c8, c9, c10, c11, c12, c13, c14, c15, c16, c17, _⟩ := HH_
  go_wp2_with fail
  refine (marklin_any _ _ A7 n' k7 Z' b' (1 + n) s' _ hn3 (by omega) O7).mono ?_
  rintro e w15 ⟨rfl, O7, row, hg, hr⟩
  clear c0 c1 c2 c3 c4 c5 c6 c7 c8 c9 c10 c11 c12 c13 c14 c15 c16 c17
  replace H := H.keep hg (fun e he g hg => by have := hr g hg; simp at he; rcases he with rfl | rfl | rfl | rfl | rfl | rfl | rfl | rfl | rfl | rfl | rfl | rfl | rfl | rfl | rfl | rfl | rfl | rfl <;> omega)
  replace O5 := O5.keep hg (fun g hg => by have := hr g hg; omega)
  replace O6 := O6.keep hg (fun g hg => by have := hr g hg; omega)
  replace O8 := O8.keep hg (fun g hg => by have := hr g hg; omega)
  replace q0 := q0.grown hg q0.size (fun g hgg => by have := hr g hgg; omega)
  clear hg hr row
  have HH_ := H; obtain ⟨c0, c1, c2, c3, c4, c5, c6, c7, c8, c9, c10, c11, c12, c13, c14, c15, c16, c17, _⟩ := HH_
  go_wp2_with fail
  refine (eqlin_same (by omega) O8.ints O5.ints).mono ?_
  rintro e w16 ⟨rfl, hq⟩
  clear c0 c1 c2 c3 c4 c5 c6 c7 c8 c9 c10 c11 c12 c13 c14 c15 c16 c17
  replace H := H.below hq
  replace q0 := btr q0 hq
  replace O5 := O5.below hq
  replace O6 := O6.below hq
  replace O7 := O7.below hq
  replace O8 := O8.below hq
  clear hq
  have HH_ := H; obtain ⟨c0, c1, c2, c3, c4, c5, c6, c7, c8, c9, c10, c11, c12, c13, c14, c15, c16, c17, _⟩ := HH_
  go_wp2_with fail
  refine (marklin_any _ _ A8 R.1.1 k8 R.1.2.1 R.1.2.2.1 1 R.1.2.2.2 _ (by omega) (by omega) O8).mono ?_
  rintro e w17 ⟨rfl, O8, row, hg, hr⟩
  clear c0 c1 c2 c3 c4 c5 c6 c7 c8 c9 c10 c11 c12 c13 c14 c15 c16 c17
  replace H := H.keep hg (fun e he g hg => by have := hr g hg; simp at he; rcases he with rfl | rfl | rfl | rfl | rfl | rfl | rfl | rfl | rfl | rfl | rfl | rfl | rfl | rfl | rfl | rfl | rfl | rfl <;> omega)
  replace O5 := O5.keep hg (fun g hg => by have := hr g hg; omega)
  replace O6 := O6.keep hg (fun g hg => by have := hr g hg; omega)
  replace O7 := O7.keep hg (fun g hg => by have := hr g hg; omega)
  replace q0 := q0.grown hg q0.size (fun g hgg => by have := hr g hgg; omega)
  clear hg hr row
  have HH_ := H; obtain ⟨c0, c1, c2, c3, c4, c5, c6, c7, c8, c9, c10, c11, c12, c13, c14, c15, c16, c17, _⟩ := HH_
  go_wp2_with fail
  refine (heldlin_any A8 R.1.1 k8 R.1.2.2.1 1 R.1.2.2.2 _ (by omega) (by omega) O8.ints).mono ?_
  rintro e w18 ⟨rfl, hq⟩
  clear c0 c1 c2 c3 c4 c5 c6 c7 c8 c9 c10 c11 c12 c13 c14 c15 c16 c17
  replace H := H.below hq
  replace q0 := btr q0 hq
  replace O5 := O5.below hq
  replace O6 := O6.below hq
  replace O7 := O7.below hq
  replace O8 := O8.below hq
  clear hq
  have HH_ := H; obtain ⟨c0, c1, c2, c3, c4, c5, c6, c7, c8, c9, c10, c11, c12, c13, c14, c15, c16, c17, _⟩ := HH_
  have l0 := cell_lt c0
  have l3 := cell_lt c3
  have l6 := cell_lt c6
  have l9 := cell_lt c9
  have l12 := cell_lt c12
  have l15 := cell_lt c15
  have gc := @gro_cell w18
  go_upto_region 31 with fail
  go_cut [19, 20] (fun sp sb wx => ∃ (p : Nat) (A : Option Addr) (k : Nat), sp = .pointer (some ⟨p, 0, none⟩) ∧ sb = .bool R.2 ∧ Below w18.heap.size w18 wx ∧ KcL [(p, 0, .slice A R.1.1 k), (p, 1, .int .i64 R.1.2.2.1), (p, 2, .bool R.1.2.2.2)] wx ∧ OwnB w18.heap.size wx.heap.size wx A R.1.1 R.1.2.1)
  case first =>
    refine region_plan (.takes [0, 2, 3, 5] (.fork 10 1 (.make 1 (.make 4 (.make 6 (.takes [7, 8, 9] (.make 11 .fin))))) (.fork 10 4 (.make 4 (.make 6 (.takes [7, 8, 9] (.make 11 .fin)))) (.fork 10 6 (.make 6 (.takes [7, 8, 9] (.make 11 .fin))) (.takes [7, 8, 9] (.make 10 (.make 11 .fin))))))) 12 rfl (by kernel_rfl) ?_
    refine plan_takes ?_; simp only [pickOps, List.getElem?_cons_zero, List.getElem?_cons_succ]; (repeat (go_big_quiet_step (fail))); refine wpQuiet_nil ?_
    clear gc l0 l3 l6 l9 l12 l15
    clear c0 c1 c2 c3 c4 c5 c6 c7 c8 c9 c10 c11 c12 c13 c14 c15 c16 c17
    have hB := (Below.refl w18.heap.size w18).drew
    refine plan_fork ?_ ?_
    · skip
      have al := bal (Below.refl (w18.drew).heap.size (w18.drew)) (.cells #[.slice none 0 0, .int .i64 0, .bool false] 25)
      refine plan_val rfl rfl (.pointer (some ⟨(w18.drew).heap.size, 0, none⟩)) (w'' := (w18.drew).alloc (.cells #[.slice none 0 0, .int .i64 0, .bool false] 25)) (by kernel_rfl) (btr hB al) ?_
      have Zt := there_new (w18.drew) (.slice none 0 0) (.int .i64 0) (.bool false) 25
      have Zb : (w18.drew).heap.size < ((w18.drew).alloc (.cells #[.slice none 0 0, .int .i64 0, .bool false] 25)).heap.size := by simp
      have Zl := hB.size
      replace hB := btr hB al
      clear al
      refine plan_call rfl rfl 37 #[.agg #[.slice A n c, .int .i64 b, .bool s]] (by kernel_rfl) ?_
      refine (hT _ (btr q0 hB)).mono ?_
      rintro e u1 ⟨v, rfl, ⟨B3, j3, rfl, _, _, P3⟩, hq⟩
      refine ⟨_, rfl, btr hB hq, ?_⟩
      replace Zt := there_below hq Zb Zt; replace Zb := Nat.lt_of_lt_of_le Zb hq.size
      replace hB := btr hB hq; clear hq
      refine plan_call rfl rfl 37 #[.agg #[.slice A' n' c', .int .i64 b', .bool s']] (by kernel_rfl) ?_
      refine (hT' _ (btr q0 hB)).mono ?_
      rintro e u2 ⟨v, rfl, ⟨B4, j4, rfl, _, _, P4⟩, hq⟩
      refine ⟨_, rfl, btr hB hq, ?_⟩
      replace Zt := there_below hq Zb Zt; replace Zb := Nat.lt_of_lt_of_le Zb hq.size
      replace P3 := P3.below hq
      replace hB := btr hB hq; clear hq
      refine plan_call rfl rfl 26 #[.agg #[.slice B3 n j3, .int .i64 b, .bool s], .int .i64 M, .agg #[.slice B4 n' j4, .int .i64 b', .bool s'], .int .i64 N] (by kernel_rfl) ?_
      refine (hI B3 j3 B4 j4 _ P3.ints P4.ints).mono ?_
      rintro e u3 ⟨v, rfl, ⟨A, k, rfl, _, _, hO⟩, hq⟩
      refine ⟨_, rfl, btr hB hq, ?_⟩
      have O := hO.ownB; have Ow := hB.size; clear hO
      have Zp := Zb
      clear P3 P4
      replace Zt := there_below hq Zb Zt; replace Zb := Nat.lt_of_lt_of_le Zb hq.size
      replace hB := btr hB hq; clear hq
      refine plan_takes ?_; simp only [pickOps, List.getElem?_cons_zero, List.getElem?_cons_succ]
      refine quiet_do rfl (.tuple #[.agg #[.slice A R.1.1 k, .int .i64 R.1.2.2.1, .bool R.1.2.2.2], .bool R.2]) (fun _ => by kernel_rfl) ?_
      refine quiet_do rfl (.agg #[.slice A R.1.1 k, .int .i64 R.1.2.2.1, .bool R.1.2.2.2]) (fun _ => by kernel_rfl) ?_
      refine quiet_do rfl (.bool R.2) (fun _ => by kernel_rfl) ?_
      refine wpQuiet_nil ?_
      refine plan_store rfl rfl _ _ _ rfl _ (.slice A R.1.1 k) (.int .i64 R.1.2.2.1) (.bool R.1.2.2.2) (by kernel_rfl) (by kernel_rfl) Zt (by kernel_rfl) (by simp [Value.oneCell']) hB (by first | exact Zl | omega) ?_
      intro wx hg hBx hK
      refine plan_fin ?_
      simp only [List.drop_succ_cons, List.drop_zero]
      go_wp2_with fail
      go_meet
      exact ⟨_, A, k, rfl, rfl, hBx, hK, (O.keep hg (fun g hg => by obtain rfl := Option.some.inj hg; first | exact .inl Zp | exact .inr (Nat.le_refl _))).wider Ow (by have := hg.size; (try simp at this); omega)⟩
    · skip
      refine plan_call rfl rfl 37 #[.agg #[.slice A n c, .int .i64 b, .bool s]] (by kernel_rfl) ?_
      refine (hT _ (btr q0 hB)).mono ?_
      rintro e u1 ⟨v, rfl, ⟨B3, j3, rfl, _, _, P3⟩, hq⟩
      refine ⟨_, rfl, btr hB hq, ?_⟩
      replace hB := btr hB hq; clear hq
      refine plan_fork ?_ ?_
      · skip
        have al := bal (Below.refl (u1).heap.size (u1)) (.cells #[.slice none 0 0, .int .i64 0, .bool false] 25)
        refine plan_val rfl rfl (.pointer (some ⟨(u1).heap.size, 0, none⟩)) (w'' := (u1).alloc (.cells #[.slice none 0 0, .int .i64 0, .bool false] 25)) (by kernel_rfl) (btr hB al) ?_
        have Zt := there_new (u1) (.slice none 0 0) (.int .i64 0) (.bool false) 25
        have Zb : (u1).heap.size < ((u1).alloc (.cells #[.slice none 0 0, .int .i64 0, .bool false] 25)).heap.size := by simp
        have Zl := hB.size
        replace hB := btr hB al
        replace P3 := P3.below al
        clear al
        refine plan_call rfl rfl 37 #[.agg #[.slice A' n' c', .int .i64 b', .bool s']] (by kernel_rfl) ?_
        refine (hT' _ (btr q0 hB)).mono ?_
        rintro e u2 ⟨v, rfl, ⟨B4, j4, rfl, _, _, P4⟩, hq⟩
        refine ⟨_, rfl, btr hB hq, ?_⟩
        replace Zt := there_below hq Zb Zt; replace Zb := Nat.lt_of_lt_of_le Zb hq.size
        replace P3 := P3.below hq
        replace hB := btr hB hq; clear hq
        refine plan_call rfl rfl 26 #[.agg #[.slice B3 n j3, .int .i64 b, .bool s], .int .i64 M, .agg #[.slice B4 n' j4, .int .i64 b', .bool s'], .int .i64 N] (by kernel_rfl) ?_
        refine (hI B3 j3 B4 j4 _ P3.ints P4.ints).mono ?_
        rintro e u3 ⟨v, rfl, ⟨A, k, rfl, _, _, hO⟩, hq⟩
        refine ⟨_, rfl, btr hB hq, ?_⟩
        have O := hO.ownB; have Ow := hB.size; clear hO
        have Zp := Zb
        clear P3 P4
        replace Zt := there_below hq Zb Zt; replace Zb := Nat.lt_of_lt_of_le Zb hq.size
        replace hB := btr hB hq; clear hq
        refine plan_takes ?_; simp only [pickOps, List.getElem?_cons_zero, List.getElem?_cons_succ]
        refine quiet_do rfl (.tuple #[.agg #[.slice A R.1.1 k, .int .i64 R.1.2.2.1, .bool R.1.2.2.2], .bool R.2]) (fun _ => by kernel_rfl) ?_
        refine quiet_do rfl (.agg #[.slice A R.1.1 k, .int .i64 R.1.2.2.1, .bool R.1.2.2.2]) (fun _ => by kernel_rfl) ?_
        refine quiet_do rfl (.bool R.2) (fun _ => by kernel_rfl) ?_
        refine wpQuiet_nil ?_
        refine plan_store rfl rfl _ _ _ rfl _ (.slice A R.1.1 k) (.int .i64 R.1.2.2.1) (.bool R.1.2.2.2) (by kernel_rfl) (by kernel_rfl) Zt (by kernel_rfl) (by simp [Value.oneCell']) hB (by first | exact Zl | omega) ?_
        intro wx hg hBx hK
        refine plan_fin ?_
        simp only [List.drop_succ_cons, List.drop_zero]
        go_wp2_with fail
        go_meet
        exact ⟨_, A, k, rfl, rfl, hBx, hK, (O.keep hg (fun g hg => by obtain rfl := Option.some.inj hg; first | exact .inl Zp | exact .inr (Nat.le_refl _))).wider Ow (by have := hg.size; (try simp at this); omega)⟩
      · skip
        refine plan_call rfl rfl 37 #[.agg #[.slice A' n' c', .int .i64 b', .bool s']] (by kernel_rfl) ?_
        refine (hT' _ (btr q0 hB)).mono ?_
        rintro e u2 ⟨v, rfl, ⟨B4, j4, rfl, _, _, P4⟩, hq⟩
        refine ⟨_, rfl, btr hB hq, ?_⟩
        replace P3 := P3.below hq
        replace hB := btr hB hq; clear hq
        refine plan_fork ?_ ?_
        · skip
          have al := bal (Below.refl (u2).heap.size (u2)) (.cells #[.slice none 0 0, .int .i64 0, .bool false] 25)
          refine plan_val rfl rfl (.pointer (some ⟨(u2).heap.size, 0, none⟩)) (w'' := (u2).alloc (.cells #[.slice none 0 0, .int .i64 0, .bool false] 25)) (by kernel_rfl) (btr hB al) ?_
          have Zt := there_new (u2) (.slice none 0 0) (.int .i64 0) (.bool false) 25
          have Zb : (u2).heap.size < ((u2).alloc (.cells #[.slice none 0 0, .int .i64 0, .bool false] 25)).heap.size := by simp
          have Zl := hB.size
          replace hB := btr hB al
          replace P3 := P3.below al
          replace P4 := P4.below al
          clear al
          refine plan_call rfl rfl 26 #[.agg #[.slice B3 n j3, .int .i64 b, .bool s], .int .i64 M, .agg #[.slice B4 n' j4, .int .i64 b', .bool s'], .int .i64 N] (by kernel_rfl) ?_
          refine (hI B3 j3 B4 j4 _ P3.ints P4.ints).mono ?_
          rintro e u3 ⟨v, rfl, ⟨A, k, rfl, _, _, hO⟩, hq⟩
          refine ⟨_, rfl, btr hB hq, ?_⟩
          have O := hO.ownB; have Ow := hB.size; clear hO
          have Zp := Zb
          clear P3 P4
          replace Zt := there_below hq Zb Zt; replace Zb := Nat.lt_of_lt_of_le Zb hq.size
          replace hB := btr hB hq; clear hq
          refine plan_takes ?_; simp only [pickOps, List.getElem?_cons_zero, List.getElem?_cons_succ]
          refine quiet_do rfl (.tuple #[.agg #[.slice A R.1.1 k, .int .i64 R.1.2.2.1, .bool R.1.2.2.2], .bool R.2]) (fun _ => by kernel_rfl) ?_
          refine quiet_do rfl (.agg #[.slice A R.1.1 k, .int .i64 R.1.2.2.1, .bool R.1.2.2.2]) (fun _ => by kernel_rfl) ?_
          refine quiet_do rfl (.bool R.2) (fun _ => by kernel_rfl) ?_
          refine wpQuiet_nil ?_
          refine plan_store rfl rfl _ _ _ rfl _ (.slice A R.1.1 k) (.int .i64 R.1.2.2.1) (.bool R.1.2.2.2) (by kernel_rfl) (by kernel_rfl) Zt (by kernel_rfl) (by simp [Value.oneCell']) hB (by first | exact Zl | omega) ?_
          intro wx hg hBx hK
          refine plan_fin ?_
          simp only [List.drop_succ_cons, List.drop_zero]
          go_wp2_with fail
          go_meet
          exact ⟨_, A, k, rfl, rfl, hBx, hK, (O.keep hg (fun g hg => by obtain rfl := Option.some.inj hg; first | exact .inl Zp | exact .inr (Nat.le_refl _))).wider Ow (by have := hg.size; (try simp at this); omega)⟩
        · skip
          refine plan_call rfl rfl 26 #[.agg #[.slice B3 n j3, .int .i64 b, .bool s], .int .i64 M, .agg #[.slice B4 n' j4, .int .i64 b', .bool s'], .int .i64 N] (by kernel_rfl) ?_
          refine (hI B3 j3 B4 j4 _ P3.ints P4.ints).mono ?_
          rintro e u3 ⟨v, rfl, ⟨A, k, rfl, _, _, hO⟩, hq⟩
          refine ⟨_, rfl, btr hB hq, ?_⟩
          have O := hO.ownB; have Ow := hB.size; clear hO
          clear P3 P4
          replace hB := btr hB hq; clear hq
          refine plan_takes ?_; simp only [pickOps, List.getElem?_cons_zero, List.getElem?_cons_succ]
          refine quiet_do rfl (.tuple #[.agg #[.slice A R.1.1 k, .int .i64 R.1.2.2.1, .bool R.1.2.2.2], .bool R.2]) (fun _ => by kernel_rfl) ?_
          refine quiet_do rfl (.agg #[.slice A R.1.1 k, .int .i64 R.1.2.2.1, .bool R.1.2.2.2]) (fun _ => by kernel_rfl) ?_
          refine quiet_do rfl (.bool R.2) (fun _ => by kernel_rfl) ?_
          refine wpQuiet_nil ?_
          have al := bal (Below.refl (u3).heap.size (u3)) (.cells #[.slice none 0 0, .int .i64 0, .bool false] 25)
          refine plan_val rfl rfl (.pointer (some ⟨(u3).heap.size, 0, none⟩)) (w'' := (u3).alloc (.cells #[.slice none 0 0, .int .i64 0, .bool false] 25)) (by kernel_rfl) (btr hB al) ?_
          have Zt := there_new (u3) (.slice none 0 0) (.int .i64 0) (.bool false) 25
          have Zb : (u3).heap.size < ((u3).alloc (.cells #[.slice none 0 0, .int .i64 0, .bool false] 25)).heap.size := by simp
          have Zl := hB.size
          replace hB := btr hB al
          replace O := O.below al
          clear al
          refine plan_store rfl rfl _ _ _ rfl _ (.slice A R.1.1 k) (.int .i64 R.1.2.2.1) (.bool R.1.2.2.2) (by kernel_rfl) (by kernel_rfl) Zt (by kernel_rfl) (by simp [Value.oneCell']) hB (by first | exact Zl | omega) ?_
          intro wx hg hBx hK
          refine plan_fin ?_
          simp only [List.drop_succ_cons, List.drop_zero]
          go_wp2_with fail
          go_meet
          exact ⟨_, A, k, rfl, rfl, hBx, hK, (O.keep hg (fun g hg => by obtain rfl := Option.some.inj hg; first | exact .inl Zp | exact .inr (Nat.le_refl _))).wider Ow (by have := hg.size; (try simp at this); omega)⟩
  obtain ⟨w19, hwc⟩ : ∃ x, x = wc := ⟨_, rfl⟩
  subst hwc
  obtain ⟨p9, A9, k9, rfl, rfl, hq, N, O9⟩ := hcut
  clear gc l0 l3 l6 l9 l12 l15
  clear c0 c1 c2 c3 c4 c5 c6 c7 c8 c9 c10 c11 c12 c13 c14 c15 c16 c17
  replace H := H.below hq
  replace q0 := btr q0 hq
  replace O5 := O5.below hq
  replace O6 := O6.below hq
  replace O7 := O7.below hq
  replace O8 := O8.below hq
  replace H := H.app N
  clear N hq
  have HH_ := H; obtain ⟨c0, c1, c2, c3, c4, c5, c6, c7, c8, c9, c10, c11, c12, c13, c14, c15, c16, c17, c18, c19, c20, _⟩ := HH_
  go_wp2_with fail
  refine (eqlin_same (by omega) O9.ints O5.ints).mono ?_
  rintro e w20 ⟨rfl, hq⟩
  clear c0 c1 c2 c3 c4 c5 c6 c7 c8 c9 c10 c11 c12 c13 c14 c15 c16 c17 c18 c19 c20
  replace H := H.below hq
  replace q0 := btr q0 hq
  replace O5 := O5.below hq
  replace O6 := O6.below hq
  replace O7 := O7.below hq
  replace O8 := O8.below hq
  replace O9 := O9.below hq
  clear hq
  have HH_ := H; obtain ⟨c0, c1, c2, c3, c4, c5, c6, c7, c8, c9, c10, c11, c12, c13, c14, c15, c16, c17, c18, c19, c20, _⟩ := HH_
  go_wp2_with fail
  refine (heldlin_any A8 R.1.1 k8 R.1.2.2.1 1 R.1.2.2.2 _ (by omega) (by omega) O8.ints).mono ?_
  rintro e w21 ⟨rfl, hq⟩
  clear c0 c1 c2 c3 c4 c5 c6 c7 c8 c9 c10 c11 c12 c13 c14 c15 c16 c17 c18 c19 c20
  replace H := H.below hq
  replace q0 := btr q0 hq
  replace O5 := O5.below hq
  replace O6 := O6.below hq
  replace O7 := O7.below hq
  replace O8 := O8.below hq
  replace O9 := O9.below hq
  clear hq
  go_wp2_with fail
  go_ret
  exact ⟨rfl, q0⟩
end Go.Proofs.Ytedkalbjeeigaaa
