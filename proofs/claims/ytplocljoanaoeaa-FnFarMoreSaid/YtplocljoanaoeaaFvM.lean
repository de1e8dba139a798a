/- Walk of FnFarMore. -/
import Derived.Test.YtplocljoanaoeaaB7
import Derived.Test.YtplocljoanaoeaaLinX
namespace Go.Proofs.Ytplocljoanaoeaa
set_option linter.unusedVariables false
set_option linter.unusedSimpArgs false
open Go.RowKit
theorem more_never {n m : Nat} {L : Lst} {Z N D : Nat → Int} {b : Int} {s : Bool} (ha : allB n L 4 N D = true) (h : atB m Z b s 4 N D = (true, true)) : (runE (n + 1) (snocL n L m Z b s)).code ≠ 1 := by
  intro hc
  obtain ⟨hs, hP⟩ := allB_ho ha
  have hs' : ∀ j, j < n + 1 → hoB ((snocL n L m Z b s).Z j) ((snocL n L m Z b s).B j) ((snocL n L m Z b s).S j) N D := fun j hj => by
    unfold snocL
    by_cases e : j = n
    · simp only [if_pos e]; exact (ho_iff h).1 rfl
    · simp only [if_neg e]; exact hs j (by omega)
  cases hr : runE (n + 1) (snocL n L m Z b s) with
  | yes N D => rw [hr] at hc; simp [FarE.code] at hc
  | no U =>
      have h1 := runE_nA hr
      unfold farOkB at h1
      rw [Bool.and_eq_true] at h1
      unfold farS at h1
      split at h1
      · rename_i e
        exact bad_ho h1.2 hP (sumS_ho e.2.2 hs')
      · cases h1.1
  | much => rw [hr] at hc; simp [FarE.code] at hc
  | form => rw [hr] at hc; simp [FarE.code] at hc
def PoM (u : World) (A : Option Addr) (n c : Nat) (L : Lst) (A4 : Option Addr) (n4 c4 : Nat) (Z4 : Nat → Int) (b4 : Int) (s4 : Bool) : Nat → Value → World → Prop
  | 0, v, W => EmL u v W
  | 1, v, W => v = .slice A n c
  | 2, v, W => RoL u n L v W
  | 3, v, W => v = .agg #[.slice A4 n4 c4, .int .i64 b4, .bool s4]
  | 4, v, W => OnL u A4 n4 c4 b4 s4 v W
  | 5, v, W => RoL u (n + 1) (snocL n L n4 Z4 b4 s4) v W
  | 6, v, W => ∃ A' m' c' B' k' d', v = .tuple #[.slice A' m' c', .slice B' k' d', .int .i64 (runE (n + 1) (snocL n L n4 Z4 b4 s4)).code]
  | 7, v, W => ∃ A' m' c' B' k' d', v = .tuple #[.slice A' m' c', .slice B' k' d', .int .i64 (runE (n + 1) (snocL n L n4 Z4 b4 s4)).code]
  | 10, v, W => v = .int .i64 (runE (n + 1) (snocL n L n4 Z4 b4 s4)).code
  | _, _, _ => True
theorem PoM_mono {u : World} {A : Option Addr} {n c : Nat} {L : Lst} {A4 : Option Addr} {n4 c4 : Nat} {Z4 : Nat → Int} {b4 : Int} {s4 : Bool} : ∀ (j : Nat) (v : Value) (W W' : World), Below W.heap.size W W' → PoM u A n c L A4 n4 c4 Z4 b4 s4 j v W → PoM u A n c L A4 n4 c4 Z4 b4 s4 j v W'
  | 0, v, W, W', hb, h => EmL.below h hb
  | 1, v, W, W', hb, h => h
  | 2, v, W, W', hb, h => RoL.below h hb
  | 3, v, W, W', hb, h => h
  | 4, v, W, W', hb, h => OnL.below h hb
  | 5, v, W, W', hb, h => RoL.below h hb
  | 6, v, W, W', hb, h => h
  | 7, v, W, W', hb, h => h
  | 8, v, W, W', hb, h => trivial
  | 9, v, W, W', hb, h => trivial
  | 10, v, W, W', hb, h => h
  | j + 11, v, W, W', hb, h => trivial
theorem heap_newL (W : World) : (W.alloc (.cells #[] 28)).heap[W.heap.size]? = some (Obj.cells #[] 28 (0, 0)) := Deep.blk_alloc_new _ _
set_option maxRecDepth 100000 in
set_option maxHeartbeats 16000000 in
theorem walk_FarMore (a0 : Option Addr) (len0 cap0 : Nat) (w : World) (hby : Bytes w.heap.size w a0 len0) (hlc : len0 ≤ cap0) (hc0 : cap0 ≤ 9223372036854775807) :
    Calls Try.prog 10 #[.slice a0 len0 cap0] w fun e w' => e = .returned (.bool true) ∧ Below w.heap.size w w' := by
  by_cases hbig : 1048576 < len0
  · go_enter Try.func10, Try.ntmps10
    go_wp2
    go_ret
    exact ⟨rfl, Below.refl _ _⟩
  go_enter Try.func10, Try.ntmps10
  go_wp2_with fail
  refine (drawfarrun_any w.heap.size w a0 len0 cap0 (Nat.le_refl _) hby hlc hc0).mono ?_
  rintro e w1 ⟨A, n, c, L, rfl, hn, hA, hN0, hq⟩
  have hN : ∀ k, k < n → L.N k ≤ 1048576 := fun k hk => by have := hN0 k hk; omega
  have q0 := hq
  clear hq hN0
  go_wp2_with fail
  refine (drawlinat_any w.heap.size w1 a0 len0 cap0 q0.size (hby.below q0) hlc hc0).mono ?_
  rintro e w2 ⟨A4, n4, c4, Z4, b4, s4, D, v, d, N0, M0, rfl, hn4, hZ, _, _, hq⟩
  have al := bal (Below.refl w2.heap.size w2) (.cells #[.slice A4 n4 c4, .int .i64 b4, .bool s4] 28)
  obtain ⟨x0, x1, x2⟩ := new3 w2 (.slice A4 n4 c4) (.int .i64 b4) (.bool s4) 28
  replace hA := hA.below (btr hq al)
  replace hZ := hZ.below al
  replace q0 := btr (btr q0 hq) al
  have hNs : ∀ k, k < n + 1 → (snocL n L n4 Z4 b4 s4).N k ≤ 1048576 := fun k hk => by
    unfold snocL
    by_cases e : k = n
    · simp only [if_pos e]; omega
    · simp only [if_neg e]; exact hN k (by omega)
  clear hq al hby hlc hc0 hbig
  have hI := farrun_any A n c L _ (by omega) hA hN
  have hP := fun W h => sfarrun_any A n c L W (by omega) (hA.below h) hN
  cases hr : runE n L with
  | yes N D' =>
      have hall := runE_yA hr
      rw [hr] at hI hP
      unfold RunP at hI
      unfold SRunP at hP
      simp only [FarE.m, FarE.k, FarE.N, FarE.D, FarE.U, FarE.code] at hI hP
      go_wp2_with fail
      refine hI.mono ?_
      rintro e w3 ⟨A1, c1, B1, d1, rfl, hq, O1, _⟩
      have hV := O1.rats
      clear hI O1
      replace x0 := carry hq x0
      replace x1 := carry hq x1
      replace x2 := carry hq x2
      replace hA := hA.below hq
      replace hZ := hZ.below hq
      go_wp2_with fail
      refine (hP _ hq).mono ?_
      rintro e w4 ⟨A2, c2, B2, d2, rfl, hq2, _, _⟩
      clear hP
      replace q0 := btr (btr q0 hq) hq2
      replace x0 := carry hq2 x0
      replace x1 := carry hq2 x1
      replace x2 := carry hq2 x2
      replace hA := hA.below hq2
      replace hZ := hZ.below hq2
      replace hV := hV.below hq2
      clear hq hq2
      have hT := linat_any A4 n4 c4 Z4 b4 s4 A1 4 c1 N D' w4 (by omega) hZ (by omega) hV
      have hM := @more_never n n4 L Z4 N D' b4 s4 hall
      rcases hat : atB n4 Z4 b4 s4 4 N D' with ⟨p, q⟩
      rw [hat] at hT hM
      go_wp2_with fail
      refine hT.mono ?_
      rintro e wr ⟨rfl, hq⟩
      replace q0 := btr q0 hq
      replace x0 := carry hq x0
      replace x1 := carry hq x1
      replace x2 := carry hq x2
      replace hA := hA.below hq
      replace hZ := hZ.below hq
      clear hq hT hV hat
      go_upto_region 10 with fail
      have hDr := (Below.refl wr.heap.size wr).drew
      obtain ⟨u, hu⟩ : ∃ u, u = wr.drew := ⟨_, rfl⟩
      rw [← hu] at hDr
      have x0u := carry hDr x0; have x1u := carry hDr x1; have x2u := carry hDr x2
      have hAu := hA.below hDr; have hZu := hZ.below hDr
      refine region_stabL (fun W => Below u.heap.size u W) (PoM u A n c L A4 n4 c4 Z4 b4 s4) [[], [], [0, 1], [], [3], [2, 4], [5], [6], [7], [7], [7], [8], [9]] [[], [], [0, 1], [], [3], [0, 1, 2, 3, 4], [0, 1, 2, 3, 4, 5], [0, 1, 2, 3, 4, 5, 6], [0, 1, 2, 3, 4, 5, 6, 7], [0, 1, 2, 3, 4, 5, 6, 7], [0, 1, 2, 3, 4, 5, 6, 7], [0, 1, 2, 3, 4, 5, 6, 7, 8], [0, 1, 2, 3, 4, 5, 6, 7, 9]] [[], [], [0], [], [], [0, 2, 4], [], [], [], [], [], [], []] 13 rfl (by kernel_rfl) (by decide) (by rw [← hu]; exact Below.refl _ _) (fun i hi => ?_) ?_
      · match i, hi with
        | 0, _ =>
          refine ⟨_, rfl, fun V W hC hP => ?_⟩
          have hal := bal (Below.refl W.heap.size W) (.cells #[] 28)
          simp only [List.getD_cons_zero, List.getD_cons_succ, puts, dstOf, List.getElem?_toArray, List.getElem?_cons_zero, List.getElem?_cons_succ, Option.bind_some]
          exact stl_val (v := .slice (some ⟨W.heap.size, 0, none⟩) 0 0) (w' := W.alloc (.cells #[] 28)) (by simp [execOp, go_sem]) ⟨btr hC hal, ⟨W.heap.size, rfl, hC.size, heap_newL W⟩, fun j x _ _ _ _ hp => PoM_mono j x _ _ hal hp⟩
        | 1, _ =>
          refine ⟨_, rfl, fun V W hC hP => ?_⟩
          simp only [List.getD_cons_zero, List.getD_cons_succ, puts, dstOf, List.getElem?_toArray, List.getElem?_cons_zero, List.getElem?_cons_succ, Option.bind_some]
          exact stl_val (v := .slice A n c) (by simp [execOp, go_sem]) ⟨hC, rfl, fun j x _ _ _ _ hp => hp⟩
        | 2, _ =>
          refine ⟨_, rfl, fun V W hC hP => ?_⟩
          have h0 := hP 0 (by decide)
          have h1 := hP 1 (by decide)
          replace h1 : V 1 = _ := h1
          obtain ⟨b, e0, hb, hh⟩ := h0
          simp only [List.getD_cons_zero, List.getD_cons_succ, puts, dstOf, List.getElem?_toArray, List.getElem?_cons_zero, List.getElem?_cons_succ, Option.bind_some, h1, e0]
          obtain ⟨v5, w5, hr, hg, hown⟩ := appL_own u.heap.size b A c n L 23 u W (by omega) hAu hN hC hh hb
          exact stl_append rfl rfl rfl hr ⟨hC.grown hg hC.size (fun r hr => by cases hr; exact hb), hown, fun j x hj hne hT hK hp => by
              match j, hj with
              | 0, _ => exact absurd (by decide) hK
              | 1, _ => exact hp
              | 2, _ => exact absurd rfl hne
              | 3, _ => exact hp
              | 4, _ => exact OnL.grow hp hg hh
              | 5, _ => exact absurd (by decide) hT
              | 6, _ => exact absurd (by decide) hT
              | 7, _ => exact absurd (by decide) hT
              | 8, _ => exact absurd (by decide) hT
              | 9, _ => exact absurd (by decide) hT
              | 10, _ => exact absurd (by decide) hT
              | 11, _ => exact absurd (by decide) hT
              | 12, _ => exact absurd (by decide) hT
              | j + 13, h => exact absurd h (by omega)⟩
        | 3, _ =>
          refine ⟨_, rfl, fun V W hC hP => ?_⟩
          simp only [List.getD_cons_zero, List.getD_cons_succ, puts, dstOf, List.getElem?_toArray, List.getElem?_cons_zero, List.getElem?_cons_succ, Option.bind_some]
          exact stl_val (v := .agg #[.slice A4 n4 c4, .int .i64 b4, .bool s4]) (run_load3 rfl rfl Try.underlying28 rfl (by kernel_rfl) (carry hC x0u) (carry hC x1u) (carry hC x2u)) ⟨hC, rfl, fun j x _ _ _ _ hp => hp⟩
        | 4, _ =>
          refine ⟨_, rfl, fun V W hC hP => ?_⟩
          have h3 := hP 3 (by decide)
          replace h3 : V 3 = _ := h3
          have hal := bal (Below.refl W.heap.size W) (.cells #[.slice A4 n4 c4, .int .i64 b4, .bool s4] 28)
          simp only [List.getD_cons_zero, List.getD_cons_succ, puts, dstOf, List.getElem?_toArray, List.getElem?_cons_zero, List.getElem?_cons_succ, Option.bind_some, h3]
          obtain ⟨y0, y1, y2⟩ := new3 W (.slice A4 n4 c4) (.int .i64 b4) (.bool s4) 28
          exact stl_val (v := .slice (some ⟨W.heap.size, 0, none⟩) 1 1) (w' := W.alloc (.cells #[.slice A4 n4 c4, .int .i64 b4, .bool s4] 28)) (by simp [execOp, go_sem]) ⟨btr hC hal, ⟨W.heap.size, rfl, hC.size, y0, y1, y2⟩, fun j x _ _ _ _ hp => PoM_mono j x _ _ hal hp⟩
        | 5, _ =>
          refine ⟨_, rfl, fun V W hC hP => ?_⟩
          have h2 := hP 2 (by decide)
          have h4 := hP 4 (by decide)
          replace h2 : RoL u n L (V 2) W := h2
          replace h4 : OnL u A4 n4 c4 b4 s4 (V 4) W := h4
          simp only [List.getD_cons_zero, List.getD_cons_succ, puts, dstOf, List.getElem?_toArray, List.getElem?_cons_zero, List.getElem?_cons_succ, Option.bind_some]
          obtain ⟨v6, w6, hr, hg, hlo, hown⟩ := appL_one n L 23 u W (V 2) (V 4) A4 n4 c4 Z4 b4 s4 (by omega) hC h2 h4 (by omega) hZu
          exact stl_append rfl rfl rfl hr ⟨hC.grown hg hC.size hlo, hown, fun j x hj hne hT hK hp => by
              match j, hj with
              | 0, _ => exact absurd (by decide) hK
              | 1, _ => exact hp
              | 2, _ => exact absurd (by decide) hK
              | 3, _ => exact hp
              | 4, _ => exact absurd (by decide) hK
              | 5, _ => exact absurd rfl hne
              | 6, _ => exact absurd (by decide) hT
              | 7, _ => exact absurd (by decide) hT
              | 8, _ => exact absurd (by decide) hT
              | 9, _ => exact absurd (by decide) hT
              | 10, _ => exact absurd (by decide) hT
              | 11, _ => exact absurd (by decide) hT
              | 12, _ => exact absurd (by decide) hT
              | j + 13, h => exact absurd h (by omega)⟩
        | 6, _ =>
          refine ⟨_, rfl, fun V W hC hP => ?_⟩
          have h5 := hP 5 (by decide)
          replace h5 : RoL u (n + 1) (snocL n L n4 Z4 b4 s4) (V 5) W := h5
          obtain ⟨a6, c6, e6, hL6⟩ := h5.lins hC
          simp only [List.getD_cons_zero, List.getD_cons_succ, puts, dstOf, List.getElem?_toArray, List.getElem?_cons_zero, List.getElem?_cons_succ, Option.bind_some, e6]
          refine stl_call (by kernel_rfl) ((farrun_any a6 (n + 1) c6 (snocL n L n4 Z4 b4 s4) W (by omega) hL6 hNs).mono ?_)
          rintro e w7 ⟨A', c', B', d', rfl, hal, _, _⟩
          exact ⟨_, rfl, btr hC hal, ⟨A', _, c', B', _, d', rfl⟩, fun j x _ _ _ _ hp => PoM_mono j x _ _ hal hp⟩
        | 7, _ =>
          refine ⟨_, rfl, fun V W hC hP => ?_⟩
          obtain ⟨A', m', c', B', k', d', e6⟩ := hP 6 (by decide)
          simp only [List.getD_cons_zero, List.getD_cons_succ, puts, dstOf, List.getElem?_toArray, List.getElem?_cons_zero, List.getElem?_cons_succ, Option.bind_some, e6]
          exact stl_val (v := _) (by simp [execOp, go_sem]) ⟨hC, ⟨A', m', c', B', k', d', rfl⟩, fun j x _ _ _ _ hp => hp⟩
        | 8, _ =>
          refine ⟨_, rfl, fun V W hC hP => ?_⟩
          obtain ⟨A', m', c', B', k', d', e7⟩ := hP 7 (by decide)
          simp only [List.getD_cons_zero, List.getD_cons_succ, puts, dstOf, List.getElem?_toArray, List.getElem?_cons_zero, List.getElem?_cons_succ, Option.bind_some, e7]
          exact stl_val (v := (.slice A' m' c')) (by simp [execOp, go_sem]) ⟨hC, trivial, fun j x _ _ _ _ hp => hp⟩
        | 9, _ =>
          refine ⟨_, rfl, fun V W hC hP => ?_⟩
          obtain ⟨A', m', c', B', k', d', e7⟩ := hP 7 (by decide)
          simp only [List.getD_cons_zero, List.getD_cons_succ, puts, dstOf, List.getElem?_toArray, List.getElem?_cons_zero, List.getElem?_cons_succ, Option.bind_some, e7]
          exact stl_val (v := (.slice B' k' d')) (by simp [execOp, go_sem]) ⟨hC, trivial, fun j x _ _ _ _ hp => hp⟩
        | 10, _ =>
          refine ⟨_, rfl, fun V W hC hP => ?_⟩
          obtain ⟨A', m', c', B', k', d', e7⟩ := hP 7 (by decide)
          simp only [List.getD_cons_zero, List.getD_cons_succ, puts, dstOf, List.getElem?_toArray, List.getElem?_cons_zero, List.getElem?_cons_succ, Option.bind_some, e7]
          exact stl_val (v := (.int .i64 (runE (n + 1) (snocL n L n4 Z4 b4 s4)).code)) (by simp [execOp, go_sem]) ⟨hC, rfl, fun j x _ _ _ _ hp => hp⟩
        | 11, _ =>
          refine ⟨_, rfl, fun V W hC hP => ?_⟩
          simp only [List.getD_cons_zero, List.getD_cons_succ, puts, dstOf, List.getElem?_toArray, List.getElem?_cons_zero, List.getElem?_cons_succ, Option.bind_some]
          exact stl_val (v := V 8) (by simp [execOp, go_sem]) ⟨hC, trivial, fun j x _ _ _ _ hp => hp⟩
        | 12, _ =>
          refine ⟨_, rfl, fun V W hC hP => ?_⟩
          simp only [List.getD_cons_zero, List.getD_cons_succ, puts, dstOf, List.getElem?_toArray, List.getElem?_cons_zero, List.getElem?_cons_succ, Option.bind_some]
          exact stl_val (v := V 9) (by simp [execOp, go_sem]) ⟨hC, trivial, fun j x _ _ _ _ hp => hp⟩
        | i + 13, h => exact absurd h (by omega)
      intro V W hC hP
      have e10 : V 10 = _ := hP 10 (by decide) (by decide)
      clear hP
      rw [show List.range 13 = [0, 1, 2, 3, 4, 5, 6, 7, 8, 9, 10, 11, 12] from rfl]
      simp only [List.getD_cons_zero, List.getD_cons_succ, puts, dstOf, List.getElem?_toArray, List.getElem?_cons_zero, List.getElem?_cons_succ, Option.bind_some, e10, List.drop_succ_cons, List.drop_zero, Act.put, List.setIfInBounds_toArray, List.set_cons_succ, List.set_cons_zero]
      have q1 := btr q0 (btr hDr hC)
      cases q
      · go_wp2
        go_ret
        exact ⟨rfl, q1⟩
      cases p
      · go_wp2
        go_ret
        exact ⟨rfl, q1⟩
      have hne := hM rfl
      generalize (runE (n + 1) (snocL n L n4 Z4 b4 s4)).code = code at *
      have d1 : (code != 1) = true := by simpa using hne
      go_wp2
      go_ret
      exact ⟨rfl, q1⟩
  | no U =>
      rw [hr] at hI hP
      unfold RunP at hI
      unfold SRunP at hP
      simp only [FarE.m, FarE.k, FarE.N, FarE.D, FarE.U, FarE.code] at hI hP
      go_wp2_with fail
      refine hI.mono ?_
      rintro e w3 ⟨A1, c1, B1, d1, rfl, hq, _, _⟩
      clear hI
      go_wp2_with fail
      refine (hP _ hq).mono ?_
      rintro e w4 ⟨A2, c2, B2, d2, rfl, hq2, _, _⟩
      go_wp2
      go_ret
      exact ⟨rfl, btr (btr q0 hq) hq2⟩
  | much =>
      rw [hr] at hI hP
      unfold RunP at hI
      unfold SRunP at hP
      simp only [FarE.m, FarE.k, FarE.N, FarE.D, FarE.U, FarE.code] at hI hP
      go_wp2_with fail
      refine hI.mono ?_
      rintro e w3 ⟨A1, c1, B1, d1, rfl, hq, _, _⟩
      clear hI
      go_wp2_with fail
      refine (hP _ hq).mono ?_
      rintro e w4 ⟨A2, c2, B2, d2, rfl, hq2, _, _⟩
      go_wp2
      go_ret
      exact ⟨rfl, btr (btr q0 hq) hq2⟩
  | form =>
      rw [hr] at hI hP
      unfold RunP at hI
      unfold SRunP at hP
      simp only [FarE.m, FarE.k, FarE.N, FarE.D, FarE.U, FarE.code] at hI hP
      go_wp2_with fail
      refine hI.mono ?_
      rintro e w3 ⟨A1, c1, B1, d1, rfl, hq, _, _⟩
      clear hI
      go_wp2_with fail
      refine (hP _ hq).mono ?_
      rintro e w4 ⟨A2, c2, B2, d2, rfl, hq2, _, _⟩
      go_wp2
      go_ret
      exact ⟨rfl, btr (btr q0 hq) hq2⟩
end Go.Proofs.Ytplocljoanaoeaa
