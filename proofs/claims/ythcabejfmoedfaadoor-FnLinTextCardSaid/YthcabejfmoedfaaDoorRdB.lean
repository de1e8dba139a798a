/- Contract of the program's RatRead. -/
import Derived.Test.YthcabejfmoedfaaDoorRdA
import Derived.Test.YthcabejfmoedfaaDoorText
namespace Go.Proofs.YthcabejfmoedfaaDoor
set_option linter.unusedVariables false
set_option linter.unusedSimpArgs false
open Go.Shelf Go.RowKit Go.Joins
/-- the cell of the variable g holds an error -/
def ErrAt (w : World) (g : Nat) : Prop := ∃ u v, w.cell? ⟨g, 0, none⟩ = some (.iface u v)
def MaxAt (w : World) : Prop := ∃ m, w.cell? ⟨0, 0, none⟩ = some (.int .i64 m)
theorem ErrAt.below {w w' : World} {g : Nat} (h : ErrAt w g) (hb : Below w.heap.size w w') : ErrAt w' g := by
  obtain ⟨u, v, h⟩ := h; exact ⟨u, v, carry hb h⟩
theorem MaxAt.below {w w' : World} (h : MaxAt w) (hb : Below w.heap.size w w') : MaxAt w' := by
  obtain ⟨u, h⟩ := h; exact ⟨u, carry hb h⟩
theorem below_drewN (w : World) (n : Nat) : Below w.heap.size w (w.drewN n) := ⟨rfl, rfl, rfl, Nat.le_refl _, fun _ _ => rfl⟩
theorem strcut_at (s : ByteArray) (c : UInt8) (w : World) (hs : s.size ≤ 1048576) (hm : MaxAt w) :
    Calls Tryd.prog 46 #[.string s, .string ⟨#[c]⟩] w fun e w' => e = .returned (.tuple #[.string ⟨(Lib.cut s.data.toList [c]).1.toArray⟩, .string ⟨(Lib.cut s.data.toList [c]).2.1.toArray⟩, .bool (Lib.cut s.data.toList [c]).2.2]) ∧ Below w.heap.size w w' := by
  obtain ⟨m, hm⟩ := hm
  refine (Tryd.strings_Cut s ⟨#[c]⟩ m w (by omega) hm).mono ?_
  rintro e w' ⟨rfl, n, rfl⟩
  exact ⟨rfl, below_drewN w n⟩
theorem atoi_ok {s : ByteArray} {v : Int} (hs : s.size ≤ 1048576) (h : Lib.atoiAll s.data.toList = .ok v) (w : World) :
    Calls Tryd.prog 47 #[.string s] w fun e w' => e = .returned (.tuple #[.int .i64 v, .nilIface]) ∧ Below w.heap.size w w' := by
  refine (Tryd.strconv_Atoi_ok s (by omega) v h w).mono ?_
  rintro e w' ⟨rfl, rfl | ⟨t, rfl⟩⟩
  · exact ⟨rfl, Below.refl _ _⟩
  · exact ⟨rfl, Lib.bytesWorld_below _ _ _⟩
theorem atoi_no {s : ByteArray} (hs : s.size ≤ 1048576) (h : ∀ v, Lib.atoiAll s.data.toList ≠ .ok v) (w : World) (h1 : ErrAt w 1) (h2 : ErrAt w 2) :
    Calls Tryd.prog 47 #[.string s] w fun e w' => (∃ v T y, e = .returned (.tuple #[.int .i64 v, .iface T y])) ∧ Below w.heap.size w w' := by
  obtain ⟨u1, x1, h1⟩ := h1
  obtain ⟨u2, x2, h2⟩ := h2
  rcases ha : Lib.atoiAll s.data.toList with v | _ | _
  · exact absurd ha (h v)
  · refine (Tryd.strconv_Atoi_syntax s (by omega) ha _ w h1 (.inr ⟨_, _, rfl⟩)).mono ?_
    rintro e w' ⟨N, rfl, _, _, hb⟩
    exact ⟨⟨_, _, _, rfl⟩, hb⟩
  · refine (Tryd.strconv_Atoi_range s (by omega) ha _ w h2 (.inr ⟨_, _, rfl⟩)).mono ?_
    rintro e w' ⟨N, rfl, _, _, hb⟩
    exact ⟨⟨_, _, _, rfl⟩, hb⟩
theorem cut_size (l : List UInt8) (c : UInt8) : (Lib.cut l [c]).1.length ≤ l.length ∧ (Lib.cut l [c]).2.1.length ≤ l.length := by
  unfold Lib.cut
  split
  · exact ⟨by simp <;> omega, by simp <;> omega⟩
  · simp
/-- what Atoi reads below the fraction line -/
def lowOf (s : ByteArray) : List UInt8 := if (Lib.cut s.data.toList [47]).2.2 = true then (Lib.cut s.data.toList [47]).2.1 else [49]
theorem atoi_one : Lib.atoiAll [49] = .ok 1 := by decide
theorem rd_cut {s : ByteArray} {n d : Int} (h : RdOk s n d) : Lib.atoiAll (Lib.cut s.data.toList [47]).1 = .ok n ∧ Lib.atoiAll (lowOf s) = .ok d := by
  have hb := ok_b h.1
  unfold lowOf
  rcases rd_split h with ⟨h1, h2⟩ | ⟨h1, h2⟩
  · rw [h2, cut_none (no47 n)]
    exact ⟨atoi_itoa n (by omega), by rw [if_neg (by simp), h1]; exact atoi_one⟩
  · rw [h2, cut_one (no47 n)]
    exact ⟨atoi_itoa n (by omega), by rw [if_pos rfl]; exact atoi_itoa d (by omega)⟩
theorem rd_from {s : ByteArray} {n d : Int} (h1 : Lib.atoiAll (Lib.cut s.data.toList [47]).1 = .ok n) (h : s = ⟨(ratTxt n d).toArray⟩) : RdOk s n d := by
  refine ⟨?_, h⟩
  cases hv : okB n d
  · have : s.data.toList = [] := by rw [h, bytes_list]; unfold ratTxt; rw [if_neg (by simp [hv])]
    rw [this, cut_none (by simp)] at h1
    cases h1
  · rfl
set_option maxRecDepth 100000 in
set_option maxHeartbeats 4000000 in
theorem ratread_any (s : ByteArray) (w : World) (hs : s.size ≤ 1048576) (htab : Lib.TabIs Tryd.prog w "internal/strconv.uint64pow10" .u64 Lib.pow10Tab) (hm : MaxAt w) (h1 : ErrAt w 1) (h2 : ErrAt w 2) :
    Calls Tryd.prog 11 #[.string s] w fun e w' => RdP s e ∧ Below w.heap.size w w' := by
  have hF := fun n d (h : RdOk s n d) => rd_cut h
  have hG := fun n d (h : Lib.atoiAll (Lib.cut s.data.toList [47]).1 = .ok n) => rd_from (d := d) h
  have hz := cut_size s.data.toList 47
  have hsl : s.data.toList.length = s.size := by simp
  have hC := fun W (hb : Below w.heap.size w W) => strcut_at s 47 W hs (hm.below hb)
  have hT := hid (fun W (hb : Below w.heap.size w W) => tab_keep htab hb)
  have hE1 := hid (fun W (hb : Below w.heap.size w W) => h1.below hb)
  have hE2 := hid (fun W (hb : Below w.heap.size w W) => h2.below hb)
  clear htab hm h1 h2
  obtain ⟨p0, p1⟩ := pair_new w (.int .i64 0) (.int .i64 0) 23
  have r0 : (w.alloc (.cells #[.int .i64 0, .int .i64 0] 23)).frozen? ⟨w.heap.size, 0, none⟩ = false := by simp [go_sem]
  have r1 : (w.alloc (.cells #[.int .i64 0, .int .i64 0] 23)).frozen? ⟨w.heap.size, 1, none⟩ = false := by simp [go_sem]
  have q0 := bal (Below.refl w.heap.size w) (.cells #[.int .i64 0, .int .i64 0] 23)
  replace hC := hC _ q0
  have hL : lowOf s = if (Lib.cut s.data.toList [47]).2.2 = true then (Lib.cut s.data.toList [47]).2.1 else [49] := rfl
  generalize lowOf s = low at hF hL
  generalize Lib.cut s.data.toList [47] = X at hC hF hG hz hL
  obtain ⟨up, lo, found⟩ := X
  simp only at hC hF hG hz hL
  have zu : (⟨up.toArray⟩ : ByteArray).size ≤ 1048576 := by show up.length ≤ _; omega
  have zl : (⟨low.toArray⟩ : ByteArray).size ≤ 1048576 := by show low.length ≤ _; rw [hL]; split <;> first | omega | (show 1 ≤ _; omega)
  go_enter Tryd.func11, Tryd.ntmps11
  go_wp2_with fail
  refine hC.mono ?_
  rintro e w1 ⟨rfl, hq⟩
  replace r0 := carryf hq r0 (cell_lt p0)
  replace r1 := carryf hq r1 (cell_lt p1)
  replace p0 := carry hq p0
  replace p1 := carry hq p1
  replace q0 := btr q0 hq
  clear hq hC
  have hsz := cell_lt p0
  -- TAIL
  cases found
  · have hl : Lib.atoiAll low = .ok 1 := by rw [hL]; exact atoi_one
    clear zl hL
    by_cases hu : ∃ n, Lib.atoiAll up = .ok n
    · obtain ⟨n0, hu⟩ := hu
      go_wp2_with fail
      refine (atoi_ok (s := ⟨up.toArray⟩) zu hu _).mono ?_
      rintro e w2 ⟨rfl, hq⟩
      replace r0 := carryf hq r0 (cell_lt p0)
      replace r1 := carryf hq r1 (cell_lt p1)
      replace p0 := carry hq p0
      replace p1 := carry hq p1
      replace q0 := btr q0 hq
      clear hq
      have hsz := cell_lt p0
      go_wp2_with fail
      refine (atoi_ok (s := ⟨#[49]⟩) (by decide) (show Lib.atoiAll (⟨#[49]⟩ : ByteArray).data.toList = .ok 1 from atoi_one) _).mono ?_
      rintro e w3 ⟨rfl, hq⟩
      replace r0 := carryf hq r0 (cell_lt p0)
      replace r1 := carryf hq r1 (cell_lt p1)
      replace p0 := carry hq p0
      replace p1 := carry hq p1
      replace q0 := btr q0 hq
      clear hq
      have hsz := cell_lt p0
      obtain ⟨a0, a1⟩ := pair_new w3 (.int .i64 n0) (.int .i64 1) 23
      replace r0 := carryf (bal (Below.refl _ _) (.cells #[.int .i64 n0, .int .i64 1] 23)) r0 (cell_lt p0)
      replace r1 := carryf (bal (Below.refl _ _) (.cells #[.int .i64 n0, .int .i64 1] 23)) r1 (cell_lt p1)
      replace p0 := carryA (.cells #[.int .i64 n0, .int .i64 1] 23) p0
      replace p1 := carryA (.cells #[.int .i64 n0, .int .i64 1] 23) p1
      replace q0 := bal q0 (.cells #[.int .i64 n0, .int .i64 1] 23)
      have HT := hT.out _ q0
      go_wp2_with fail
      refine (rattext_any n0 1 _ HT).mono ?_
      rintro e w4 ⟨rfl, hq⟩
      replace a0 := carry hq a0
      replace a1 := carry hq a1
      replace r0 := carryf hq r0 (cell_lt p0)
      replace r1 := carryf hq r1 (cell_lt p1)
      replace p0 := carry hq p0
      replace p1 := carry hq p1
      replace q0 := btr q0 hq
      clear hq HT
      have hsz4 := cell_lt p0
      have hsA4 := cell_lt a0
      have hR : RdOk s n0 1 ↔ s = ⟨(ratTxt n0 1).toArray⟩ := ⟨fun h => h.2, fun h => hG n0 1 hu h⟩
      generalize (⟨(ratTxt n0 1).toArray⟩ : ByteArray) = X at hR ⊢
      by_cases hk : s = X
      · have hk5 : (X.toList == s.toList) = true := by rw [strs_eq]; simp [hk]
        obtain ⟨t0_, t1_⟩ := set2 p0 p1 (.int .i64 n0) (.int .i64 1)
        go_wp2
        refine bodyPost_ret (v := .tuple #[.agg #[.int .i64 n0, .int .i64 1], .bool true]) (by simp [results, Tryd.results11, go_sem, t0_, t1_]) rfl ?_
        refine ⟨.inl ⟨_, _, hR.2 hk, rfl⟩, ?_⟩
        exact bst (bst q0 (Nat.le_refl _) _) (Nat.le_refl _) _
      · have hk5 : (X.toList == s.toList) = false := by rw [strs_eq]; simp; exact fun h => hk h.symm
        obtain ⟨t0_, t1_⟩ := set2 p0 p1 (.int .i64 0) (.int .i64 0)
        go_wp2
        refine bodyPost_ret (v := .tuple #[.agg #[.int .i64 0, .int .i64 0], .bool false]) (by simp [results, Tryd.results11, go_sem, t0_, t1_]) rfl ?_
        refine ⟨.inr ⟨fun n d h => ?_, rfl⟩, ?_⟩
        · obtain ⟨e1, e2⟩ := hF n d h
          rw [hu] at e1; rw [hl] at e2
          injection e1 with e1; injection e2 with e2
          subst e1; subst e2
          exact hk (hR.1 h)
        exact bst (bst q0 (Nat.le_refl _) _) (Nat.le_refl _) _
    · go_wp2_with fail
      refine (atoi_no (s := ⟨up.toArray⟩) zu (fun v h => hu ⟨v, h⟩) _ (hE1.out _ q0) (hE2.out _ q0)).mono ?_
      rintro e w2 ⟨⟨_, _, _, rfl⟩, hq⟩
      replace r0 := carryf hq r0 (cell_lt p0)
      replace r1 := carryf hq r1 (cell_lt p1)
      replace p0 := carry hq p0
      replace p1 := carry hq p1
      replace q0 := btr q0 hq
      clear hq
      have hsz := cell_lt p0
      go_wp2_with fail
      refine (atoi_ok (s := ⟨#[49]⟩) (by decide) (show Lib.atoiAll (⟨#[49]⟩ : ByteArray).data.toList = .ok 1 from atoi_one) _).mono ?_
      rintro e w3 ⟨rfl, hq⟩
      replace r0 := carryf hq r0 (cell_lt p0)
      replace r1 := carryf hq r1 (cell_lt p1)
      replace p0 := carry hq p0
      replace p1 := carry hq p1
      replace q0 := btr q0 hq
      clear hq
      have hsz := cell_lt p0
      obtain ⟨t0_, t1_⟩ := set2 p0 p1 (.int .i64 0) (.int .i64 0)
      go_wp2
      refine bodyPost_ret (v := .tuple #[.agg #[.int .i64 0, .int .i64 0], .bool false]) (by simp [results, Tryd.results11, go_sem, t0_, t1_]) rfl ?_
      refine ⟨.inr ⟨fun n d h => hu ⟨_, (hF n d h).1⟩, rfl⟩, ?_⟩
      exact bst (bst q0 (Nat.le_refl _) _) (Nat.le_refl _) _
  · obtain rfl : low = lo := hL
    by_cases hu : ∃ n, Lib.atoiAll up = .ok n
    · obtain ⟨n0, hu⟩ := hu
      go_wp2_with fail
      refine (atoi_ok (s := ⟨up.toArray⟩) zu hu _).mono ?_
      rintro e w2 ⟨rfl, hq⟩
      replace r0 := carryf hq r0 (cell_lt p0)
      replace r1 := carryf hq r1 (cell_lt p1)
      replace p0 := carry hq p0
      replace p1 := carry hq p1
      replace q0 := btr q0 hq
      clear hq
      have hsz := cell_lt p0
      by_cases hl : ∃ d, Lib.atoiAll low = .ok d
      · obtain ⟨d0, hl⟩ := hl
        go_wp2_with fail
        refine (atoi_ok (s := ⟨low.toArray⟩) zl hl _).mono ?_
        rintro e w3 ⟨rfl, hq⟩
        replace r0 := carryf hq r0 (cell_lt p0)
        replace r1 := carryf hq r1 (cell_lt p1)
        replace p0 := carry hq p0
        replace p1 := carry hq p1
        replace q0 := btr q0 hq
        clear hq
        have hsz := cell_lt p0
        obtain ⟨a0, a1⟩ := pair_new w3 (.int .i64 n0) (.int .i64 d0) 23
        replace r0 := carryf (bal (Below.refl _ _) (.cells #[.int .i64 n0, .int .i64 d0] 23)) r0 (cell_lt p0)
        replace r1 := carryf (bal (Below.refl _ _) (.cells #[.int .i64 n0, .int .i64 d0] 23)) r1 (cell_lt p1)
        replace p0 := carryA (.cells #[.int .i64 n0, .int .i64 d0] 23) p0
        replace p1 := carryA (.cells #[.int .i64 n0, .int .i64 d0] 23) p1
        replace q0 := bal q0 (.cells #[.int .i64 n0, .int .i64 d0] 23)
        have HT := hT.out _ q0
        go_wp2_with fail
        refine (rattext_any n0 d0 _ HT).mono ?_
        rintro e w4 ⟨rfl, hq⟩
        replace a0 := carry hq a0
        replace a1 := carry hq a1
        replace r0 := carryf hq r0 (cell_lt p0)
        replace r1 := carryf hq r1 (cell_lt p1)
        replace p0 := carry hq p0
        replace p1 := carry hq p1
        replace q0 := btr q0 hq
        clear hq HT
        have hsz4 := cell_lt p0
        have hsA4 := cell_lt a0
        have hR : RdOk s n0 d0 ↔ s = ⟨(ratTxt n0 d0).toArray⟩ := ⟨fun h => h.2, fun h => hG n0 d0 hu h⟩
        generalize (⟨(ratTxt n0 d0).toArray⟩ : ByteArray) = X at hR ⊢
        by_cases hk : s = X
        · have hk5 : (X.toList == s.toList) = true := by rw [strs_eq]; simp [hk]
          obtain ⟨t0_, t1_⟩ := set2 p0 p1 (.int .i64 n0) (.int .i64 d0)
          go_wp2
          refine bodyPost_ret (v := .tuple #[.agg #[.int .i64 n0, .int .i64 d0], .bool true]) (by simp [results, Tryd.results11, go_sem, t0_, t1_]) rfl ?_
          refine ⟨.inl ⟨_, _, hR.2 hk, rfl⟩, ?_⟩
          exact bst (bst q0 (Nat.le_refl _) _) (Nat.le_refl _) _
        · have hk5 : (X.toList == s.toList) = false := by rw [strs_eq]; simp; exact fun h => hk h.symm
          obtain ⟨t0_, t1_⟩ := set2 p0 p1 (.int .i64 0) (.int .i64 0)
          go_wp2
          refine bodyPost_ret (v := .tuple #[.agg #[.int .i64 0, .int .i64 0], .bool false]) (by simp [results, Tryd.results11, go_sem, t0_, t1_]) rfl ?_
          refine ⟨.inr ⟨fun n d h => ?_, rfl⟩, ?_⟩
          · obtain ⟨e1, e2⟩ := hF n d h
            rw [hu] at e1; rw [hl] at e2
            injection e1 with e1; injection e2 with e2
            subst e1; subst e2
            exact hk (hR.1 h)
          exact bst (bst q0 (Nat.le_refl _) _) (Nat.le_refl _) _
      · go_wp2_with fail
        refine (atoi_no (s := ⟨low.toArray⟩) zl (fun v h => hl ⟨v, h⟩) _ (hE1.out _ q0) (hE2.out _ q0)).mono ?_
        rintro e w3 ⟨⟨_, _, _, rfl⟩, hq⟩
        replace r0 := carryf hq r0 (cell_lt p0)
        replace r1 := carryf hq r1 (cell_lt p1)
        replace p0 := carry hq p0
        replace p1 := carry hq p1
        replace q0 := btr q0 hq
        clear hq
        have hsz := cell_lt p0
        obtain ⟨t0_, t1_⟩ := set2 p0 p1 (.int .i64 0) (.int .i64 0)
        go_wp2
        refine bodyPost_ret (v := .tuple #[.agg #[.int .i64 0, .int .i64 0], .bool false]) (by simp [results, Tryd.results11, go_sem, t0_, t1_]) rfl ?_
        refine ⟨.inr ⟨fun n d h => hl ⟨_, (hF n d h).2⟩, rfl⟩, ?_⟩
        exact bst (bst q0 (Nat.le_refl _) _) (Nat.le_refl _) _
    · go_wp2_with fail
      refine (atoi_no (s := ⟨up.toArray⟩) zu (fun v h => hu ⟨v, h⟩) _ (hE1.out _ q0) (hE2.out _ q0)).mono ?_
      rintro e w2 ⟨⟨_, _, _, rfl⟩, hq⟩
      replace r0 := carryf hq r0 (cell_lt p0)
      replace r1 := carryf hq r1 (cell_lt p1)
      replace p0 := carry hq p0
      replace p1 := carry hq p1
      replace q0 := btr q0 hq
      clear hq
      have hsz := cell_lt p0
      by_cases hl : ∃ d, Lib.atoiAll low = .ok d
      · obtain ⟨d0, hl⟩ := hl
        go_wp2_with fail
        refine (atoi_ok (s := ⟨low.toArray⟩) zl hl _).mono ?_
        rintro e w3 ⟨rfl, hq⟩
        replace r0 := carryf hq r0 (cell_lt p0)
        replace r1 := carryf hq r1 (cell_lt p1)
        replace p0 := carry hq p0
        replace p1 := carry hq p1
        replace q0 := btr q0 hq
        clear hq
        have hsz := cell_lt p0
        obtain ⟨t0_, t1_⟩ := set2 p0 p1 (.int .i64 0) (.int .i64 0)
        go_wp2
        refine bodyPost_ret (v := .tuple #[.agg #[.int .i64 0, .int .i64 0], .bool false]) (by simp [results, Tryd.results11, go_sem, t0_, t1_]) rfl ?_
        refine ⟨.inr ⟨fun n d h => hu ⟨_, (hF n d h).1⟩, rfl⟩, ?_⟩
        exact bst (bst q0 (Nat.le_refl _) _) (Nat.le_refl _) _
      · go_wp2_with fail
        refine (atoi_no (s := ⟨low.toArray⟩) zl (fun v h => hl ⟨v, h⟩) _ (hE1.out _ q0) (hE2.out _ q0)).mono ?_
        rintro e w3 ⟨⟨_, _, _, rfl⟩, hq⟩
        replace r0 := carryf hq r0 (cell_lt p0)
        replace r1 := carryf hq r1 (cell_lt p1)
        replace p0 := carry hq p0
        replace p1 := carry hq p1
        replace q0 := btr q0 hq
        clear hq
        have hsz := cell_lt p0
        obtain ⟨t0_, t1_⟩ := set2 p0 p1 (.int .i64 0) (.int .i64 0)
        go_wp2
        refine bodyPost_ret (v := .tuple #[.agg #[.int .i64 0, .int .i64 0], .bool false]) (by simp [results, Tryd.results11, go_sem, t0_, t1_]) rfl ?_
        refine ⟨.inr ⟨fun n d h => hu ⟨_, (hF n d h).1⟩, rfl⟩, ?_⟩
        exact bst (bst q0 (Nat.le_refl _) _) (Nat.le_refl _) _
end Go.Proofs.YthcabejfmoedfaaDoor
