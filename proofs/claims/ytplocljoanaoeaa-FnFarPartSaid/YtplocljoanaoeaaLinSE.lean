/- Contract of the program's LinSum: the combination of two valid constraints. -/
import Derived.Test.YtplocljoanaoeaaLinSD
namespace Go.Proofs.Ytplocljoanaoeaa
set_option linter.unusedVariables false
set_option linter.unusedSimpArgs false
open Go.RowKit
theorem KcL.new12 (w : World) (x0 x1 x2 x3 x4 x5 x6 x7 x8 x9 x10 x11 : Value) (t : TypeId) : KcL [(w.heap.size, 0, x0), (w.heap.size, 1, x1), (w.heap.size, 2, x2), (w.heap.size, 3, x3), (w.heap.size, 4, x4), (w.heap.size, 5, x5), (w.heap.size, 6, x6), (w.heap.size, 7, x7), (w.heap.size, 8, x8), (w.heap.size, 9, x9), (w.heap.size, 10, x10), (w.heap.size, 11, x11)] (w.alloc (.cells #[x0, x1, x2, x3, x4, x5, x6, x7, x8, x9, x10, x11] t)) := by
  refine ⟨?_, ?_, ?_, ?_, ?_, ?_, ?_, ?_, ?_, ?_, ?_, ?_, trivial⟩ <;> simp [go_sem]
/-- narrow of a combination -/
theorem narrow_add (Z : Nat → Int) (b : Int) (s : Bool) (m : Int) (Y : Nat → Int) (d : Int) (u : Bool) (n : Int) (w : World) :
    Calls Try.prog 51 #[.agg #[.int .i64 (Z 0 * m + Y 0 * n), .int .i64 (Z 1 * m + Y 1 * n), .int .i64 (Z 2 * m + Y 2 * n), .int .i64 (Z 3 * m + Y 3 * n), .int .i64 (b * m + d * n), .bool ((s && decide (0 < m)) || (u && decide (0 < n)))]] w (SumP w (addR2 Z b s m Y d u n)) := by
  refine (lnarrow_any _ _ _ _ _ _ w).mono ?_
  rintro e w' ⟨v, rfl, hv, hb⟩
  have hr : rngB (Z 0 * m + Y 0 * n) (Z 1 * m + Y 1 * n) (Z 2 * m + Y 2 * n) (Z 3 * m + Y 3 * n) (b * m + d * n) = okL 4 (addZ Z m Y n) (b * m + d * n) := rng_ok (addZ Z m Y n) _
  unfold narR at hv
  unfold addR2
  rw [hr] at hv ⊢
  cases hk : okL 4 (addZ Z m Y n) (b * m + d * n)
  · rw [hk, if_neg (by simp)] at hv
    rw [if_neg (by simp)]
    exact ⟨v, rfl, hv, hb⟩
  · rw [hk, if_pos rfl] at hv
    rw [if_pos rfl]
    exact ⟨v, rfl, hv.congr (fun k hk => by rcases lt4 hk with rfl | rfl | rfl | rfl <;> rfl), hb⟩
set_option maxRecDepth 100000 in
set_option maxHeartbeats 4000000 in
theorem linsum_y (A : Option Addr) (na c : Nat) (Z : Nat → Int) (b m : Int) (s : Bool) (B : Option Addr) (nb c2 : Nat) (Y : Nat → Int) (d n : Int) (u : Bool) (w : World) (hn : na ≤ 9223372036854775807) (hA : Ints w A na Z) (hn2 : nb ≤ 9223372036854775807) (hB : Ints w B nb Y) (h1 : okL na Z b = true) (h2 : okL nb Y d = true) (hm : 0 ≤ m ∧ m ≤ 1000000) (hk : 0 ≤ n ∧ n ≤ 1000000) :
    Calls Try.prog 42 #[.agg #[.slice A na c, .int .i64 b, .bool s], .int .i64 m, .agg #[.slice B nb c2, .int .i64 d, .bool u], .int .i64 n] w (SumP w (addR2 Z b s m Y d u n)) := by
  have hW := wide_far (c := c) hn hA h1 (wide_v4 (s := s) h1)
  have hV := wide_far (c := c2) hn2 hB h2 (wide_v4 (s := u) h2)
  have hM := fun W => mult_at m W (v := true) (by simpa using hm)
  have hM2 := fun W => mult_at n W (v := true) (by simpa using hk)
  obtain ⟨a0, a1, a2, a3, a4⟩ := okL_bd4 h1
  obtain ⟨b0, b1, b2, b3, b4⟩ := okL_bd4 h2
  have hX := fun W => wtimes_any (Z 0) (Z 1) (Z 2) (Z 3) b m s W a0 a1 a2 a3 a4 hm
  have hY := fun W => wtimes_any (Y 0) (Y 1) (Y 2) (Y 3) d n u W b0 b1 b2 b3 b4 hk
  have hF := fun (g : Nat) W => fold_any g (Z 0 * m) (Z 1 * m) (Z 2 * m) (Z 3 * m) (b * m) (Y 0 * n) (Y 1 * n) (Y 2 * n) (Y 3 * n) (d * n) (s && decide (0 < m)) (u && decide (0 < n)) W
  have hF2 := fun (g : Nat) W hg c0 c1 c2 c3 c4 c5 c6 c7 c8 c9 c10 c11 => hF g W hg c0 c1 c2 c3 c4 c5 c6 c7 c8 c9 c10 c11 (mul_bd6 a0 (by omega)) (mul_bd6 a1 (by omega)) (mul_bd6 a2 (by omega)) (mul_bd6 a3 (by omega)) (mul_bd6 a4 (by omega)) (mul_bd6 b0 (by omega)) (mul_bd6 b1 (by omega)) (mul_bd6 b2 (by omega)) (mul_bd6 b3 (by omega)) (mul_bd6 b4 (by omega))
  have hN := fun W => narrow_add Z b s m Y d u n W
  clear hF hA hB hn hn2 h1 h2 hm hk a0 a1 a2 a3 a4 b0 b1 b2 b3 b4
  generalize addR2 Z b s m Y d u n = R at hN ⊢
  go_enter Try.func42, Try.ntmps42
  go_wp2_with fail
  refine (hW _ (bal (bal (bal (Below.refl _ _) _) _) _)).mono ?_
  rintro e w1 ⟨rfl, hq⟩
  obtain ⟨hc, hf⟩ := bcell hq
  have y0 : w1.cell? ⟨w.heap.size + 1, 0, none⟩ = some (.slice B nb c2) := by rw [hc _ _ (by simp <;> omega)]; simp [go_sem]
  have y1 : w1.cell? ⟨w.heap.size + 1, 1, none⟩ = some (.int .i64 d) := by rw [hc _ _ (by simp <;> omega)]; simp [go_sem]
  have y2 : w1.cell? ⟨w.heap.size + 1, 2, none⟩ = some (.bool u) := by rw [hc _ _ (by simp <;> omega)]; simp [go_sem]
  have r0 : w1.cell? ⟨w.heap.size + 1 + 1, 0, none⟩ = some (.slice none 0 0) := by rw [hc _ _ (by simp <;> omega)]; simp [go_sem]
  have r1 : w1.cell? ⟨w.heap.size + 1 + 1, 1, none⟩ = some (.int .i64 0) := by rw [hc _ _ (by simp <;> omega)]; simp [go_sem]
  have r2 : w1.cell? ⟨w.heap.size + 1 + 1, 2, none⟩ = some (.bool false) := by rw [hc _ _ (by simp <;> omega)]; simp [go_sem]
  have fr : ∀ o, w1.frozen? ⟨w.heap.size + 1 + 1, o, none⟩ = false := fun o => by rw [hf _ _ (by simp <;> omega)]; simp [go_sem]
  have q0 := btr (bal (bal (bal (Below.refl w.heap.size w) _) _) _) hq
  have R3 : KcL [(w.heap.size + 1 + 1, 0, .slice none 0 0), (w.heap.size + 1 + 1, 1, .int .i64 0), (w.heap.size + 1 + 1, 2, .bool false)] w1 := ⟨r0, r1, r2, trivial⟩
  have K := (KcL.new6 w1 (.int .i64 (Z 0)) (.int .i64 (Z 1)) (.int .i64 (Z 2)) (.int .i64 (Z 3)) (.int .i64 b) (.bool s) 74).app (R3.alloc _)
  have hl := cell_lt r0
  have hly := cell_lt y0
  have ca := fun (x : Obj) (b o : Nat) (h : b < w1.heap.size) => World.cell?_alloc_lt w1 x ⟨b, o, none⟩ h
  clear hc hf hq r0 r1 r2 R3
  go_wp2_with fail
  refine (hV _ (btr q0 (bal (Below.refl w1.heap.size w1) _))).mono ?_
  rintro e w2 ⟨rfl, hq⟩
  clear hW hV ca y0 y1 y2
  replace q0 := btr (btr q0 (bal (Below.refl w1.heap.size w1) _)) hq
  have q2 := btr (bal (Below.refl w1.heap.size w1) _) hq
  replace fr := fun o => carryf q2 (fr o) hl
  have fr2 := fun o => carryAf (.cells #[.int .i64 (Y 0), .int .i64 (Y 1), .int .i64 (Y 2), .int .i64 (Y 3), .int .i64 d, .bool u] 74) (fr o) (Nat.lt_of_lt_of_le hl q2.size)
  have K2 := ((K.below hq).alloc (.cells #[.int .i64 (Y 0), .int .i64 (Y 1), .int .i64 (Y 2), .int .i64 (Y 3), .int .i64 d, .bool u] 74)).app (KcL.new6 w2 (.int .i64 (Y 0)) (.int .i64 (Y 1)) (.int .i64 (Y 2)) (.int .i64 (Y 3)) (.int .i64 d) (.bool u) 74)
  have q3 := btr q0 (bal (Below.refl w2.heap.size w2) (.cells #[.int .i64 (Y 0), .int .i64 (Y 1), .int .i64 (Y 2), .int .i64 (Y 3), .int .i64 d, .bool u] 74))
  clear K fr q0 hq q2 hl hly
  go_upto_region 3 with fail
  generalize w2.alloc (.cells #[.int .i64 (Y 0), .int .i64 (Y 1), .int .i64 (Y 2), .int .i64 (Y 3), .int .i64 d, .bool u] 74) = w3 at *
  have HH_ := K2; obtain ⟨k0, k1, k2, k3, k4, k5, k6, k7, k8, k9, k10, k11, k12, k13, k14, _⟩ := HH_
  have l1 := cell_lt k0
  have l2 := cell_lt k9
  have lr := cell_lt k6
  have gc := @gro_cell w3
  go_wp2_with (go_at_call 72; first | ((with_reducible refine (hM _).mono ?_); rintro e w9 ⟨rfl, rfl⟩) | ((with_reducible refine (hM2 _).mono ?_); rintro e w9 ⟨rfl, rfl⟩))
  refine region_grow_maker 6 rfl (by kernel_rfl) (by kernel_rfl) rfl ?_; simp only [List.take_succ_cons, List.take_zero]; (repeat (go_big_quiet_step ((first | (go_at_call 73; first | with_reducible exact grow_call _ (hX _) | with_reducible exact grow_call _ (hY _)))))); refine wpQuiet_nil ?_
  intro w4 hq
  clear gc l1 l2 hX hY hM hM2
  clear k0 k1 k2 k3 k4 k5 k6 k7 k8 k9 k10 k11 k12 k13 k14
  refine ⟨.slice (some ⟨w4.heap.size, 0, none⟩) 2 2, w4.alloc (.cells #[.int .i64 (Z 0 * m), .int .i64 (Z 1 * m), .int .i64 (Z 2 * m), .int .i64 (Z 3 * m), .int .i64 (b * m), .bool (s && decide (0 < m)), .int .i64 (Y 0 * n), .int .i64 (Y 1 * n), .int .i64 (Y 2 * n), .int .i64 (Y 3 * n), .int .i64 (d * n), .bool (u && decide (0 < n))] 74), by kernel_rfl, hq.alloc hq.size _, ?_⟩
  have al := bal (Below.refl w4.heap.size w4) (.cells #[.int .i64 (Z 0 * m), .int .i64 (Z 1 * m), .int .i64 (Z 2 * m), .int .i64 (Z 3 * m), .int .i64 (b * m), .bool (s && decide (0 < m)), .int .i64 (Y 0 * n), .int .i64 (Y 1 * n), .int .i64 (Y 2 * n), .int .i64 (Y 3 * n), .int .i64 (d * n), .bool (u && decide (0 < n))] 74)
  have N := KcL.new12 w4 (.int .i64 (Z 0 * m)) (.int .i64 (Z 1 * m)) (.int .i64 (Z 2 * m)) (.int .i64 (Z 3 * m)) (.int .i64 (b * m)) (.bool (s && decide (0 < m))) (.int .i64 (Y 0 * n)) (.int .i64 (Y 1 * n)) (.int .i64 (Y 2 * n)) (.int .i64 (Y 3 * n)) (.int .i64 (d * n)) (.bool (u && decide (0 < n))) 74
  have HH_ := N; obtain ⟨n0, n1, n2, n3, n4, n5, n6, n7, n8, n9, n10, n11, _⟩ := HH_
  have hl4 : w4.heap.size < (w4.alloc (.cells #[.int .i64 (Z 0 * m), .int .i64 (Z 1 * m), .int .i64 (Z 2 * m), .int .i64 (Z 3 * m), .int .i64 (b * m), .bool (s && decide (0 < m)), .int .i64 (Y 0 * n), .int .i64 (Y 1 * n), .int .i64 (Y 2 * n), .int .i64 (Y 3 * n), .int .i64 (d * n), .bool (u && decide (0 < n))] 74)).heap.size := by simp
  have hF3 := hF2 w4.heap.size _ hl4 n0 n1 n2 n3 n4 n5 n6 n7 n8 n9 n10 n11
  clear hF2 N n0 n1 n2 n3 n4 n5 n6 n7 n8 n9 n10 n11
  replace q3 := btr (btr q3 hq) al
  replace K2 := K2.below (btr hq al)
  have HH_ := K2; obtain ⟨k0, k1, k2, k3, k4, k5, k6, k7, k8, k9, k10, k11, k12, k13, k14, _⟩ := HH_
  have lr4 := cell_lt k6
  clear k0 k1 k2 k3 k4 k5 k6 k7 k8 k9 k10 k11 k12 k13 k14
  replace fr2 := fun o => carryf (btr hq al) (fr2 o) lr
  clear hq al
  go_wp2_with fail
  refine hF3.mono ?_
  rintro e w5 ⟨rfl, hq⟩
  clear hF3
  replace q3 := btr q3 hq
  replace K2 := K2.below hq
  have HH_ := K2; obtain ⟨k0, k1, k2, k3, k4, k5, k6, k7, k8, k9, k10, k11, k12, k13, k14, _⟩ := HH_
  replace fr2 := fun o => carryf hq (fr2 o) lr4
  have lr5 := cell_lt k6
  clear k0 k1 k2 k3 k4 k5 k6 k7 k8 k9 k10 k11 k12 k13 k14
  clear hq lr4 hl4
  go_wp2_with fail
  refine (hN _).mono ?_
  rintro e w6 ⟨v, rfl, ⟨A', c', rfl, hc1, hc2, hO⟩, hq⟩
  clear hN
  have q5 := q3
  replace q3 := btr q3 hq
  replace K2 := K2.below hq
  replace fr2 := fun o => carryf hq (fr2 o) lr5
  have HH_ := K2; obtain ⟨k0, k1, k2, k3, k4, k5, k6, k7, k8, k9, k10, k11, k12, k13, k14, _⟩ := HH_
  go_wp2_with fail
  obtain ⟨t0, t1, t2⟩ := set3 k6 k7 k8 (.slice A' R.1.1 c') (.int .i64 R.1.2.2.1) (.bool R.1.2.2.2)
  have hO4 := (((hO.set (o := 0) (.slice A' R.1.1 c') lr5).set (o := 1) (.int .i64 R.1.2.2.1) lr5).set (o := 2) (.bool R.1.2.2.2) lr5).old (W := w) q5.size
  refine bodyPost_ret (v := .tuple #[.agg #[.slice A' R.1.1 c', .int .i64 R.1.2.2.1, .bool R.1.2.2.2], .bool R.2]) (by simp [results, Try.results42, go_sem, t0, t1, t2]) rfl (sum_p (r := R) ⟨A', c', rfl, hc1, hc2, hO4⟩ ?_)
  clear t0 t1 t2 fr2 K2 hO hO4 hq q5
  clear k0 k1 k2 k3 k4 k5 k6 k7 k8 k9 k10 k11 k12 k13 k14
  (repeat first | with_reducible exact Below.refl _ _ | with_reducible assumption | with_reducible refine Below.drew ?_ | with_reducible refine bdn ?_ _ | with_reducible refine bal ?_ _ | (with_reducible refine bst ?_ ?_ _; rotate_left; (simp <;> omega)) | (with_reducible refine btr ?_ (by with_reducible assumption)))
theorem linsum_any (A : Option Addr) (na c : Nat) (Z : Nat → Int) (b m : Int) (s : Bool) (B : Option Addr) (nb c2 : Nat) (Y : Nat → Int) (d n : Int) (u : Bool) (w : World) (hn : na ≤ 9223372036854775807) (hA : Ints w A na Z) (hn2 : nb ≤ 9223372036854775807) (hB : Ints w B nb Y) :
    Calls Try.prog 42 #[.agg #[.slice A na c, .int .i64 b, .bool s], .int .i64 m, .agg #[.slice B nb c2, .int .i64 d, .bool u], .int .i64 n] w (SumP w (sumR na Z b s m nb Y d u n)) := by
  unfold sumR
  cases h1 : okL na Z b
  · rw [if_neg (by simp)]; exact linsum_a A na c Z b m s B nb c2 Y d n u w hn hA hn2 hB h1 rfl
  cases h2 : okL nb Y d
  · rw [if_neg (by simp)]; exact linsum_b A na c Z b m s B nb c2 Y d n u w hn hA hn2 hB h1 h2
  by_cases h3 : 0 ≤ m ∧ m ≤ 1000000
  · by_cases h4 : 0 ≤ n ∧ n ≤ 1000000
    · rw [if_pos ⟨rfl, rfl, h3, h4⟩]; exact linsum_y A na c Z b m s B nb c2 Y d n u w hn hA hn2 hB h1 h2 h3 h4
    · rw [if_neg (fun h => h4 h.2.2.2)]; exact linsum_d A na c Z b m s B nb c2 Y d n u w hn hA hn2 hB h1 h2 h3 h4
  · rw [if_neg (fun h => h3 h.2.2.1)]; exact linsum_c A na c Z b m s B nb c2 Y d n u w hn hA hn2 hB h1 h2 h3
end Go.Proofs.Ytplocljoanaoeaa
