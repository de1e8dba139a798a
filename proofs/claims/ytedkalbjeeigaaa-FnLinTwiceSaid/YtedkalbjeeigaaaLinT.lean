/- The law FnLinTwice: the walk. -/
import Derived.Test.YtedkalbjeeigaaaLinDD
import Derived.Test.YtedkalbjeeigaaaLinSE
import Derived.Test.YtedkalbjeeigaaaByt
namespace Go.Proofs.Ytedkalbjeeigaaa
set_option linter.unusedVariables false
set_option linter.unusedSimpArgs false
open Go.RowKit
theorem sum_twice (na : Nat) (Z : Nat → Int) (b : Int) (s : Bool) (m k : Int) (hm : 0 ≤ m ∧ m ≤ 500000) (hk : 0 ≤ k ∧ k ≤ 500000) : sumR na Z b s (m + k) 4 (fun _ => 0) 0 false 0 = sumR na Z b s m na Z b s k := by
  have e1 : addZ Z (m + k) (fun _ => 0) 0 = addZ Z m Z k := by funext j; simp [addZ, Int.mul_add]
  have e2 : b * (m + k) + 0 * 0 = b * m + b * k := by simp [Int.mul_add]
  have e3 : strB s (m + k) false 0 = strB s m s k := by
    unfold strB
    cases s
    · simp
    · by_cases h1 : 0 < m
      · have h3 : 0 < m + k := by omega
        simp [h1, h3]
      · by_cases h2 : 0 < k
        · have h3 : 0 < m + k := by omega
          simp [h2, h3]
        · have h3 : ¬ 0 < m + k := by omega
          simp [h1, h2, h3]
  have e4 : okL 4 (fun _ => (0 : Int)) 0 = true := by decide
  unfold sumR
  by_cases h : okL na Z b = true
  · rw [if_pos (show okL na Z b = true ∧ okL 4 (fun _ => (0 : Int)) 0 = true ∧ (0 ≤ m + k ∧ m + k ≤ 1000000) ∧ ((0 : Int) ≤ 0 ∧ (0 : Int) ≤ 1000000) from ⟨h, e4, by omega, by omega⟩),
      if_pos (show okL na Z b = true ∧ okL na Z b = true ∧ (0 ≤ m ∧ m ≤ 1000000) ∧ (0 ≤ k ∧ k ≤ 1000000) from ⟨h, h, by omega, by omega⟩)]
    unfold addR2
    rw [e1, e2, e3]
  · rw [if_neg (fun x => h x.1), if_neg (fun x => h x.1)]
theorem ints0 (w : World) (t : TypeId) : Ints (w.alloc (.cells #[.int .i64 0, .int .i64 0, .int .i64 0, .int .i64 0] t)) (some ⟨w.heap.size, 0, none⟩) 4 (fun _ => 0) :=
  .inr ⟨w.heap.size, 0, rfl, by simp, fun k hk => by rcases lt4 hk with rfl | rfl | rfl | rfl <;> simp [go_sem]⟩
theorem sumR_len2 (na : Nat) (Z : Nat → Int) (b : Int) (s : Bool) (m : Int) (nb : Nat) (Y : Nat → Int) (d : Int) (u : Bool) (n : Int) : (sumR na Z b s m nb Y d u n).1.1 ≤ 4 := by
  unfold sumR addR2
  split
  · split <;> simp [zeroL]
  · simp [zeroL]
theorem KcL.two3 (w : World) (x0 x1 x2 y0 y1 y2 : Value) (t : TypeId) : KcL [(w.heap.size, 0, x0), (w.heap.size, 1, x1), (w.heap.size, 2, x2), (w.heap.size + 1, 0, y0), (w.heap.size + 1, 1, y1), (w.heap.size + 1, 2, y2)] ((w.alloc (.cells #[x0, x1, x2] t)).alloc (.cells #[y0, y1, y2] t)) :=
  (KcL.alloc (KcL.new3 w x0 x1 x2 t rfl) _).app (KcL.new3 (w.alloc (.cells #[x0, x1, x2] t)) y0 y1 y2 t (by simp))
set_option maxRecDepth 100000 in
set_option maxHeartbeats 8000000 in
theorem walk_LinTwice (a0 : Option Addr) (len0 cap0 : Nat) (w : World) (hby : Bytes w.heap.size w a0 len0) (hlc : len0 ≤ cap0) (hc : cap0 ≤ 9223372036854775807) :
    Calls Try.prog 9 #[.slice a0 len0 cap0] w fun e w' => e = .returned (.bool true) ∧ Below w.heap.size w w' := by
  by_cases hbig : 1048576 < len0
  · go_enter Try.func9, Try.ntmps9
    go_wp2
    go_ret
    exact ⟨rfl, Below.refl _ _⟩
  go_enter Try.func9, Try.ntmps9
  go_wp2_with fail
  refine (drawlinsum_any w.heap.size w a0 len0 cap0 (Nat.le_refl _) hby hlc hc).mono ?_
  rintro e w1 ⟨A, n, c, Z, b, s, m, A2, n2, cB, Z2, b2, s2, k, rfl, hn, hn2, hA, hA2, hm, hk, hq⟩
  clear hby hlc hc hbig
  go_upto_region 4 with fail
  have H := KcL.two3 w1 (.slice A n c) (.int .i64 b) (.bool s) (.slice A2 n2 cB) (.int .i64 b2) (.bool s2) 25
  have q0 := bal (bal hq (.cells #[.slice A n c, .int .i64 b, .bool s] 25)) (.cells #[.slice A2 n2 cB, .int .i64 b2, .bool s2] 25)
  have I1 := (hA.below (bal (Below.refl w1.heap.size w1) (.cells #[.slice A n c, .int .i64 b, .bool s] 25))).below (bal (Below.refl _ (w1.alloc (.cells #[.slice A n c, .int .i64 b, .bool s] 25))) (.cells #[.slice A2 n2 cB, .int .i64 b2, .bool s2] 25))
  have I2 := (hA2.below (bal (Below.refl w1.heap.size w1) (.cells #[.slice A n c, .int .i64 b, .bool s] 25))).below (bal (Below.refl _ (w1.alloc (.cells #[.slice A n c, .int .i64 b, .bool s] 25))) (.cells #[.slice A2 n2 cB, .int .i64 b2, .bool s2] 25))
  clear hq hA hA2
  generalize (w1.alloc (.cells #[.slice A n c, .int .i64 b, .bool s] 25)).alloc (.cells #[.slice A2 n2 cB, .int .i64 b2, .bool s2] 25) = w2 at *
  have hI := fun W (h1 : Ints W A n Z) => linsum_any A n c Z b m s A n c Z b k s W (by omega) h1 (by omega) h1
  have hP := fun W (h1 : Ints W A n Z) => slinsum_any A n c Z b m s A n c Z b k s W (by omega) h1 (by omega) h1
  have h5 := fun (A9 : Option Addr) (c9 : Nat) W (h1 : Ints W A n Z) (h2 : Ints W A9 4 (fun _ => 0)) (x : (0 ≤ m ∧ m ≤ 500000) ∧ 0 ≤ k ∧ k ≤ 500000) => by
    have := linsum_any A n c Z b (m + k) s A9 4 c9 (fun _ => 0) 0 0 false W (by omega) h1 (by omega) h2
    rwa [sum_twice n Z b s m k x.1 x.2] at this
  have hR4 := sumR_len2 n Z b s m n Z b s k
  generalize sumR n Z b s m n Z b s k = R at hI hP h5 hR4
  have dR : (R.2 != R.2) = false := by simp
  have eR : (R.2 == R.2) = true := by simp
  clear hm hk
  have hS := fun (A5 : Option Addr) (k5 : Nat) (A6 : Option Addr) (k6 : Nat) W (h1 : Ints W A5 R.1.1 R.1.2.1) (h2 : Ints W A6 R.1.1 R.1.2.1) => linsame_any A5 A6 R.1.1 R.1.1 k5 k6 R.1.2.1 R.1.2.1 R.1.2.2.1 R.1.2.2.1 R.1.2.2.2 R.1.2.2.2 W (by omega) (by omega) h1 h2
  simp only [eqL_self] at hS
  by_cases e : (m < 0 : Prop)
  · have d1 : decide (m < 0) = true := by simpa using e
    clear e h5
    have HH_ := H; obtain ⟨c0, c1, c2, c3, c4, c5, _⟩ := HH_
    go_wp2_with fail
    refine (hI _ I1).mono ?_
    rintro e w3 ⟨v, rfl, ⟨A5, k5, rfl, _, _, hO⟩, hq⟩
    clear c0 c1 c2 c3 c4 c5
    replace H := H.below hq
    replace q0 := btr q0 hq
    replace I1 := I1.below hq
    have I5 := hO.ints
    clear hq hO hI
    have N := KcL.new3 w3 (.slice A5 R.1.1 k5) (.int .i64 R.1.2.2.1) (.bool R.1.2.2.2) 25 rfl
    have al := bal (Below.refl w3.heap.size w3) (.cells #[.slice A5 R.1.1 k5, .int .i64 R.1.2.2.1, .bool R.1.2.2.2] 25)
    replace H := (H.below al).app N
    replace q0 := btr q0 al
    replace I1 := I1.below al
    replace I5 := I5.below al
    clear N al
    have HH_ := H; obtain ⟨c0, c1, c2, c3, c4, c5, c6, c7, c8, _⟩ := HH_
    go_wp2_with fail
    refine (hP _ I1).mono ?_
    rintro e w4 ⟨v, rfl, ⟨A6, k6, rfl, _, _, hO⟩, hq⟩
    clear c0 c1 c2 c3 c4 c5 c6 c7 c8
    replace H := H.below hq
    replace q0 := btr q0 hq
    replace I1 := I1.below hq
    replace I5 := I5.below hq
    have I6 := hO.ints
    clear hq hO hP
    have N := KcL.new3 w4 (.slice A6 R.1.1 k6) (.int .i64 R.1.2.2.1) (.bool R.1.2.2.2) 25 rfl
    have al := bal (Below.refl w4.heap.size w4) (.cells #[.slice A6 R.1.1 k6, .int .i64 R.1.2.2.1, .bool R.1.2.2.2] 25)
    replace H := (H.below al).app N
    replace q0 := btr q0 al
    replace I1 := I1.below al
    replace I5 := I5.below al
    replace I6 := I6.below al
    clear N al
    have HH_ := H; obtain ⟨c0, c1, c2, c3, c4, c5, c6, c7, c8, c9, c10, c11, _⟩ := HH_
    go_wp2_with fail
    refine (hS A5 k5 A6 k6 _ I5 I6).mono ?_
    rintro e w5 ⟨rfl, hq⟩
    clear c0 c1 c2 c3 c4 c5 c6 c7 c8 c9 c10 c11
    replace H := H.below hq
    replace q0 := btr q0 hq
    replace I1 := I1.below hq
    replace I5 := I5.below hq
    replace I6 := I6.below hq
    clear hq
    have HH_ := H; obtain ⟨c0, c1, c2, c3, c4, c5, c6, c7, c8, c9, c10, c11, _⟩ := HH_
    go_wp2_with fail
    refine (hS A5 k5 A6 k6 _ I5 I6).mono ?_
    rintro e w6 ⟨rfl, hq⟩
    clear c0 c1 c2 c3 c4 c5 c6 c7 c8 c9 c10 c11
    replace H := H.below hq
    replace q0 := btr q0 hq
    replace I1 := I1.below hq
    replace I5 := I5.below hq
    replace I6 := I6.below hq
    clear hq
    go_wp2_with fail
    go_ret
    exact ⟨rfl, q0⟩
  have d1 : decide (m < 0) = false := by simpa using e
  have fd1 := e
  clear e
  by_cases e : (k < 0 : Prop)
  · have d2 : decide (k < 0) = true := by simpa using e
    clear e h5
    have HH_ := H; obtain ⟨c0, c1, c2, c3, c4, c5, _⟩ := HH_
    go_wp2_with fail
    refine (hI _ I1).mono ?_
    rintro e w3 ⟨v, rfl, ⟨A5, k5, rfl, _, _, hO⟩, hq⟩
    clear c0 c1 c2 c3 c4 c5
    replace H := H.below hq
    replace q0 := btr q0 hq
    replace I1 := I1.below hq
    have I5 := hO.ints
    clear hq hO hI
    have N := KcL.new3 w3 (.slice A5 R.1.1 k5) (.int .i64 R.1.2.2.1) (.bool R.1.2.2.2) 25 rfl
    have al := bal (Below.refl w3.heap.size w3) (.cells #[.slice A5 R.1.1 k5, .int .i64 R.1.2.2.1, .bool R.1.2.2.2] 25)
    replace H := (H.below al).app N
    replace q0 := btr q0 al
    replace I1 := I1.below al
    replace I5 := I5.below al
    clear N al
    have HH_ := H; obtain ⟨c0, c1, c2, c3, c4, c5, c6, c7, c8, _⟩ := HH_
    go_wp2_with fail
    refine (hP _ I1).mono ?_
    rintro e w4 ⟨v, rfl, ⟨A6, k6, rfl, _, _, hO⟩, hq⟩
    clear c0 c1 c2 c3 c4 c5 c6 c7 c8
    replace H := H.below hq
    replace q0 := btr q0 hq
    replace I1 := I1.below hq
    replace I5 := I5.below hq
    have I6 := hO.ints
    clear hq hO hP
    have N := KcL.new3 w4 (.slice A6 R.1.1 k6) (.int .i64 R.1.2.2.1) (.bool R.1.2.2.2) 25 rfl
    have al := bal (Below.refl w4.heap.size w4) (.cells #[.slice A6 R.1.1 k6, .int .i64 R.1.2.2.1, .bool R.1.2.2.2] 25)
    replace H := (H.below al).app N
    replace q0 := btr q0 al
    replace I1 := I1.below al
    replace I5 := I5.below al
    replace I6 := I6.below al
    clear N al
    have HH_ := H; obtain ⟨c0, c1, c2, c3, c4, c5, c6, c7, c8, c9, c10, c11, _⟩ := HH_
    go_wp2_with fail
    refine (hS A5 k5 A6 k6 _ I5 I6).mono ?_
    rintro e w5 ⟨rfl, hq⟩
    clear c0 c1 c2 c3 c4 c5 c6 c7 c8 c9 c10 c11
    replace H := H.below hq
    replace q0 := btr q0 hq
    replace I1 := I1.below hq
    replace I5 := I5.below hq
    replace I6 := I6.below hq
    clear hq
    have HH_ := H; obtain ⟨c0, c1, c2, c3, c4, c5, c6, c7, c8, c9, c10, c11, _⟩ := HH_
    go_wp2_with fail
    refine (hS A5 k5 A6 k6 _ I5 I6).mono ?_
    rintro e w6 ⟨rfl, hq⟩
    clear c0 c1 c2 c3 c4 c5 c6 c7 c8 c9 c10 c11
    replace H := H.below hq
    replace q0 := btr q0 hq
    replace I1 := I1.below hq
    replace I5 := I5.below hq
    replace I6 := I6.below hq
    clear hq
    go_wp2_with fail
    go_ret
    exact ⟨rfl, q0⟩
  have d2 : decide (k < 0) = false := by simpa using e
  have fd2 := e
  clear e
  by_cases e : (500000 < m : Prop)
  · have d3 : decide (500000 < m) = true := by simpa using e
    clear e h5
    have HH_ := H; obtain ⟨c0, c1, c2, c3, c4, c5, _⟩ := HH_
    go_wp2_with fail
    refine (hI _ I1).mono ?_
    rintro e w3 ⟨v, rfl, ⟨A5, k5, rfl, _, _, hO⟩, hq⟩
    clear c0 c1 c2 c3 c4 c5
    replace H := H.below hq
    replace q0 := btr q0 hq
    replace I1 := I1.below hq
    have I5 := hO.ints
    clear hq hO hI
    have N := KcL.new3 w3 (.slice A5 R.1.1 k5) (.int .i64 R.1.2.2.1) (.bool R.1.2.2.2) 25 rfl
    have al := bal (Below.refl w3.heap.size w3) (.cells #[.slice A5 R.1.1 k5, .int .i64 R.1.2.2.1, .bool R.1.2.2.2] 25)
    replace H := (H.below al).app N
    replace q0 := btr q0 al
    replace I1 := I1.below al
    replace I5 := I5.below al
    clear N al
    have HH_ := H; obtain ⟨c0, c1, c2, c3, c4, c5, c6, c7, c8, _⟩ := HH_
    go_wp2_with fail
    refine (hP _ I1).mono ?_
    rintro e w4 ⟨v, rfl, ⟨A6, k6, rfl, _, _, hO⟩, hq⟩
    clear c0 c1 c2 c3 c4 c5 c6 c7 c8
    replace H := H.below hq
    replace q0 := btr q0 hq
    replace I1 := I1.below hq
    replace I5 := I5.below hq
    have I6 := hO.ints
    clear hq hO hP
    have N := KcL.new3 w4 (.slice A6 R.1.1 k6) (.int .i64 R.1.2.2.1) (.bool R.1.2.2.2) 25 rfl
    have al := bal (Below.refl w4.heap.size w4) (.cells #[.slice A6 R.1.1 k6, .int .i64 R.1.2.2.1, .bool R.1.2.2.2] 25)
    replace H := (H.below al).app N
    replace q0 := btr q0 al
    replace I1 := I1.below al
    replace I5 := I5.below al
    replace I6 := I6.below al
    clear N al
    have HH_ := H; obtain ⟨c0, c1, c2, c3, c4, c5, c6, c7, c8, c9, c10, c11, _⟩ := HH_
    go_wp2_with fail
    refine (hS A5 k5 A6 k6 _ I5 I6).mono ?_
    rintro e w5 ⟨rfl, hq⟩
    clear c0 c1 c2 c3 c4 c5 c6 c7 c8 c9 c10 c11
    replace H := H.below hq
    replace q0 := btr q0 hq
    replace I1 := I1.below hq
    replace I5 := I5.below hq
    replace I6 := I6.below hq
    clear hq
    have HH_ := H; obtain ⟨c0, c1, c2, c3, c4, c5, c6, c7, c8, c9, c10, c11, _⟩ := HH_
    go_wp2_with fail
    refine (hS A5 k5 A6 k6 _ I5 I6).mono ?_
    rintro e w6 ⟨rfl, hq⟩
    clear c0 c1 c2 c3 c4 c5 c6 c7 c8 c9 c10 c11
    replace H := H.below hq
    replace q0 := btr q0 hq
    replace I1 := I1.below hq
    replace I5 := I5.below hq
    replace I6 := I6.below hq
    clear hq
    go_wp2_with fail
    go_ret
    exact ⟨rfl, q0⟩
  have d3 : decide (500000 < m) = false := by simpa using e
  have fd3 := e
  clear e
  by_cases e : (500000 < k : Prop)
  · have d4 : decide (500000 < k) = true := by simpa using e
    clear e h5
    have HH_ := H; obtain ⟨c0, c1, c2, c3, c4, c5, _⟩ := HH_
    go_wp2_with fail
    refine (hI _ I1).mono ?_
    rintro e w3 ⟨v, rfl, ⟨A5, k5, rfl, _, _, hO⟩, hq⟩
    clear c0 c1 c2 c3 c4 c5
    replace H := H.below hq
    replace q0 := btr q0 hq
    replace I1 := I1.below hq
    have I5 := hO.ints
    clear hq hO hI
    have N := KcL.new3 w3 (.slice A5 R.1.1 k5) (.int .i64 R.1.2.2.1) (.bool R.1.2.2.2) 25 rfl
    have al := bal (Below.refl w3.heap.size w3) (.cells #[.slice A5 R.1.1 k5, .int .i64 R.1.2.2.1, .bool R.1.2.2.2] 25)
    replace H := (H.below al).app N
    replace q0 := btr q0 al
    replace I1 := I1.below al
    replace I5 := I5.below al
    clear N al
    have HH_ := H; obtain ⟨c0, c1, c2, c3, c4, c5, c6, c7, c8, _⟩ := HH_
    go_wp2_with fail
    refine (hP _ I1).mono ?_
    rintro e w4 ⟨v, rfl, ⟨A6, k6, rfl, _, _, hO⟩, hq⟩
    clear c0 c1 c2 c3 c4 c5 c6 c7 c8
    replace H := H.below hq
    replace q0 := btr q0 hq
    replace I1 := I1.below hq
    replace I5 := I5.below hq
    have I6 := hO.ints
    clear hq hO hP
    have N := KcL.new3 w4 (.slice A6 R.1.1 k6) (.int .i64 R.1.2.2.1) (.bool R.1.2.2.2) 25 rfl
    have al := bal (Below.refl w4.heap.size w4) (.cells #[.slice A6 R.1.1 k6, .int .i64 R.1.2.2.1, .bool R.1.2.2.2] 25)
    replace H := (H.below al).app N
    replace q0 := btr q0 al
    replace I1 := I1.below al
    replace I5 := I5.below al
    replace I6 := I6.below al
    clear N al
    have HH_ := H; obtain ⟨c0, c1, c2, c3, c4, c5, c6, c7, c8, c9, c10, c11, _⟩ := HH_
    go_wp2_with fail
    refine (hS A5 k5 A6 k6 _ I5 I6).mono ?_
    rintro e w5 ⟨rfl, hq⟩
    clear c0 c1 c2 c3 c4 c5 c6 c7 c8 c9 c10 c11
    replace H := H.below hq
    replace q0 := btr q0 hq
    replace I1 := I1.below hq
    replace I5 := I5.below hq
    replace I6 := I6.below hq
    clear hq
    have HH_ := H; obtain ⟨c0, c1, c2, c3, c4, c5, c6, c7, c8, c9, c10, c11, _⟩ := HH_
    go_wp2_with fail
    refine (hS A5 k5 A6 k6 _ I5 I6).mono ?_
    rintro e w6 ⟨rfl, hq⟩
    clear c0 c1 c2 c3 c4 c5 c6 c7 c8 c9 c10 c11
    replace H := H.below hq
    replace q0 := btr q0 hq
    replace I1 := I1.below hq
    replace I5 := I5.below hq
    replace I6 := I6.below hq
    clear hq
    go_wp2_with fail
    go_ret
    exact ⟨rfl, q0⟩
  have d4 : decide (500000 < k) = false := by simpa using e
  have fd4 := e
  clear e
  have HH_ := H; obtain ⟨c0, c1, c2, c3, c4, c5, _⟩ := HH_
  go_wp2_with fail
  refine (hI _ I1).mono ?_
  rintro e w3 ⟨v, rfl, ⟨A5, k5, rfl, _, _, hO⟩, hq⟩
  clear c0 c1 c2 c3 c4 c5
  replace H := H.below hq
  replace q0 := btr q0 hq
  replace I1 := I1.below hq
  have I5 := hO.ints
  clear hq hO hI
  have N := KcL.new3 w3 (.slice A5 R.1.1 k5) (.int .i64 R.1.2.2.1) (.bool R.1.2.2.2) 25 rfl
  have al := bal (Below.refl w3.heap.size w3) (.cells #[.slice A5 R.1.1 k5, .int .i64 R.1.2.2.1, .bool R.1.2.2.2] 25)
  replace H := (H.below al).app N
  replace q0 := btr q0 al
  replace I1 := I1.below al
  replace I5 := I5.below al
  clear N al
  have HH_ := H; obtain ⟨c0, c1, c2, c3, c4, c5, c6, c7, c8, _⟩ := HH_
  go_wp2_with fail
  refine (hP _ I1).mono ?_
  rintro e w4 ⟨v, rfl, ⟨A6, k6, rfl, _, _, hO⟩, hq⟩
  clear c0 c1 c2 c3 c4 c5 c6 c7 c8
  replace H := H.below hq
  replace q0 := btr q0 hq
  replace I1 := I1.below hq
  replace I5 := I5.below hq
  have I6 := hO.ints
  clear hq hO hP
  have N := KcL.new3 w4 (.slice A6 R.1.1 k6) (.int .i64 R.1.2.2.1) (.bool R.1.2.2.2) 25 rfl
  have al := bal (Below.refl w4.heap.size w4) (.cells #[.slice A6 R.1.1 k6, .int .i64 R.1.2.2.1, .bool R.1.2.2.2] 25)
  replace H := (H.below al).app N
  replace q0 := btr q0 al
  replace I1 := I1.below al
  replace I5 := I5.below al
  replace I6 := I6.below al
  clear N al
  have HH_ := H; obtain ⟨c0, c1, c2, c3, c4, c5, c6, c7, c8, c9, c10, c11, _⟩ := HH_
  go_wp2_with fail
  refine (hS A5 k5 A6 k6 _ I5 I6).mono ?_
  rintro e w5 ⟨rfl, hq⟩
  clear c0 c1 c2 c3 c4 c5 c6 c7 c8 c9 c10 c11
  replace H := H.below hq
  replace q0 := btr q0 hq
  replace I1 := I1.below hq
  replace I5 := I5.below hq
  replace I6 := I6.below hq
  clear hq
  have HH_ := H; obtain ⟨c0, c1, c2, c3, c4, c5, c6, c7, c8, c9, c10, c11, _⟩ := HH_
  go_wp2_with fail
  have al := bal (Below.refl w5.heap.size w5) (.cells #[.int .i64 0, .int .i64 0, .int .i64 0, .int .i64 0] 3)
  clear c0 c1 c2 c3 c4 c5 c6 c7 c8 c9 c10 c11
  replace H := H.below al
  replace q0 := btr q0 al
  replace I1 := I1.below al
  replace I5 := I5.below al
  replace I6 := I6.below al
  refine (h5 (some ⟨w5.heap.size, 0, none⟩) 4 _ I1 (ints0 w5 3) (by omega)).mono ?_
  rintro e w6 ⟨v, rfl, ⟨A7, k7, rfl, _, _, hO⟩, hq⟩
  replace H := H.below hq
  replace q0 := btr q0 hq
  replace I1 := I1.below hq
  replace I5 := I5.below hq
  replace I6 := I6.below hq
  have I7 := hO.ints
  clear hq hO h5 al
  have N := KcL.new3 w6 (.slice A7 R.1.1 k7) (.int .i64 R.1.2.2.1) (.bool R.1.2.2.2) 25 rfl
  have al := bal (Below.refl w6.heap.size w6) (.cells #[.slice A7 R.1.1 k7, .int .i64 R.1.2.2.1, .bool R.1.2.2.2] 25)
  replace H := (H.below al).app N
  replace q0 := btr q0 al
  replace I5 := I5.below al
  replace I7 := I7.below al
  clear N al
  have HH_ := H; obtain ⟨c0, c1, c2, c3, c4, c5, c6, c7, c8, c9, c10, c11, c12, c13, c14, _⟩ := HH_
  go_wp2_with fail
  refine (hS A5 k5 A7 k7 _ I5 I7).mono ?_
  rintro e w7 ⟨rfl, hq⟩
  clear c0 c1 c2 c3 c4 c5 c6 c7 c8 c9 c10 c11 c12 c13 c14
  replace H := H.below hq
  replace q0 := btr q0 hq
  replace I5 := I5.below hq
  replace I7 := I7.below hq
  clear hq
  go_wp2_with fail
  go_ret
  exact ⟨rfl, q0⟩
end Go.Proofs.Ytedkalbjeeigaaa
