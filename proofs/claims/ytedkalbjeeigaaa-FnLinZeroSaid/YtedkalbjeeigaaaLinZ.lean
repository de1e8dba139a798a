/- The law FnLinZero: the walk. -/
import Derived.Test.YtedkalbjeeigaaaLinDD
import Derived.Test.YtedkalbjeeigaaaLinSE
import Derived.Test.YtedkalbjeeigaaaByt
namespace Go.Proofs.Ytedkalbjeeigaaa
set_option linter.unusedVariables false
set_option linter.unusedSimpArgs false
open Go.RowKit
theorem sum_zero (na : Nat) (Z : Nat → Int) (b : Int) (s : Bool) (nb : Nat) (Y : Nat → Int) (d : Int) (u : Bool) : sumR na Z b s 0 nb Y d u 0 = (zeroL, false) ∨ sumR na Z b s 0 nb Y d u 0 = ((4, fun _ => 0, 0, false), true) := by
  have e : addZ Z 0 Y 0 = fun _ => 0 := by funext k; simp [addZ]
  unfold sumR addR2
  split
  · split
    · right; rw [e]; simp [strB]
    · exact .inl rfl
  · exact .inl rfl
theorem free_zero : freeB 4 (fun _ => 0) 0 false = true := by decide
theorem bad_zero : badB 4 (fun _ => 0) 0 false = false := by decide
theorem KcL.two2 (w : World) (x0 x1 x2 y0 y1 y2 : Value) (t : TypeId) : KcL [(w.heap.size, 0, x0), (w.heap.size, 1, x1), (w.heap.size, 2, x2), (w.heap.size + 1, 0, y0), (w.heap.size + 1, 1, y1), (w.heap.size + 1, 2, y2)] ((w.alloc (.cells #[x0, x1, x2] t)).alloc (.cells #[y0, y1, y2] t)) :=
  (KcL.alloc (KcL.new3 w x0 x1 x2 t rfl) _).app (KcL.new3 (w.alloc (.cells #[x0, x1, x2] t)) y0 y1 y2 t (by simp))
set_option maxRecDepth 100000 in
set_option maxHeartbeats 8000000 in
theorem walk_LinZero (a0 : Option Addr) (len0 cap0 : Nat) (w : World) (hby : Bytes w.heap.size w a0 len0) (hlc : len0 ≤ cap0) (hc : cap0 ≤ 9223372036854775807) :
    Calls Try.prog 8 #[.slice a0 len0 cap0] w fun e w' => e = .returned (.bool true) ∧ Below w.heap.size w w' := by
  by_cases hbig : 1048576 < len0
  · go_enter Try.func8, Try.ntmps8
    go_wp2
    go_ret
    exact ⟨rfl, Below.refl _ _⟩
  go_enter Try.func8, Try.ntmps8
  go_wp2_with fail
  refine (drawlinsum_any w.heap.size w a0 len0 cap0 (Nat.le_refl _) hby hlc hc).mono ?_
  rintro e w1 ⟨A, n, c, Z, b, s, m, A2, n2, cB, Z2, b2, s2, k, rfl, hn, hn2, hA, hA2, hm, hk, hq⟩
  clear hby hlc hc hbig
  go_upto_region 4 with fail
  have H := KcL.two2 w1 (.slice A n c) (.int .i64 b) (.bool s) (.slice A2 n2 cB) (.int .i64 b2) (.bool s2) 25
  have q0 := bal (bal hq (.cells #[.slice A n c, .int .i64 b, .bool s] 25)) (.cells #[.slice A2 n2 cB, .int .i64 b2, .bool s2] 25)
  have I1 := (hA.below (bal (Below.refl w1.heap.size w1) (.cells #[.slice A n c, .int .i64 b, .bool s] 25))).below (bal (Below.refl _ (w1.alloc (.cells #[.slice A n c, .int .i64 b, .bool s] 25))) (.cells #[.slice A2 n2 cB, .int .i64 b2, .bool s2] 25))
  have I2 := (hA2.below (bal (Below.refl w1.heap.size w1) (.cells #[.slice A n c, .int .i64 b, .bool s] 25))).below (bal (Below.refl _ (w1.alloc (.cells #[.slice A n c, .int .i64 b, .bool s] 25))) (.cells #[.slice A2 n2 cB, .int .i64 b2, .bool s2] 25))
  clear hq hA hA2
  generalize (w1.alloc (.cells #[.slice A n c, .int .i64 b, .bool s] 25)).alloc (.cells #[.slice A2 n2 cB, .int .i64 b2, .bool s2] 25) = w2 at *
  have hI := fun W (h1 : Ints W A n Z) (h2 : Ints W A2 n2 Z2) => linsum_any A n c Z b 0 s A2 n2 cB Z2 b2 0 s2 W (by omega) h1 (by omega) h2
  have hP := fun W (h1 : Ints W A n Z) (h2 : Ints W A2 n2 Z2) => slinsum_any A n c Z b 0 s A2 n2 cB Z2 b2 0 s2 W (by omega) h1 (by omega) h2
  have hS := fun (R : LinR) (hR : R.1 ≤ 4) (A5 : Option Addr) (k5 : Nat) (A6 : Option Addr) (k6 : Nat) W (h1 : Ints W A5 R.1 R.2.1) (h2 : Ints W A6 R.1 R.2.1) => linsame_any A5 A6 R.1 R.1 k5 k6 R.2.1 R.2.1 R.2.2.1 R.2.2.1 R.2.2.2 R.2.2.2 W (by omega) (by omega) h1 h2
  simp only [eqL_self] at hS
  rcases sum_zero n Z b s n2 Z2 b2 s2 with e | e
  · rw [e] at hI hP
    have hR4 : zeroL.1 ≤ 4 := by simp [zeroL]
    clear e
    generalize zeroL = R at hI hP hR4
    have HH_ := H; obtain ⟨c0, c1, c2, c3, c4, c5, _⟩ := HH_
    go_wp2_with fail
    refine (hI _ I1 I2).mono ?_
    rintro e w3 ⟨v, rfl, ⟨A5, k5, rfl, _, _, hO⟩, hq⟩
    clear c0 c1 c2 c3 c4 c5
    replace H := H.below hq
    replace q0 := btr q0 hq
    replace I1 := I1.below hq
    replace I2 := I2.below hq
    have I5 := hO.ints
    clear hq hO hI
    have N := KcL.new3 w3 (.slice A5 R.1 k5) (.int .i64 R.2.2.1) (.bool R.2.2.2) 25 rfl
    have al := bal (Below.refl w3.heap.size w3) (.cells #[.slice A5 R.1 k5, .int .i64 R.2.2.1, .bool R.2.2.2] 25)
    replace H := (H.below al).app N
    replace q0 := btr q0 al
    replace I1 := I1.below al
    replace I2 := I2.below al
    replace I5 := I5.below al
    clear N al
    have HH_ := H; obtain ⟨c0, c1, c2, c3, c4, c5, c6, c7, c8, _⟩ := HH_
    go_wp2_with fail
    refine (hP _ I1 I2).mono ?_
    rintro e w4 ⟨v, rfl, ⟨A6, k6, rfl, _, _, hO⟩, hq⟩
    clear c0 c1 c2 c3 c4 c5 c6 c7 c8
    replace H := H.below hq
    replace q0 := btr q0 hq
    replace I1 := I1.below hq
    replace I2 := I2.below hq
    replace I5 := I5.below hq
    have I6 := hO.ints
    clear hq hO hP
    have N := KcL.new3 w4 (.slice A6 R.1 k6) (.int .i64 R.2.2.1) (.bool R.2.2.2) 25 rfl
    have al := bal (Below.refl w4.heap.size w4) (.cells #[.slice A6 R.1 k6, .int .i64 R.2.2.1, .bool R.2.2.2] 25)
    replace H := (H.below al).app N
    replace q0 := btr q0 al
    replace I5 := I5.below al
    replace I6 := I6.below al
    clear N al
    have HH_ := H; obtain ⟨c0, c1, c2, c3, c4, c5, c6, c7, c8, c9, c10, c11, _⟩ := HH_
    go_wp2_with fail
    refine (hS R hR4 A5 k5 A6 k6 _ I5 I6).mono ?_
    rintro e w5 ⟨rfl, hq⟩
    clear c0 c1 c2 c3 c4 c5 c6 c7 c8 c9 c10 c11
    replace H := H.below hq
    replace q0 := btr q0 hq
    replace I5 := I5.below hq
    replace I6 := I6.below hq
    clear hq
    have HH_ := H; obtain ⟨c0, c1, c2, c3, c4, c5, c6, c7, c8, c9, c10, c11, _⟩ := HH_
    go_wp2_with fail
    refine (hS R hR4 A5 k5 A6 k6 _ I5 I6).mono ?_
    rintro e w6 ⟨rfl, hq⟩
    clear c0 c1 c2 c3 c4 c5 c6 c7 c8 c9 c10 c11
    replace H := H.below hq
    replace q0 := btr q0 hq
    replace I5 := I5.below hq
    replace I6 := I6.below hq
    clear hq
    go_wp2_with fail
    go_ret
    exact ⟨rfl, q0⟩
  · rw [e] at hI hP
    clear e
    have hR4 : ((4, fun _ => (0 : Int), (0 : Int), false) : LinR).1 ≤ 4 := by simp
    have hF := fun (A5 : Option Addr) (k5 : Nat) W (h1 : Ints W A5 4 (fun _ => 0)) => linfree_any A5 4 k5 (fun _ => 0) 0 false W (by omega) h1
    have hB := fun (A5 : Option Addr) (k5 : Nat) W (h1 : Ints W A5 4 (fun _ => 0)) => linbad_any A5 4 k5 (fun _ => 0) 0 false W (by omega) h1
    rw [free_zero] at hF
    rw [bad_zero] at hB
    have hR0 : ((4, fun _ => (0 : Int), (0 : Int), false) : LinR).2.2.1 = 0 := rfl
    have hg : ∀ R : LinR, R = (4, fun _ => (0 : Int), (0 : Int), false) → (∀ (A5 : Option Addr) (k5 : Nat) W, Ints W A5 R.1 R.2.1 → Calls Try.prog 30 #[.agg #[.slice A5 R.1 k5, .int .i64 R.2.2.1, .bool R.2.2.2]] W fun e w' => e = .returned (.bool true) ∧ Below W.heap.size W w') ∧ (∀ (A5 : Option Addr) (k5 : Nat) W, Ints W A5 R.1 R.2.1 → Calls Try.prog 29 #[.agg #[.slice A5 R.1 k5, .int .i64 R.2.2.1, .bool R.2.2.2]] W fun e w' => e = .returned (.bool false) ∧ Below W.heap.size W w') := by
      rintro R rfl
      exact ⟨hF, hB⟩
    clear hF hB
    obtain ⟨hF, hB⟩ := hg _ rfl
    clear hg
    generalize ((4, fun _ => (0 : Int), (0 : Int), false) : LinR) = R at hI hP hR4 hF hB hR0
    have HR0 := hid hR0
    clear hR0
    have HH_ := H; obtain ⟨c0, c1, c2, c3, c4, c5, _⟩ := HH_
    go_wp2_with fail
    refine (hI _ I1 I2).mono ?_
    rintro e w3 ⟨v, rfl, ⟨A5, k5, rfl, _, _, hO⟩, hq⟩
    clear c0 c1 c2 c3 c4 c5
    replace H := H.below hq
    replace q0 := btr q0 hq
    replace I1 := I1.below hq
    replace I2 := I2.below hq
    have I5 := hO.ints
    clear hq hO hI
    have N := KcL.new3 w3 (.slice A5 R.1 k5) (.int .i64 R.2.2.1) (.bool R.2.2.2) 25 rfl
    have al := bal (Below.refl w3.heap.size w3) (.cells #[.slice A5 R.1 k5, .int .i64 R.2.2.1, .bool R.2.2.2] 25)
    replace H := (H.below al).app N
    replace q0 := btr q0 al
    replace I1 := I1.below al
    replace I2 := I2.below al
    replace I5 := I5.below al
    clear N al
    have HH_ := H; obtain ⟨c0, c1, c2, c3, c4, c5, c6, c7, c8, _⟩ := HH_
    go_wp2_with fail
    refine (hP _ I1 I2).mono ?_
    rintro e w4 ⟨v, rfl, ⟨A6, k6, rfl, _, _, hO⟩, hq⟩
    clear c0 c1 c2 c3 c4 c5 c6 c7 c8
    replace H := H.below hq
    replace q0 := btr q0 hq
    replace I1 := I1.below hq
    replace I2 := I2.below hq
    replace I5 := I5.below hq
    have I6 := hO.ints
    clear hq hO hP
    have N := KcL.new3 w4 (.slice A6 R.1 k6) (.int .i64 R.2.2.1) (.bool R.2.2.2) 25 rfl
    have al := bal (Below.refl w4.heap.size w4) (.cells #[.slice A6 R.1 k6, .int .i64 R.2.2.1, .bool R.2.2.2] 25)
    replace H := (H.below al).app N
    replace q0 := btr q0 al
    replace I5 := I5.below al
    replace I6 := I6.below al
    clear N al
    have HH_ := H; obtain ⟨c0, c1, c2, c3, c4, c5, c6, c7, c8, c9, c10, c11, _⟩ := HH_
    go_wp2_with fail
    refine (hS R hR4 A5 k5 A6 k6 _ I5 I6).mono ?_
    rintro e w5 ⟨rfl, hq⟩
    clear c0 c1 c2 c3 c4 c5 c6 c7 c8 c9 c10 c11
    replace H := H.below hq
    replace q0 := btr q0 hq
    replace I5 := I5.below hq
    replace I6 := I6.below hq
    clear hq
    have HH_ := H; obtain ⟨c0, c1, c2, c3, c4, c5, c6, c7, c8, c9, c10, c11, _⟩ := HH_
    go_wp2_with fail
    refine (hF A5 k5 _ I5).mono ?_
    rintro e w6 ⟨rfl, hq⟩
    clear c0 c1 c2 c3 c4 c5 c6 c7 c8 c9 c10 c11
    replace H := H.below hq
    replace q0 := btr q0 hq
    replace I5 := I5.below hq
    replace I6 := I6.below hq
    clear hq
    have HH_ := H; obtain ⟨c0, c1, c2, c3, c4, c5, c6, c7, c8, c9, c10, c11, _⟩ := HH_
    go_wp2_with fail
    refine (hB A5 k5 _ I5).mono ?_
    rintro e w7 ⟨rfl, hq⟩
    clear c0 c1 c2 c3 c4 c5 c6 c7 c8 c9 c10 c11
    replace H := H.below hq
    replace q0 := btr q0 hq
    replace I5 := I5.below hq
    replace I6 := I6.below hq
    clear hq
    have HH_ := H; obtain ⟨c0, c1, c2, c3, c4, c5, c6, c7, c8, c9, c10, c11, _⟩ := HH_
    have hR0 := HR0.out
    replace c7 := c7.trans (by rw [hR0])
    clear HR0
    go_wp2_with fail
    go_ret
    exact ⟨rfl, q0⟩
end Go.Proofs.Ytedkalbjeeigaaa
