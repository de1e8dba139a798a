/- The law FnLinSum: the walk. -/
import Derived.Test.YtbdmofmoegmigaaLinDG
import Derived.Test.YtbdmofmoegmigaaLinX
import Derived.Test.YtbdmofmoegmigaaLinUM
import Derived.Test.YtbdmofmoegmigaaLinSE
import Derived.Test.YtbdmofmoegmigaaBI
namespace Go.Proofs.Ytbdmofmoegmigaa
set_option linter.unusedVariables false
set_option linter.unusedSimpArgs false
open Go.RowKit
theorem linat_atU {A : Option Addr} {n c : Nat} {Z : Nat → Int} {b : Int} {s : Bool} {B : Option Addr} {m d : Nat} {N D : Nat → Int} {w : World} (hn : n ≤ 9223372036854775806) (hA : Ints w A n Z) (hm : m ≤ 9223372036854775806) (hB : Rats w B m N D) {p q : Bool} (h : atB n Z b s m N D = (p, q)) :
    Calls Try.prog 32 #[.agg #[.slice A n c, .int .i64 b, .bool s], .slice B m d] w fun e w' => e = .returned (.tuple #[.bool p, .bool q]) ∧ Below w.heap.size w w' := by
  have := linat_any A n c Z b s B m d N D w hn hA hm hB
  rw [h] at this
  exact this
theorem linsame_self {A B : Option Addr} {n c d : Nat} {Z : Nat → Int} {b : Int} {s : Bool} {w : World} (hn : n ≤ 9223372036854775806) (hA : Ints w A n Z) (hB : Ints w B n Z) :
    Calls Try.prog 28 #[.agg #[.slice A n c, .int .i64 b, .bool s], .agg #[.slice B n d, .int .i64 b, .bool s]] w fun e w' => e = .returned (.bool true) ∧ Below w.heap.size w w' := by
  have := linsame_any A B n n c d Z Z b b s s w hn hn hA hB
  rw [eqL_self] at this
  exact this
theorem linok_atU {A : Option Addr} {n c : Nat} {Z : Nat → Int} {b : Int} {s : Bool} {w : World} (hn : n ≤ 9223372036854775807) (hA : Ints w A n Z) {v : Bool} (h : okL n Z b = v) :
    Calls Try.prog 30 #[.agg #[.slice A n c, .int .i64 b, .bool s]] w fun e w' => e = .returned (.bool v) ∧ Below w.heap.size w w' := by
  subst h; exact linok_any A n c Z b s w hn hA
theorem KcL.two3U (w : World) (x0 x1 x2 y0 y1 y2 : Value) (t : TypeId) : KcL [(w.heap.size, 0, x0), (w.heap.size, 1, x1), (w.heap.size, 2, x2), (w.heap.size + 1, 0, y0), (w.heap.size + 1, 1, y1), (w.heap.size + 1, 2, y2)] ((w.alloc (.cells #[x0, x1, x2] t)).alloc (.cells #[y0, y1, y2] t)) :=
  (KcL.alloc (KcL.new3 w x0 x1 x2 t rfl) _).app (KcL.new3 (w.alloc (.cells #[x0, x1, x2] t)) y0 y1 y2 t (by simp))
set_option maxRecDepth 100000 in
set_option maxHeartbeats 16000000 in
theorem walk_LinSum (a0 : Option Addr) (len0 cap0 : Nat) (w : World) (hby : Bytes w.heap.size w a0 len0) (hlc : len0 ≤ cap0) (hc : cap0 ≤ 9223372036854775807) :
    Calls Try.prog 4 #[.slice a0 len0 cap0] w fun e w' => e = .returned (.bool true) ∧ Below w.heap.size w w' := by
  by_cases hbig : 1048576 < len0
  · go_enter Try.func4, Try.ntmps4
    go_wp2
    go_ret
    exact ⟨rfl, Below.refl _ _⟩
  go_enter Try.func4, Try.ntmps4
  go_wp2_with fail
  refine (drawlinsum_any w.heap.size w a0 len0 cap0 (Nat.le_refl _) hby hlc hc).mono ?_
  rintro e w1 ⟨A, n, c, Z, b, s, m, A2, n2, cB, Z2, b2, s2, k, rfl, hn, hn2, hA, hA2, _, _, hq⟩
  have al := bal (bal (Below.refl w1.heap.size w1) (.cells #[.slice A n c, .int .i64 b, .bool s] 25)) (.cells #[.slice A2 n2 cB, .int .i64 b2, .bool s2] 25)
  have H := KcL.two3U w1 (.slice A n c) (.int .i64 b) (.bool s) (.slice A2 n2 cB) (.int .i64 b2) (.bool s2) 25
  have q0 := btr hq al
  have I1 := hA.below al
  have I2 := hA2.below al
  clear hA hA2 hq al
  go_wp2_with fail
  refine (drawlinat_any w.heap.size _ a0 len0 cap0 q0.size (hby.below q0) hlc hc).mono ?_
  rintro e w2 ⟨A4, n4, c4, Z4, b4, s4, D, v, d, N, M, rfl, _, _, hv, hD, hq⟩
  have al := bal (Below.refl w2.heap.size w2) (.cells #[.slice A4 n4 c4, .int .i64 b4, .bool s4] 25)
  replace H := (H.below hq).below al
  replace I1 := (I1.below hq).below al
  replace I2 := (I2.below hq).below al
  replace hD := hD.below al
  replace q0 := btr (btr q0 hq) al
  clear hq al hby hlc hc hbig
  have cP := fun W h1 h2 => slinsum_any A n c Z b m s A2 n2 cB Z2 b2 k s2 W (by omega) h1 (by omega) h2
  have cI := fun W h1 h2 => linsum_any A n c Z b m s A2 n2 cB Z2 b2 k s2 W (by omega) h1 (by omega) h2
  have cJ := fun W h1 h2 => linsum_any A2 n2 cB Z2 b2 k s2 A n c Z b m s W (by omega) h1 (by omega) h2
  have hR4 := sum_R4 n n2 Z Z2 b b2 m k s s2
  rw [sum_comm] at cJ
  rcases hs : sumR n Z b s m n2 Z2 b2 s2 k with ⟨R, fine⟩
  rw [hs] at cP cI cJ hR4
  unfold SumP at cP cI cJ
  simp only at cP cI cJ hR4
  have HH := H; obtain ⟨c0, c1, cc2, d0, d1, d2, _⟩ := HH
  have y0 := cell_lt c0; have y1 := cell_lt d0
  go_wp2_with fail
  refine (cI _ I1 I2).mono ?_
  rintro e w3 ⟨v3, rfl, ⟨A3, c3, rfl, _, _, O3⟩, hq⟩
  have I3 := O3.ints
  clear c0 c1 cc2 d0 d1 d2 y0 y1 O3
  have al := bal (Below.refl w3.heap.size w3) (.cells #[.slice A3 R.1 c3, .int .i64 R.2.2.1, .bool R.2.2.2] 25)
  replace H := ((H.below hq).below al).app (KcL.new3 w3 (.slice A3 R.1 c3) (.int .i64 R.2.2.1) (.bool R.2.2.2) 25 rfl)
  replace I1 := (I1.below hq).below al
  replace I2 := (I2.below hq).below al
  replace I3 := I3.below al
  replace hD := (hD.below hq).below al
  replace q0 := btr (btr q0 hq) al
  clear hq al
  have HH := H; obtain ⟨c0, c1, cc2, d0, d1, d2, e0, e1, e2, _⟩ := HH
  go_wp2_with fail
  refine (cP _ I1 I2).mono ?_
  rintro e w4 ⟨v4, rfl, ⟨A5, c5, rfl, _, _, O5⟩, hq⟩
  have I5 := O5.ints
  clear O5
  clear c0 c1 cc2 d0 d1 d2 e0 e1 e2
  have al := bal (Below.refl w4.heap.size w4) (.cells #[.slice A5 R.1 c5, .int .i64 R.2.2.1, .bool R.2.2.2] 25)
  replace H := ((H.below hq).below al).app (KcL.new3 w4 (.slice A5 R.1 c5) (.int .i64 R.2.2.1) (.bool R.2.2.2) 25 rfl)
  replace I1 := (I1.below hq).below al
  replace I2 := (I2.below hq).below al
  replace I3 := (I3.below hq).below al
  replace I5 := I5.below al
  replace hD := (hD.below hq).below al
  replace q0 := btr (btr q0 hq) al
  clear hq al cP
  have df : (fine != fine) = false := by simp
  have ef : (fine == fine) = true := by simp
  have HH := H; obtain ⟨c0, c1, cc2, d0, d1, d2, e0, e1, e2, f0, f1, f2, _⟩ := HH
  go_wp2_with fail
  refine (linsame_self (by omega) I3 I5).mono ?_
  rintro e w5 ⟨rfl, hq⟩
  clear f0 f1 f2
  clear c0 c1 cc2 d0 d1 d2 e0 e1 e2
  replace H := H.below hq
  replace I1 := I1.below hq
  replace I2 := I2.below hq
  replace I3 := I3.below hq
  replace I5 := I5.below hq
  replace hD := hD.below hq
  replace q0 := btr q0 hq
  clear hq
  have HH := H; obtain ⟨c0, c1, cc2, d0, d1, d2, e0, e1, e2, f0, f1, f2, _⟩ := HH
  cases fine
  · go_wp2_with fail
    refine (linsame_self (by omega) I3 I5).mono ?_
    rintro e w6 ⟨rfl, hq⟩
    go_wp2
    go_ret
    exact ⟨rfl, btr q0 hq⟩
  clear f0 f1 f2
  go_wp2_with fail
  refine (cJ _ I2 I1).mono ?_
  rintro e w6 ⟨v6, rfl, ⟨A6, c6, rfl, _, _, O6⟩, hq⟩
  have I6 := O6.ints
  clear O6 cI cJ I5
  clear c0 c1 cc2 d0 d1 d2 e0 e1 e2
  have al := bal (Below.refl w6.heap.size w6) (.cells #[.slice A6 R.1 c6, .int .i64 R.2.2.1, .bool R.2.2.2] 25)
  replace H := ((H.below hq).below al).app (KcL.new3 w6 (.slice A6 R.1 c6) (.int .i64 R.2.2.1) (.bool R.2.2.2) 25 rfl)
  replace I1 := (I1.below hq).below al
  replace I2 := (I2.below hq).below al
  replace I3 := (I3.below hq).below al
  replace I6 := I6.below al
  replace hD := (hD.below hq).below al
  replace q0 := btr (btr q0 hq) al
  clear hq al
  have HH := H; obtain ⟨c0, c1, cc2, d0, d1, d2, e0, e1, e2, _, _, _, f0, f1, f2, _⟩ := HH
  go_wp2_with fail
  refine (linsame_self (by omega) I6 I3).mono ?_
  rintro e w7 ⟨rfl, hq⟩
  clear f0 f1 f2 I6
  clear c0 c1 cc2 d0 d1 d2 e0 e1 e2
  replace H := H.below hq
  replace I1 := I1.below hq
  replace I2 := I2.below hq
  replace I3 := I3.below hq
  replace hD := hD.below hq
  replace q0 := btr q0 hq
  clear hq
  have HH := H; obtain ⟨c0, c1, cc2, d0, d1, d2, e0, e1, e2, _⟩ := HH
  go_wp2_with fail
  refine (linok_atU (by omega) I3 (sum_ok hs)).mono ?_
  rintro e w8 ⟨rfl, hq⟩
  clear c0 c1 cc2 d0 d1 d2 e0 e1 e2
  replace H := H.below hq
  replace I1 := I1.below hq
  replace I2 := I2.below hq
  replace I3 := I3.below hq
  replace hD := hD.below hq
  replace q0 := btr q0 hq
  clear hq
  have HH := H; obtain ⟨c0, c1, cc2, d0, d1, d2, e0, e1, e2, _⟩ := HH
  rcases hp1 : atB n Z b s v N M with ⟨p1, o1⟩
  go_wp2_with fail
  refine (linat_atU (by omega) I1 (by omega) hD hp1).mono ?_
  rintro e w9 ⟨rfl, hq⟩
  clear c0 c1 cc2 d0 d1 d2 e0 e1 e2
  replace H := H.below hq
  replace I2 := I2.below hq
  replace I3 := I3.below hq
  replace hD := hD.below hq
  replace q0 := btr q0 hq
  clear hq
  have HH := H; obtain ⟨c0, c1, cc2, d0, d1, d2, e0, e1, e2, _⟩ := HH
  rcases hp2 : atB n2 Z2 b2 s2 v N M with ⟨p2, o2⟩
  go_wp2_with fail
  refine (linat_atU (by omega) I2 (by omega) hD hp2).mono ?_
  rintro e wa ⟨rfl, hq⟩
  clear c0 c1 cc2 d0 d1 d2 e0 e1 e2
  replace H := H.below hq
  replace I3 := I3.below hq
  replace hD := hD.below hq
  replace q0 := btr q0 hq
  clear hq
  have HH := H; obtain ⟨c0, c1, cc2, d0, d1, d2, e0, e1, e2, _⟩ := HH
  rcases hp3 : atB R.1 R.2.1 R.2.2.1 R.2.2.2 v N M with ⟨p3, o3⟩
  go_wp2_with fail
  refine (linat_atU (by omega) I3 (by omega) hD hp3).mono ?_
  rintro e wb ⟨rfl, hq⟩
  replace q0 := btr q0 hq
  clear hq H I3 hD
  clear c0 c1 cc2 d0 d1 d2 e0 e1 e2
  cases o1
  · skip
    go_wp2
    go_ret
    exact ⟨rfl, q0⟩
  cases o2
  · skip
    go_wp2
    go_ret
    exact ⟨rfl, q0⟩
  cases o3
  · skip
    go_wp2
    go_ret
    exact ⟨rfl, q0⟩
  cases p1
  · skip
    go_wp2
    go_ret
    exact ⟨rfl, q0⟩
  cases p2
  · skip
    go_wp2
    go_ret
    exact ⟨rfl, q0⟩
  obtain rfl := at_sum hs hp1 hp2 hp3
  go_wp2
  go_ret
  exact ⟨rfl, q0⟩
end Go.Proofs.Ytbdmofmoegmigaa
