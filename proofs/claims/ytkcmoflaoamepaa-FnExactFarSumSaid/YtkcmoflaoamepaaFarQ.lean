/- Walk of the exact law of FarSum. -/
import Derived.Test.YtkcmoflaoamepaaFarN
import Derived.Test.YtkcmoflaoamepaaFarP
namespace Go.Proofs.Ytkcmoflaoamepaa
set_option linter.unusedVariables false
set_option linter.unusedSimpArgs false
open Go.RowKit
theorem NewI.ownB {w w' : World} {g n : Nat} {t : TypeId} {Z : Nat → Int} (hg : w.heap.size ≤ g) (hr : w'.rowIs g t n (fun k => .int .i64 (Z k))) : OwnB w.heap.size w'.heap.size w' (some ⟨g, 0, none⟩) n Z :=
  .inr ⟨g, rfl, hg, hr.lt, hr.lt, fun k hk => ⟨hr.cell hk, hr.frozen k⟩⟩
theorem MarkP.wrt {lo hi : Nat} {w w' : World} {row : Option Nat} (hg : w.grownBy w' row) (hr : ∀ g, row = some g → lo ≤ g ∧ g < hi) : Wrt lo hi w w' := Wrt.of_grown hg hr
set_option maxRecDepth 100000 in
set_option maxHeartbeats 8000000 in
theorem walk_ExactFarSum (A : Option Addr) (n c : Nat) (L : Lst) (B : Option Addr) (m d : Nat) (T : Nat → Int) (w : World) (hn : n ≤ 9223372036854775807) (hA : Lins w A n L) (hm : m ≤ 9223372036854775807) (hB : Ints w B m T) :
    Calls Try.prog 3 #[.slice A n c, .slice B m d] w fun e w' => e = .returned (.bool true) ∧ Below w.heap.size w w' := by
  by_cases hb2 : 1048576 < m
  · go_enter Try.func3, Try.ntmps3
    go_wp2
    go_ret
    exact ⟨rfl, Below.refl _ _⟩
  have hm2 : m ≤ 1048576 := by omega
  clear hb2
  have hS := fun W (h : Below w.heap.size w W) => szlins_any A n c L 1048576 W hn (by omega) (hA.below h)
  go_enter Try.func3, Try.ntmps3
  go_wp2_with fail
  refine (hS _ (Below.refl _ _)).mono ?_
  rintro e w1 ⟨r, rfl, hr, q0⟩
  clear hS
  rcases hr with hr | ⟨r1, r2, hn2, hN⟩
  · go_wp2
    go_ret
    exact ⟨rfl, q0⟩
  have hn3 : n ≤ 1048576 := by omega
  have hN3 : ∀ k, k < n → L.N k ≤ 1048576 := fun k hk => by have := hN k hk; omega
  clear hN hn2 r2
  have hT := fun W (h : Below w.heap.size w W) => tolins_any A n c L W hn3 (hA.below h) hN3
  have hR := fun W (h : Below w.heap.size w W) => toints_any B m d T W hm2 (hB.below h)
  have hP := fun (A3 : Option Addr) k3 (B4 : Option Addr) k4 W h1 h2 => sfarsum_any A3 n k3 L B4 m k4 T W (by omega) h1 (by omega) h2 hN3
  have hI := fun (A3 : Option Addr) k3 (B4 : Option Addr) k4 W h1 h2 => farsum_any A3 n k3 L B4 m k4 T W (by omega) h1 (by omega) h2 hN3
  have hM := fun lo hi (A3 : Option Addr) W h => marklins_any lo hi A3 n n L 1 W hn3 hN3 (by omega) h
  have hR4 := farS_len n L m T
  generalize farS n L m T = R at hP hI hR4
  have hK := mk0_bd 1 L n hN3 (by omega) n (Nat.le_refl _)
  have HN := hid hN3; clear hN3
  have dR : (R.2 != R.2) = false := by simp
  have mk1a : 0 ≤ mk0 1 L n := by omega
  have mk1b : mk0 1 L n ≤ 2000000000000 := by omega
  clear hK
  generalize mk0 1 L n = K at hM mk1a mk1b
  have n1 : decide (K + m < 0) = false := by simp; omega
  have n2 : decide ((1 : Int) + R.1.1 < 0) = false := by simp; omega
  have n3 : ((1 : Int) + R.1.1 != 1 + R.1.1) = false := by simp
  have H : KcL [] w1 := trivial
  have z1 := q0.size
  clear hA hB
  go_wp2_with fail
  refine (hT _ q0).mono ?_
  rintro e w2 ⟨A2, rfl, O2, hq⟩
  replace H := H.below hq
  replace q0 := btr q0 hq
  have z2 := hq.size
  clear hq
  go_wp2_with fail
  refine (hR _ q0).mono ?_
  rintro e w3 ⟨g3, rfl, hg_, hr_, hq⟩
  replace H := H.below hq
  replace q0 := btr q0 hq
  replace O2 := O2.below hq
  have z3 := hq.size
  have O3 := NewI.ownB hg_ hr_
  clear hq hg_ hr_
  go_wp2_with fail
  refine (hP A2 n (some ⟨g3, 0, none⟩) m _ (O2.lins HN.out) O3.ints).mono ?_
  rintro e w4 ⟨v, rfl, ⟨A5, k5, rfl, _, _, hO⟩, hq⟩
  replace H := H.below hq
  replace q0 := btr q0 hq
  replace O2 := O2.below hq
  replace O3 := O3.below hq
  have z4 := hq.size
  have O5 := hO.ownB
  clear hq hO O2 O3
  have N := KcL.new3 w4 (.slice A5 R.1.1 k5) (.int .i64 R.1.2.2.1) (.bool R.1.2.2.2) 26 rfl
  have al := bal (Below.refl w4.heap.size w4) (.cells #[.slice A5 R.1.1 k5, .int .i64 R.1.2.2.1, .bool R.1.2.2.2] 26)
  replace H := (H.below al).app N
  replace q0 := btr q0 al
  replace O5 := O5.below al
  clear N al
  have HH_ := H; obtain ⟨c0, c1, c2, _⟩ := HH_
  go_wp2_with fail
  refine (hT _ q0).mono ?_
  rintro e w5 ⟨A6, rfl, O6, hq⟩
  clear c0 c1 c2
  replace H := H.below hq
  replace q0 := btr q0 hq
  replace O5 := O5.below hq
  have z5 := hq.size
  clear hq
  rw [World.size_alloc] at O6 z5
  have HH_ := H; obtain ⟨c0, c1, c2, _⟩ := HH_
  go_wp2_with fail
  refine (hR _ q0).mono ?_
  rintro e w6 ⟨g7, rfl, hg_, hr_, hq⟩
  clear c0 c1 c2
  replace H := H.below hq
  replace q0 := btr q0 hq
  replace O5 := O5.below hq
  replace O6 := O6.below hq
  have z6 := hq.size
  have O7 := NewI.ownB hg_ hr_
  clear hq hg_ hr_
  have HH_ := H; obtain ⟨c0, c1, c2, _⟩ := HH_
  go_wp2_with fail
  refine (hI A6 n (some ⟨g7, 0, none⟩) m _ (O6.lins HN.out) O7.ints).mono ?_
  rintro e w7 ⟨v, rfl, ⟨A8, k8, rfl, _, _, hO⟩, hq⟩
  clear c0 c1 c2
  replace H := H.below hq
  replace q0 := btr q0 hq
  replace O5 := O5.below hq
  replace O6 := O6.below hq
  replace O7 := O7.below hq
  have z7 := hq.size
  have O8 := hO.ownB
  clear hq hO
  have N := KcL.new3 w7 (.slice A8 R.1.1 k8) (.int .i64 R.1.2.2.1) (.bool R.1.2.2.2) 26 rfl
  have al := bal (Below.refl w7.heap.size w7) (.cells #[.slice A8 R.1.1 k8, .int .i64 R.1.2.2.1, .bool R.1.2.2.2] 26)
  replace H := (H.below al).app N
  replace q0 := btr q0 al
  replace O5 := O5.below al
  replace O6 := O6.below al
  replace O7 := O7.below al
  replace O8 := O8.below al
  clear N al
  have HH_ := H; obtain ⟨c0, c1, c2, c3, c4, c5, _⟩ := HH_
  go_wp2_with fail
  refine (eqlin_same (by omega) O8.ints O5.ints).mono ?_
  rintro e w8 ⟨rfl, hq⟩
  clear c0 c1 c2 c3 c4 c5
  replace H := H.below hq
  replace q0 := btr q0 hq
  replace O5 := O5.below hq
  replace O6 := O6.below hq
  replace O7 := O7.below hq
  replace O8 := O8.below hq
  clear hq
  have HH_ := H; obtain ⟨c0, c1, c2, c3, c4, c5, _⟩ := HH_
  go_wp2_with fail
  refine (hT _ q0).mono ?_
  rintro e w9 ⟨B6, rfl, hO, hq⟩
  clear c0 c1 c2 c3 c4 c5
  replace H := H.below hq
  replace q0 := btr q0 hq
  replace O5 := O5.below hq
  replace O6 := O6.below hq
  replace O7 := O7.below hq
  replace O8 := O8.below hq
  have HH_ := H; obtain ⟨c0, c1, c2, c3, c4, c5, _⟩ := HH_
  go_wp2_with fail
  refine (eqlins_same A6 B6 n n n L _ (by omega) (O6.lins HN.out) (hO.lins HN.out)).mono ?_
  rintro e w10 ⟨rfl, hq2⟩
  clear c0 c1 c2 c3 c4 c5
  replace H := H.below hq2
  replace q0 := btr q0 hq2
  replace O5 := O5.below hq2
  replace O6 := O6.below hq2
  replace O7 := O7.below hq2
  replace O8 := O8.below hq2
  clear hq hq2 hO
  have HH_ := H; obtain ⟨c0, c1, c2, c3, c4, c5, _⟩ := HH_
  go_wp2_with fail
  refine (hR _ q0).mono ?_
  rintro e w11 ⟨g8, rfl, hg_, hr_, hq⟩
  clear c0 c1 c2 c3 c4 c5
  replace H := H.below hq
  replace q0 := btr q0 hq
  replace O5 := O5.below hq
  replace O6 := O6.below hq
  replace O7 := O7.below hq
  replace O8 := O8.below hq
  have HH_ := H; obtain ⟨c0, c1, c2, c3, c4, c5, _⟩ := HH_
  go_wp2_with fail
  refine (eqints_same (some ⟨g7, 0, none⟩) (some ⟨g8, 0, none⟩) m m m T _ (by omega) O7.ints (Ints.of_row hr_)).mono ?_
  rintro e w12 ⟨rfl, hq2⟩
  clear c0 c1 c2 c3 c4 c5
  replace H := H.below hq2
  replace q0 := btr q0 hq2
  replace O5 := O5.below hq2
  replace O6 := O6.below hq2
  replace O7 := O7.below hq2
  replace O8 := O8.below hq2
  clear hq hq2 hg_ hr_
  have q00 := q0.size
  have HH_ := H; obtain ⟨c0, c1, c2, c3, c4, c5, _⟩ := HH_
  go_wp2_with fail
  refine (hM _ _ A6 _ O6).mono ?_
  rintro e w13 ⟨rfl, O6x, hW⟩
  clear c0 c1 c2 c3 c4 c5
  clear O6
  replace H := hW.kc (fun e he => by simp at he; rcases he with rfl | rfl | rfl | rfl | rfl | rfl <;> (simp only; omega)) H
  replace O5 := O5.wrt hW (by omega)
  replace O7 := O7.wrt hW (by omega)
  replace O8 := O8.wrt hW (by omega)
  replace q0 := hW.below q0 (by omega)
  clear hW O6x hM
  have HH_ := H; obtain ⟨c0, c1, c2, c3, c4, c5, _⟩ := HH_
  go_wp2_with fail
  refine (markints_any _ _ (some ⟨g7, 0, none⟩) m m T K _ (by omega) (by omega) O7).mono ?_
  rintro e w14 ⟨rfl, O7x, row, hg, hr⟩
  clear c0 c1 c2 c3 c4 c5
  clear O7
  have hW := Wrt.of_grown hg hr
  clear hg hr
  replace H := hW.kc (fun e he => by simp at he; rcases he with rfl | rfl | rfl | rfl | rfl | rfl <;> (simp only; omega)) H
  replace O5 := O5.wrt hW (by omega)
  replace O8 := O8.wrt hW (by omega)
  replace q0 := hW.below q0 (by omega)
  clear hW O7x row
  have HH_ := H; obtain ⟨c0, c1, c2, c3, c4, c5, _⟩ := HH_
  go_wp2_with fail
  refine (eqlin_same (by omega) O8.ints O5.ints).mono ?_
  rintro e w15 ⟨rfl, hq⟩
  clear c0 c1 c2 c3 c4 c5
  replace H := H.below hq
  replace q0 := btr q0 hq
  replace O5 := O5.below hq
  replace O8 := O8.below hq
  clear hq
  have HH_ := H; obtain ⟨c0, c1, c2, c3, c4, c5, _⟩ := HH_
  go_wp2_with fail
  refine (marklin_any _ _ A8 R.1.1 k8 R.1.2.1 R.1.2.2.1 1 R.1.2.2.2 _ (by omega) (by omega) O8).mono ?_
  rintro e w16 ⟨rfl, O8x, row, hg, hr⟩
  clear c0 c1 c2 c3 c4 c5
  clear O8
  have hW := Wrt.of_grown hg hr
  clear hg hr
  replace H := hW.kc (fun e he => by simp at he; rcases he with rfl | rfl | rfl | rfl | rfl | rfl <;> (simp only; omega)) H
  replace O5 := O5.wrt hW (by omega)
  replace q0 := hW.below q0 (by omega)
  clear hW row
  have HH_ := H; obtain ⟨c0, c1, c2, c3, c4, c5, _⟩ := HH_
  go_wp2_with fail
  refine (heldlin_any A8 R.1.1 k8 R.1.2.2.1 1 R.1.2.2.2 _ (by omega) (by omega) O8x.ints).mono ?_
  rintro e w17 ⟨rfl, hq⟩
  clear c0 c1 c2 c3 c4 c5
  replace H := H.below hq
  replace q0 := btr q0 hq
  replace O5 := O5.below hq
  replace O8x := O8x.below hq
  clear hq
  have HH_ := H; obtain ⟨c0, c1, c2, c3, c4, c5, _⟩ := HH_
  go_wp2_with fail
  refine (hT _ q0).mono ?_
  rintro e w18 ⟨A2, rfl, O2, hq⟩
  clear c0 c1 c2 c3 c4 c5
  replace H := H.below hq
  replace q0 := btr q0 hq
  replace O5 := O5.below hq
  replace O8x := O8x.below hq
  clear hq
  have HH_ := H; obtain ⟨c0, c1, c2, c3, c4, c5, _⟩ := HH_
  go_wp2_with fail
  refine (hR _ q0).mono ?_
  rintro e w19 ⟨g3, rfl, hg_, hr_, hq⟩
  clear c0 c1 c2 c3 c4 c5
  replace H := H.below hq
  replace q0 := btr q0 hq
  replace O5 := O5.below hq
  replace O8x := O8x.below hq
  replace O2 := O2.below hq
  have O3 := NewI.ownB hg_ hr_
  clear hq hg_ hr_
  have HH_ := H; obtain ⟨c0, c1, c2, c3, c4, c5, _⟩ := HH_
  go_wp2_with fail
  refine (hI A2 n (some ⟨g3, 0, none⟩) m _ (O2.lins HN.out) O3.ints).mono ?_
  rintro e w20 ⟨v, rfl, ⟨A9, k9, rfl, _, _, hO⟩, hq⟩
  clear c0 c1 c2 c3 c4 c5
  replace H := H.below hq
  replace q0 := btr q0 hq
  replace O5 := O5.below hq
  replace O8x := O8x.below hq
  replace O2 := O2.below hq
  replace O3 := O3.below hq
  have O9 := hO.ownB
  clear hq hO O2 O3
  have N := KcL.new3 w20 (.slice A9 R.1.1 k9) (.int .i64 R.1.2.2.1) (.bool R.1.2.2.2) 26 rfl
  have al := bal (Below.refl w20.heap.size w20) (.cells #[.slice A9 R.1.1 k9, .int .i64 R.1.2.2.1, .bool R.1.2.2.2] 26)
  replace H := (H.below al).app N
  replace q0 := btr q0 al
  replace O5 := O5.below al
  replace O8x := O8x.below al
  replace O9 := O9.below al
  clear N al
  have HH_ := H; obtain ⟨c0, c1, c2, c3, c4, c5, c6, c7, c8, _⟩ := HH_
  go_wp2_with fail
  refine (eqlin_same (by omega) O9.ints O5.ints).mono ?_
  rintro e w21 ⟨rfl, hq⟩
  clear c0 c1 c2 c3 c4 c5 c6 c7 c8
  replace H := H.below hq
  replace q0 := btr q0 hq
  replace O5 := O5.below hq
  replace O8x := O8x.below hq
  replace O9 := O9.below hq
  clear hq
  have HH_ := H; obtain ⟨c0, c1, c2, c3, c4, c5, c6, c7, c8, _⟩ := HH_
  go_wp2_with fail
  refine (heldlin_any A8 R.1.1 k8 R.1.2.2.1 1 R.1.2.2.2 _ (by omega) (by omega) O8x.ints).mono ?_
  rintro e w22 ⟨rfl, hq⟩
  clear c0 c1 c2 c3 c4 c5 c6 c7 c8
  replace H := H.below hq
  replace q0 := btr q0 hq
  replace O5 := O5.below hq
  replace O8x := O8x.below hq
  replace O9 := O9.below hq
  clear hq
  go_wp2_with fail
  go_ret
  exact ⟨rfl, q0⟩
end Go.Proofs.Ytkcmoflaoamepaa
