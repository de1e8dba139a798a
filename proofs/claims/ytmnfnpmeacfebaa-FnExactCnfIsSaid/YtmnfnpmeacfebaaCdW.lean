/- Walk of the exact law of CnfIs. -/
import Derived.Test.YtmnfnpmeacfebaaCdA
import Derived.Test.YtmnfnpmeacfebaaCcW
namespace Go.Proofs.Ytmnfnpmeacfebaa
set_option linter.unusedVariables false
set_option linter.unusedSimpArgs false
open Go.RowKit
set_option maxHeartbeats 4000000 in
set_option maxRecDepth 100000 in
theorem walk_ExactCnfIs (m : Int) (A : Option Addr) (n c : Nat) (L : Lls) (B : Option Addr) (N cB : Nat) (V : Nat → Bool) (w : World) (hn : n ≤ 9223372036854775807) (hA : IntSS w A n L) (hN0 : N ≤ 9223372036854775807) (hB : Bools w B N V) :
    Calls Try.prog 7 #[.agg #[.int .i64 m, .slice A n c], .slice B N cB] w fun e w' => e = .returned (.bool true) ∧ Below w.heap.size w w' := by
  have q0 := bal (Below.refl w.heap.size w) (.cells #[.int .i64 m, .slice A n c] 36)
  by_cases hb2 : 1048576 < N
  · go_enter Try.func7, Try.ntmps7
    go_wp2
    go_ret
    exact ⟨rfl, q0⟩
  have hN2 : N ≤ 1048576 := by omega
  have H := KcL.new2c w (.int .i64 m) (.slice A n c) 36
  have hS := szcnf_any A n c L m 1048576 _ hn (by omega) (hA.below q0)
  have hU := fun W (h : Below w.heap.size w W) => tobools_any B N cB V W hN2 (hB.below h)
  go_enter Try.func7, Try.ntmps7
  have HH_ := H; obtain ⟨c0, c1, _⟩ := HH_
  go_wp2_with fail
  refine hS.mono ?_
  rintro e w1 ⟨⟨r, rfl, hr⟩, hq⟩
  clear c0 c1
  replace H := H.below (hq)
  replace q0 := btr q0 (hq)
  clear hq hS
  by_cases hneg : r < 0
  · have d1 : decide (r < 0) = true := by simpa using hneg
    go_wp2
    go_ret
    exact ⟨rfl, q0⟩
  have d1 : decide (r < 0) = false := by simpa using hneg
  obtain ⟨_, _, hn1, hN⟩ := hr.resolve_left hneg
  have hn2 : n ≤ 1048576 := by omega
  have hT := fun W (h : Below w.heap.size w W) => tocnf_any A n c L m W hn2 (hA.below h) (fun k hk => by have := hN k hk; omega)
  clear hr hneg hn1
  have HH_ := H; obtain ⟨c0, c1, _⟩ := HH_
  go_wp2_with fail
  refine (hT _ q0).mono ?_
  rintro e w2 ⟨A2, rfl, hO2, hq⟩
  clear c0 c1
  replace H := H.below (hq)
  replace q0 := btr q0 (hq)
  clear hq
  have HH_ := H; obtain ⟨c0, c1, _⟩ := HH_
  go_wp2_with fail
  refine (hU _ q0).mono ?_
  rintro e w3 ⟨g3, rfl, _, hr3, hq⟩
  clear c0 c1
  replace H := H.below (hq)
  replace q0 := btr q0 (hq)
  replace hO2 := OwnSS.below (hq) hO2
  clear hq
  have hB3 := Bools.of_row hr3
  clear hr3
  have HH_ := H; obtain ⟨c0, c1, _⟩ := HH_
  go_wp2_with fail
  refine (scnfis_any A2 _ n n N N L V m w3 (by omega) (by omega) (hO2.intss (fun k hk => by have := hN k hk; omega)) hB3).mono ?_
  rintro e w4 ⟨rfl, hq⟩
  clear c0 c1
  replace H := H.below (hq)
  replace q0 := btr q0 (hq)
  clear hq
  clear hO2 hB3
  have HH_ := H; obtain ⟨c0, c1, _⟩ := HH_
  go_wp2_with fail
  refine (hT _ q0).mono ?_
  rintro e w5 ⟨A5, rfl, hO5, hq⟩
  clear c0 c1
  replace H := H.below (hq)
  replace q0 := btr q0 (hq)
  clear hq
  have N := KcL.new2c w5 (.int .i64 m) (.slice A5 n n) 39
  have al := bal (Below.refl w5.heap.size w5) (.cells #[.int .i64 m, .slice A5 n n] 39)
  replace H := (H.below al).app N
  replace q0 := btr q0 al
  replace hO5 := OwnSS.below al hO5
  clear al N
  have HH_ := H; obtain ⟨c0, c1, c2, c3, _⟩ := HH_
  go_wp2_with fail
  refine (hU _ q0).mono ?_
  rintro e w6 ⟨g6, rfl, _, hr6, hq⟩
  clear c0 c1 c2 c3
  replace H := H.below (hq)
  replace q0 := btr q0 (hq)
  replace hO5 := OwnSS.below (hq) hO5
  clear hq
  have hB6 := Bools.of_row hr6
  clear hr6
  have HH_ := H; obtain ⟨c0, c1, c2, c3, _⟩ := HH_
  go_wp2_with fail
  refine (cnfis_any A5 _ n n N N L V m _ (by omega) (by omega) (hO5.intss (fun k hk => by have := hN k hk; omega)) hB6).mono ?_
  rintro e w7 ⟨rfl, hq⟩
  clear c0 c1 c2 c3
  replace H := H.below (hq)
  replace q0 := btr q0 (hq)
  replace hO5 := OwnSS.below (hq) hO5
  replace hB6 := Bools.below hB6 (hq)
  clear hq
  generalize ciB n L m N V = ok
  have dk : (ok != ok) = false := by simp
  have HH_ := H; obtain ⟨c0, c1, c2, c3, _⟩ := HH_
  have l0 := cell_lt c0
  have l2 := cell_lt c2
  have gc := @gro_cell w7
  go_wp2_with fail
  refine region_grow_call 2 rfl (by kernel_rfl) (by kernel_rfl) rfl ?_; simp only [List.take_succ_cons, List.take_zero]; (repeat (go_big_quiet_step (fail))); refine wpQuiet_nil ?_
  intro w8 hq
  clear gc l0 l2
  clear c0 c1 c2 c3
  refine ⟨23, #[.agg #[.int .i64 m, .slice A n c]], by kernel_rfl, ?_⟩
  refine (hT _ (btr q0 hq)).mono ?_
  rintro e w9 ⟨A9, rfl, hO9, hr⟩
  refine ⟨_, rfl, btr hq hr, ?_⟩
  replace H := H.below (btr hq hr)
  replace q0 := btr q0 (btr hq hr)
  replace hO5 := OwnSS.below (btr hq hr) hO5
  replace hB6 := Bools.below hB6 (btr hq hr)
  clear hq hr
  go_wp2_with fail
  refine (eqcnf_same A5 A9 n n n L m _ (by omega) (hO5.intss (fun k hk => by have := hN k hk; omega)) (hO9.intss (fun k hk => by have := hN k hk; omega))).mono ?_
  rintro e w10 ⟨rfl, hq⟩
  replace H := H.below (hq)
  replace q0 := btr q0 (hq)
  replace hO5 := OwnSS.below (hq) hO5
  replace hB6 := Bools.below hB6 (hq)
  replace hO9 := OwnSS.below (hq) hO9
  clear hq hO5 hO9
  have HH_ := H; obtain ⟨c0, c1, c2, c3, _⟩ := HH_
  go_wp2_with fail
  refine (hU _ q0).mono ?_
  rintro e w11 ⟨g11, rfl, _, hr11, hq⟩
  clear c0 c1 c2 c3
  replace H := H.below (hq)
  replace q0 := btr q0 (hq)
  replace hB6 := Bools.below hB6 (hq)
  clear hq
  have hB11 := Bools.of_row hr11
  have HH_ := H; obtain ⟨c0, c1, c2, c3, _⟩ := HH_
  go_wp2_with fail
  refine (eqbools_same _ _ N N N V _ (by omega) hB6 hB11).mono ?_
  rintro e w12 ⟨rfl, hq⟩
  go_wp2_with fail
  go_ret
  exact ⟨rfl, btr q0 hq⟩
end Go.Proofs.Ytmnfnpmeacfebaa
