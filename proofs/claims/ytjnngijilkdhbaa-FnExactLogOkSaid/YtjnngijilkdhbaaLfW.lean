/- Walk of the exact law of LogOk. -/
import Derived.Test.YtjnngijilkdhbaaLfC
import Derived.Test.YtjnngijilkdhbaaBT
namespace Go.Proofs.Ytjnngijilkdhbaa
set_option linter.unusedVariables false
set_option linter.unusedSimpArgs false
open Go.RowKit
theorem KcL.new2f (w : World) (x y : Value) (t : TypeId) : KcL [(w.heap.size, 0, x), (w.heap.size, 1, y)] (w.alloc (.cells #[x, y] t)) := ⟨(pair_new w x y t).1, (pair_new w x y t).2, trivial⟩
set_option maxHeartbeats 8000000 in
set_option maxRecDepth 100000 in
theorem walk_ExactLogOk (m : Int) (A : Option Addr) (n c : Nat) (L : Lls) (G : Option Addr) (K cG : Nat) (M : Lls) (w : World) (hn : n ≤ 9223372036854775807) (hA : IntSS w A n L) (hK : K ≤ 9223372036854775807) (hG : IntSS w G K M) :
    Calls Try.prog 4 #[.agg #[.int .i64 m, .slice A n c], .slice G K cG] w fun e w' => e = .returned (.bool true) ∧ Below w.heap.size w w' := by
  have H := KcL.new2f w (.int .i64 m) (.slice A n c) 28
  have q0 := bal (Below.refl w.heap.size w) (.cells #[.int .i64 m, .slice A n c] 28)
  have hS := szcnf_any A n c L m 1048576 _ hn (by omega) (hA.below q0)
  go_enter Try.func4, Try.ntmps4
  have HH_ := H; obtain ⟨c0, c1, _⟩ := HH_
  go_wp2_with fail
  refine hS.mono ?_
  rintro e w1 ⟨⟨r, rfl, hr⟩, hq⟩
  clear c0 c1
  replace H := H.below (hq)
  replace q0 := btr q0 (hq)
  clear hq hS
  by_cases hneg : r < 0
  · have d1 : decide (r < 0) = true := by simpa using hneg
    go_wp2
    go_ret
    exact ⟨rfl, q0⟩
  have d1 : decide (r < 0) = false := by simpa using hneg
  obtain ⟨r1, r2, hn1, hN⟩ := hr.resolve_left hneg
  have hn2 : n ≤ 1048576 := by omega
  have hL : ∀ k, k < n → L.N k ≤ 1048576 := fun k hk => by have := hN k hk; omega
  have hT := fun W (h : Below w.heap.size w W) => tocnf_any A n c L m W hn2 (hA.below h) hL
  have hS := szintss_any G K cG M r w1 hK ⟨r1, r2⟩ (hG.below q0)
  clear hr hneg hn1 hN
  have HH_ := H; obtain ⟨c0, c1, _⟩ := HH_
  go_wp2_with fail
  refine hS.mono ?_
  rintro e w2 ⟨⟨r', rfl, hr⟩, rfl⟩
  clear hS d1
  by_cases hneg : r' < 0
  · have d1 : decide (r' < 0) = true := by simpa using hneg
    go_wp2
    go_ret
    exact ⟨rfl, q0⟩
  have d1 : decide (r' < 0) = false := by simpa using hneg
  obtain ⟨_, _, hn1, hN'⟩ := hr.resolve_left hneg
  have hK2 : K ≤ 1048576 := by omega
  have hM : ∀ k, k < K → M.N k ≤ 1048576 := fun k hk => by have := hN' k hk; omega
  have hU := fun W (h : Below w.heap.size w W) => tointss_any G K cG M W hK2 (hG.below h) hM
  clear hr hneg hn1 hN' r1 r2
  go_wp2_with fail
  refine (hT _ q0).mono ?_
  rintro e w2 ⟨A2, rfl, hO2, hq⟩
  clear c0 c1
  replace H := H.below (hq)
  replace q0 := btr q0 (hq)
  clear hq
  go_wp2_with fail
  refine (hU _ q0).mono ?_
  rintro e w3 ⟨A3, rfl, hO3, hq⟩
  replace H := H.below (hq)
  replace q0 := btr q0 (hq)
  replace hO2 := OwnSS.below (hq) hO2
  clear hq
  go_wp2_with fail
  refine (slogok_any A2 n n L m A3 K K M w3 (by omega) (by omega) (hO2.intss hL) (hO3.intss hM)).mono ?_
  rintro e w4 ⟨rfl, hq⟩
  replace H := H.below (hq)
  replace q0 := btr q0 (hq)
  clear hq hO2 hO3
  have HH_ := H; obtain ⟨c0, c1, _⟩ := HH_
  go_wp2_with fail
  refine (hT _ q0).mono ?_
  rintro e w5 ⟨A5, rfl, hO5, hq⟩
  clear c0 c1
  replace H := H.below (hq)
  replace q0 := btr q0 (hq)
  clear hq
  have N := KcL.new2f w5 (.int .i64 m) (.slice A5 n n) 31
  have al := bal (Below.refl w5.heap.size w5) (.cells #[.int .i64 m, .slice A5 n n] 31)
  replace H := (H.below al).app N
  replace q0 := btr q0 al
  replace hO5 := OwnSS.below al hO5
  clear al N
  have HH_ := H; obtain ⟨c0, c1, c2, c3, _⟩ := HH_
  go_wp2_with fail
  refine (hU _ q0).mono ?_
  rintro e w6 ⟨A6, rfl, hO6, hq⟩
  clear c0 c1 c2 c3
  replace H := H.below (hq)
  replace q0 := btr q0 (hq)
  replace hO5 := OwnSS.below (hq) hO5
  clear hq
  have HH_ := H; obtain ⟨c0, c1, c2, c3, _⟩ := HH_
  go_wp2_with fail
  refine (logok_any A5 n n L m A6 K K M w6 (by omega) (by omega) (hO5.intss hL) (hO6.intss hM)).mono ?_
  rintro e w7 ⟨rfl, hq⟩
  clear c0 c1 c2 c3
  replace H := H.below (hq)
  replace q0 := btr q0 (hq)
  replace hO5 := OwnSS.below (hq) hO5
  replace hO6 := OwnSS.below (hq) hO6
  clear hq
  generalize lokB n L m K M = ok
  have dk : (ok != ok) = false := by simp
  have HH_ := H; obtain ⟨c0, c1, c2, c3, _⟩ := HH_
  have l0 := cell_lt c0
  have l2 := cell_lt c2
  have gc := @gro_cell w7
  go_wp2_with fail
  refine region_grow_call 2 rfl (by kernel_rfl) (by kernel_rfl) rfl ?_; simp only [List.take_succ_cons, List.take_zero]; (repeat (go_big_quiet_step (fail))); refine wpQuiet_nil ?_
  intro w8 hq
  clear gc l0 l2
  clear c0 c1 c2 c3
  refine ⟨15, #[.agg #[.int .i64 m, .slice A n c]], by kernel_rfl, ?_⟩
  refine (hT _ (btr q0 hq)).mono ?_
  rintro e w9 ⟨A9, rfl, hO9, hr⟩
  refine ⟨_, rfl, btr hq hr, ?_⟩
  replace q0 := btr q0 (btr hq hr)
  replace hO5 := OwnSS.below (btr hq hr) hO5
  replace hO6 := OwnSS.below (btr hq hr) hO6
  clear hq hr H
  go_wp2_with fail
  refine (eqcnf_same A5 A9 n n n L m _ (by omega) (hO5.intss hL) (hO9.intss hL)).mono ?_
  rintro e w10 ⟨rfl, hq⟩
  replace q0 := btr q0 hq
  replace hO6 := OwnSS.below hq hO6
  clear hq hO5 hO9
  go_wp2_with fail
  refine (hU _ q0).mono ?_
  rintro e w11 ⟨A11, rfl, hO11, hq⟩
  replace q0 := btr q0 (hq)
  replace hO6 := OwnSS.below (hq) hO6
  clear hq
  go_wp2_with fail
  refine (eqintss_same A6 A11 K K K M w11 (by omega) (hO6.intss hM) (hO11.intss hM)).mono ?_
  rintro e w12 ⟨rfl, hq⟩
  go_wp2_with fail
  go_ret
  exact ⟨rfl, btr q0 hq⟩
end Go.Proofs.Ytjnngijilkdhbaa
