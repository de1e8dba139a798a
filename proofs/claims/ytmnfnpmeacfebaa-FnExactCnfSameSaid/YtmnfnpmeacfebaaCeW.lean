/- Walk of the exact law of CnfSame. -/
import Derived.Test.YtmnfnpmeacfebaaCeA
import Derived.Test.YtmnfnpmeacfebaaCcW
import Derived.Test.YtmnfnpmeacfebaaBT
namespace Go.Proofs.Ytmnfnpmeacfebaa
set_option linter.unusedVariables false
set_option linter.unusedSimpArgs false
open Go.RowKit
set_option maxHeartbeats 4000000 in
set_option maxRecDepth 100000 in
theorem walk_ExactCnfSame (m : Int) (A : Option Addr) (n c : Nat) (L : Lls) (m' : Int) (A' : Option Addr) (n' c' : Nat) (L' : Lls) (w : World) (hn : n ≤ 9223372036854775807) (hA : IntSS w A n L) (hn' : n' ≤ 9223372036854775807) (hA' : IntSS w A' n' L') :
    Calls Try.prog 8 #[.agg #[.int .i64 m, .slice A n c], .agg #[.int .i64 m', .slice A' n' c']] w fun e w' => e = .returned (.bool true) ∧ Below w.heap.size w w' := by
  have q0 := bal (bal (Below.refl w.heap.size w) (.cells #[.int .i64 m, .slice A n c] 36)) (.cells #[.int .i64 m', .slice A' n' c'] 36)
  obtain ⟨b0, b1⟩ := pair_new w (.int .i64 m) (.slice A n c) 36
  obtain ⟨b2, b3⟩ := pair_new (w.alloc (.cells #[.int .i64 m, .slice A n c] 36)) (.int .i64 m') (.slice A' n' c') 36
  replace b0 := carryA (.cells #[.int .i64 m', .slice A' n' c'] 36) b0
  replace b1 := carryA (.cells #[.int .i64 m', .slice A' n' c'] 36) b1
  rw [World.size_alloc] at b2 b3
  have H : KcL [(w.heap.size, 0, .int .i64 m), (w.heap.size, 1, .slice A n c), (w.heap.size + 1, 0, .int .i64 m'), (w.heap.size + 1, 1, .slice A' n' c')] ((w.alloc (.cells #[.int .i64 m, .slice A n c] 36)).alloc (.cells #[.int .i64 m', .slice A' n' c'] 36)) := ⟨b0, b1, b2, b3, trivial⟩
  have hS := szcnf_any A n c L m 1048576 _ hn (by omega) (hA.below q0)
  clear b0 b1 b2 b3
  go_enter Try.func8, Try.ntmps8
  have HH_ := H; obtain ⟨c0, c1, c2, c3, _⟩ := HH_
  go_wp2_with fail
  refine hS.mono ?_
  rintro e w1 ⟨⟨r, rfl, hr⟩, hq⟩
  clear c0 c1 c2 c3
  replace H := H.below (hq)
  replace q0 := btr q0 (hq)
  clear hq hS
  by_cases hneg : r < 0
  · have d1 : decide (r < 0) = true := by simpa using hneg
    go_wp2
    go_ret
    exact ⟨rfl, q0⟩
  have d1 : decide (r < 0) = false := by simpa using hneg
  obtain ⟨r1, r2, hn1, hN⟩ := hr.resolve_left hneg
  have hn2 : n ≤ 1048576 := by omega
  have hT := fun W (h : Below w.heap.size w W) => tocnf_any A n c L m W hn2 (hA.below h) (fun k hk => by have := hN k hk; omega)
  have hS := szcnf_any A' n' c' L' m' r w1 hn' ⟨r1, r2⟩ (hA'.below q0)
  clear hr hneg hn1
  have HH_ := H; obtain ⟨c0, c1, c2, c3, _⟩ := HH_
  go_wp2_with fail
  refine hS.mono ?_
  rintro e w2 ⟨⟨r', rfl, hr⟩, hq⟩
  clear c0 c1 c2 c3
  replace H := H.below (hq)
  replace q0 := btr q0 (hq)
  clear hq hS d1
  by_cases hneg : r' < 0
  · have d1 : decide (r' < 0) = true := by simpa using hneg
    go_wp2
    go_ret
    exact ⟨rfl, q0⟩
  have d1 : decide (r' < 0) = false := by simpa using hneg
  obtain ⟨_, _, hn1, hN'⟩ := hr.resolve_left hneg
  have hn3 : n' ≤ 1048576 := by omega
  have hT' := fun W (h : Below w.heap.size w W) => tocnf_any A' n' c' L' m' W hn3 (hA'.below h) (fun k hk => by have := hN' k hk; omega)
  have hL : ∀ k, k < n → L.N k ≤ 1048576 := fun k hk => by have := hN k hk; omega
  have hL' : ∀ k, k < n' → L'.N k ≤ 1048576 := fun k hk => by have := hN' k hk; omega
  clear hr hneg hn1 hN hN' r1 r2
  have HH_ := H; obtain ⟨c0, c1, c2, c3, _⟩ := HH_
  have l0 := cell_lt c0
  have l2 := cell_lt c2
  have gc := @gro_cell w2
  go_wp2_with fail
  refine region_grow_pcall [0, 2] 1 3 rfl (by kernel_rfl) (by kernel_rfl) rfl ?_; simp only [pickOps, List.getElem?_cons_zero, List.getElem?_cons_succ, List.drop_succ_cons, List.drop_zero]; (repeat (go_big_quiet_step (fail))); refine wpQuiet_nil ?_
  intro w3 hq
  clear gc l0 l2
  clear c0 c1 c2 c3
  refine ⟨23, #[.agg #[.int .i64 m, .slice A n c]], by kernel_rfl, ?_⟩
  refine (hT _ (btr q0 hq)).mono ?_
  rintro e w4 ⟨A4, rfl, hO4, hr⟩
  refine ⟨_, rfl, btr hq hr, ?_⟩
  replace H := H.below (btr hq hr)
  replace q0 := btr q0 (btr hq hr)
  clear hq hr
  go_wp2_with fail
  refine (hT' _ q0).mono ?_
  rintro e w5 ⟨A5, rfl, hO5, hq⟩
  replace H := H.below (hq)
  replace q0 := btr q0 (hq)
  replace hO4 := OwnSS.below (hq) hO4
  clear hq
  have HH_ := H; obtain ⟨c0, c1, c2, c3, _⟩ := HH_
  go_wp2_with fail
  refine (scnfsame_any A4 A5 n n n' n' L L' m m' w5 (by omega) (by omega) (hO4.intss hL) (hO5.intss hL')).mono ?_
  rintro e w6 ⟨rfl, hq⟩
  clear c0 c1 c2 c3
  replace H := H.below (hq)
  replace q0 := btr q0 (hq)
  clear hq
  clear hO4 hO5
  have HH_ := H; obtain ⟨c0, c1, c2, c3, _⟩ := HH_
  go_wp2_with fail
  refine (hT _ q0).mono ?_
  rintro e w7 ⟨A7, rfl, hO7, hq⟩
  clear c0 c1 c2 c3
  replace H := H.below (hq)
  replace q0 := btr q0 (hq)
  clear hq
  have N := KcL.new2c w7 (.int .i64 m) (.slice A7 n n) 39
  have al := bal (Below.refl w7.heap.size w7) (.cells #[.int .i64 m, .slice A7 n n] 39)
  replace H := (H.below al).app N
  replace q0 := btr q0 al
  replace hO7 := OwnSS.below al hO7
  clear al N
  have HH_ := H; obtain ⟨c0, c1, c2, c3, c4, c5, _⟩ := HH_
  go_wp2_with fail
  refine (hT' _ q0).mono ?_
  rintro e w8 ⟨A8, rfl, hO8, hq⟩
  clear c0 c1 c2 c3 c4 c5
  replace H := H.below (hq)
  replace q0 := btr q0 (hq)
  replace hO7 := OwnSS.below (hq) hO7
  clear hq
  have N := KcL.new2c w8 (.int .i64 m') (.slice A8 n' n') 39
  have al := bal (Below.refl w8.heap.size w8) (.cells #[.int .i64 m', .slice A8 n' n'] 39)
  replace H := (H.below al).app N
  replace q0 := btr q0 al
  replace hO7 := OwnSS.below al hO7
  replace hO8 := OwnSS.below al hO8
  clear al N
  have HH_ := H; obtain ⟨c0, c1, c2, c3, c4, c5, c6, c7, _⟩ := HH_
  go_wp2_with fail
  refine (cnfsame_any A7 A8 n n n' n' L L' m m' _ (by omega) (by omega) (hO7.intss hL) (hO8.intss hL')).mono ?_
  rintro e w9 ⟨rfl, hq⟩
  clear c0 c1 c2 c3 c4 c5 c6 c7
  replace H := H.below (hq)
  replace q0 := btr q0 (hq)
  replace hO7 := OwnSS.below (hq) hO7
  replace hO8 := OwnSS.below (hq) hO8
  clear hq
  generalize csB n L m n' L' m' = ok
  have dk : (ok != ok) = false := by simp
  have HH_ := H; obtain ⟨c0, c1, c2, c3, c4, c5, c6, c7, _⟩ := HH_
  have l0 := cell_lt c0
  have l2 := cell_lt c2
  have l4 := cell_lt c4
  have l6 := cell_lt c6
  have gc := @gro_cell w9
  go_wp2_with fail
  refine region_grow_call 2 rfl (by kernel_rfl) (by kernel_rfl) rfl ?_; simp only [List.take_succ_cons, List.take_zero]; (repeat (go_big_quiet_step (fail))); refine wpQuiet_nil ?_
  intro w10 hq
  clear gc l0 l2 l4 l6
  clear c0 c1 c2 c3 c4 c5 c6 c7
  refine ⟨23, #[.agg #[.int .i64 m, .slice A n c]], by kernel_rfl, ?_⟩
  refine (hT _ (btr q0 hq)).mono ?_
  rintro e w11 ⟨A11, rfl, hO11, hr⟩
  refine ⟨_, rfl, btr hq hr, ?_⟩
  replace H := H.below (btr hq hr)
  replace q0 := btr q0 (btr hq hr)
  replace hO7 := OwnSS.below (btr hq hr) hO7
  replace hO8 := OwnSS.below (btr hq hr) hO8
  clear hq hr
  go_wp2_with fail
  refine (eqcnf_same A7 A11 n n n L m _ (by omega) (hO7.intss hL) (hO11.intss hL)).mono ?_
  rintro e w12 ⟨rfl, hq⟩
  replace H := H.below (hq)
  replace q0 := btr q0 (hq)
  replace hO8 := OwnSS.below (hq) hO8
  clear hq hO7 hO11
  have HH_ := H; obtain ⟨c0, c1, c2, c3, c4, c5, c6, c7, _⟩ := HH_
  have l0 := cell_lt c0
  have l2 := cell_lt c2
  have l4 := cell_lt c4
  have l6 := cell_lt c6
  have gc := @gro_cell w12
  go_wp2_with fail
  refine region_grow_call 2 rfl (by kernel_rfl) (by kernel_rfl) rfl ?_; simp only [List.take_succ_cons, List.take_zero]; (repeat (go_big_quiet_step (fail))); refine wpQuiet_nil ?_
  intro w13 hq
  clear gc l0 l2 l4 l6
  clear c0 c1 c2 c3 c4 c5 c6 c7
  refine ⟨23, #[.agg #[.int .i64 m', .slice A' n' c']], by kernel_rfl, ?_⟩
  refine (hT' _ (btr q0 hq)).mono ?_
  rintro e w14 ⟨A14, rfl, hO14, hr⟩
  refine ⟨_, rfl, btr hq hr, ?_⟩
  replace H := H.below (btr hq hr)
  replace q0 := btr q0 (btr hq hr)
  replace hO8 := OwnSS.below (btr hq hr) hO8
  clear hq hr
  go_wp2_with fail
  refine (eqcnf_same A8 A14 n' n' n' L' m' _ (by omega) (hO8.intss hL') (hO14.intss hL')).mono ?_
  rintro e w15 ⟨rfl, hq⟩
  go_wp2_with fail
  go_ret
  exact ⟨rfl, btr q0 hq⟩
end Go.Proofs.Ytmnfnpmeacfebaa
