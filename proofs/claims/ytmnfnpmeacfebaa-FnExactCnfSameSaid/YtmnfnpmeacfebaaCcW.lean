/- Walk of the exact law of CnfOk. -/
import Derived.Test.YtmnfnpmeacfebaaCcC
import Derived.Test.YtmnfnpmeacfebaaBT
namespace Go.Proofs.Ytmnfnpmeacfebaa
set_option linter.unusedVariables false
set_option linter.unusedSimpArgs false
open Go.RowKit
theorem KcL.new2c (w : World) (x y : Value) (t : TypeId) : KcL [(w.heap.size, 0, x), (w.heap.size, 1, y)] (w.alloc (.cells #[x, y] t)) := ⟨(pair_new w x y t).1, (pair_new w x y t).2, trivial⟩
set_option maxHeartbeats 4000000 in
set_option maxRecDepth 100000 in
theorem walk_ExactCnfOk (m : Int) (A : Option Addr) (n c : Nat) (L : Lls) (w : World) (hn : n ≤ 9223372036854775807) (hA : IntSS w A n L) :
    Calls Try.prog 6 #[.agg #[.int .i64 m, .slice A n c]] w fun e w' => e = .returned (.bool true) ∧ Below w.heap.size w w' := by
  have H := KcL.new2c w (.int .i64 m) (.slice A n c) 36
  have q0 := bal (Below.refl w.heap.size w) (.cells #[.int .i64 m, .slice A n c] 36)
  have hS := szcnf_any A n c L m 1048576 _ hn (by omega) (hA.below q0)
  go_enter Try.func6, Try.ntmps6
  have HH_ := H; obtain ⟨c0, c1, _⟩ := HH_
  go_wp2_with fail
  refine hS.mono ?_
  rintro e w1 ⟨⟨r, rfl, hr⟩, hq⟩
  clear c0 c1
  replace H := H.below (hq)
  replace q0 := btr q0 (hq)
  clear hq hS
  by_cases hneg : r < 0
  · have d1 : decide (r < 0) = true := by simpa using hneg
    go_wp2
    go_ret
    exact ⟨rfl, q0⟩
  have d1 : decide (r < 0) = false := by simpa using hneg
  obtain ⟨_, _, hn1, hN⟩ := hr.resolve_left hneg
  have hn2 : n ≤ 1048576 := by omega
  have hT := fun W (h : Below w.heap.size w W) => tocnf_any A n c L m W hn2 (hA.below h) (fun k hk => by have := hN k hk; omega)
  clear hr hneg hn1
  have HH_ := H; obtain ⟨c0, c1, _⟩ := HH_
  go_wp2_with fail
  refine (hT _ q0).mono ?_
  rintro e w2 ⟨A2, rfl, hO2, hq⟩
  clear c0 c1
  replace H := H.below (hq)
  replace q0 := btr q0 (hq)
  clear hq
  have HH_ := H; obtain ⟨c0, c1, _⟩ := HH_
  go_wp2_with fail
  refine (scnfok_any A2 n n L m w2 (by omega) (hO2.intss (fun k hk => by have := hN k hk; omega))).mono ?_
  rintro e w3 ⟨rfl, hq⟩
  clear c0 c1
  replace H := H.below (hq)
  replace q0 := btr q0 (hq)
  clear hq
  clear hO2
  have HH_ := H; obtain ⟨c0, c1, _⟩ := HH_
  go_wp2_with fail
  refine (hT _ q0).mono ?_
  rintro e w4 ⟨A4, rfl, hO4, hq⟩
  clear c0 c1
  replace H := H.below (hq)
  replace q0 := btr q0 (hq)
  clear hq
  have N := KcL.new2c w4 (.int .i64 m) (.slice A4 n n) 39
  have al := bal (Below.refl w4.heap.size w4) (.cells #[.int .i64 m, .slice A4 n n] 39)
  replace H := (H.below al).app N
  replace q0 := btr q0 al
  replace hO4 := OwnSS.below al hO4
  clear al N
  have HH_ := H; obtain ⟨c0, c1, c2, c3, _⟩ := HH_
  go_wp2_with fail
  refine (cnfok_any A4 n n L m _ (by omega) (hO4.intss (fun k hk => by have := hN k hk; omega))).mono ?_
  rintro e w5 ⟨rfl, hq⟩
  clear c0 c1 c2 c3
  replace H := H.below (hq)
  replace q0 := btr q0 (hq)
  replace hO4 := OwnSS.below (hq) hO4
  clear hq
  generalize cnB n L m = ok
  have dk : (ok != ok) = false := by simp
  have HH_ := H; obtain ⟨c0, c1, c2, c3, _⟩ := HH_
  have l0 := cell_lt c0
  have l2 := cell_lt c2
  have gc := @gro_cell w5
  go_wp2_with fail
  refine region_grow_call 2 rfl (by kernel_rfl) (by kernel_rfl) rfl ?_; simp only [List.take_succ_cons, List.take_zero]; (repeat (go_big_quiet_step (fail))); refine wpQuiet_nil ?_
  intro w6 hq
  clear gc l0 l2
  clear c0 c1 c2 c3
  refine ⟨23, #[.agg #[.int .i64 m, .slice A n c]], by kernel_rfl, ?_⟩
  refine (hT _ (btr q0 hq)).mono ?_
  rintro e w7 ⟨A7, rfl, hO7, hr⟩
  refine ⟨_, rfl, btr hq hr, ?_⟩
  replace H := H.below (btr hq hr)
  replace q0 := btr q0 (btr hq hr)
  replace hO4 := OwnSS.below (btr hq hr) hO4
  clear hq hr
  go_wp2_with fail
  refine (eqcnf_same A4 A7 n n n L m _ (by omega) (hO4.intss (fun k hk => by have := hN k hk; omega)) (hO7.intss (fun k hk => by have := hN k hk; omega))).mono ?_
  rintro e w8 ⟨rfl, hq⟩
  go_wp2_with fail
  go_ret
  exact ⟨rfl, btr q0 hq⟩
end Go.Proofs.Ytmnfnpmeacfebaa
