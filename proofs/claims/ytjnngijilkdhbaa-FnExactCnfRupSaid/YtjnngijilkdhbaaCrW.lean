/- Walk of the exact law of CnfRup. -/
import Derived.Test.YtjnngijilkdhbaaCuR
namespace Go.Proofs.Ytjnngijilkdhbaa
set_option linter.unusedVariables false
set_option linter.unusedSimpArgs false
open Go.RowKit
set_option maxHeartbeats 8000000 in
set_option maxRecDepth 100000 in
theorem walk_ExactCnfRup (m : Int) (A : Option Addr) (n c : Nat) (L : Lls) (B : Option Addr) (N cB : Nat) (V : Nat → Int) (w : World) (hn : n ≤ 9223372036854775807) (hA : IntSS w A n L) (hN0 : N ≤ 9223372036854775807) (hB : Ints w B N V) :
    Calls Try.prog 7 #[.agg #[.int .i64 m, .slice A n c], .slice B N cB] w fun e w' => e = .returned (.bool true) ∧ Below w.heap.size w w' := by
  have q0 := bal (Below.refl w.heap.size w) (.cells #[.int .i64 m, .slice A n c] 28)
  by_cases hb2 : 1048576 < N
  · go_enter Try.func7, Try.ntmps7
    go_wp2
    go_ret
    exact ⟨rfl, q0⟩
  have hN2 : N ≤ 1048576 := by omega
  obtain ⟨x0, x1⟩ := pair_new w (.int .i64 m) (.slice A n c) 28
  have hS := szcnf_any A n c L m 1048576 _ hn (by omega) (hA.below q0)
  have hU := fun W (h : Below w.heap.size w W) => toints_any B N cB V W hN2 (hB.below h)
  go_enter Try.func7, Try.ntmps7
  go_upto_region 3 with fail
  generalize w.alloc (.cells #[.int .i64 m, .slice A n c] 28) = w0 at *
  go_wp2_with fail
  refine (hS).mono ?_
  rintro e w1 ⟨⟨r, rfl, hr⟩, hq⟩
  have z1 := hq.size
  replace q0 := btr q0 (hq)
  replace x0 := carry (hq) x0
  replace x1 := carry (hq) x1
  clear hq hS
  by_cases hneg : r < 0
  · have d1 : decide (r < 0) = true := by simpa using hneg
    go_wp2
    go_ret
    exact ⟨rfl, q0⟩
  have d1 : decide (r < 0) = false := by simpa using hneg
  obtain ⟨_, _, hn1, hN⟩ := hr.resolve_left hneg
  have hn2 : n ≤ 1048576 := by omega
  have hL : ∀ k, k < n → L.N k ≤ 1048576 := fun k hk => by have := hN k hk; omega
  have hT := fun W (h : Below w.heap.size w W) => tocnf_any A n c L m W hn2 (hA.below h) hL
  have hP := fun A' B' W h1 h2 => scnfrup_any A' n n L m B' N N V W (by omega) h1 (by omega) h2
  have hI := fun A' B' W h1 h2 => cnfrup_any A' n n L m B' N N V W (by omega) h1 (by omega) h2
  have HL := hid hL
  clear hr hneg hn1 hN hA hB hb2 d1 hL
  generalize rupB n L m N V = ok at *
  have dk : (ok != ok) = false := by simp
  go_wp2_with fail
  refine (hT _ q0).mono ?_
  rintro e w2 ⟨A2, rfl, hO2, hq⟩
  have z2 := hq.size
  replace q0 := btr q0 (hq)
  replace x0 := carry (hq) x0
  replace x1 := carry (hq) x1
  have O2 := hO2.intss HL.out
  clear hq hO2
  go_wp2_with fail
  refine (hU _ q0).mono ?_
  rintro e w3 ⟨g3, rfl, _, hr3, hq⟩
  have z3 := hq.size
  replace q0 := btr q0 (hq)
  replace x0 := carry (hq) x0
  replace x1 := carry (hq) x1
  replace O2 := O2.below (hq)
  clear hq
  go_wp2_with fail
  refine (hP _ _ w3 O2 (Ints.of_row hr3)).mono ?_
  rintro e w4 ⟨rfl, hq⟩
  have z4 := hq.size
  replace q0 := btr q0 (hq)
  replace x0 := carry (hq) x0
  replace x1 := carry (hq) x1
  replace O2 := O2.below (hq)
  clear hq hr3 hP
  clear O2
  go_wp2_with fail
  refine (hT _ q0).mono ?_
  rintro e w5 ⟨A5, rfl, hO5, hq⟩
  have z5 := hq.size
  replace q0 := btr q0 (hq)
  replace x0 := carry (hq) x0
  replace x1 := carry (hq) x1
  have O5 := hO5.intss HL.out
  clear hq hO5
  have b0 := (pair_new w5 (.int .i64 m) (.slice A5 n n) 31).1
  have b1 := (pair_new w5 (.int .i64 m) (.slice A5 n n) 31).2
  have hq := bal (Below.refl w5.heap.size w5) (.cells #[.int .i64 m, .slice A5 n n] 31)
  replace q0 := btr q0 (hq)
  replace x0 := carry (hq) x0
  replace x1 := carry (hq) x1
  replace O5 := O5.below (hq)
  clear hq
  go_upto_region 9 with fail
  obtain ⟨wb, hwb⟩ : ∃ wb, wb = w5.alloc (.cells #[.int .i64 m, .slice A5 n n] 31) := ⟨_, rfl⟩
  rw [← hwb] at x0 x1 O5 b0 b1 q0 ⊢
  clear hwb
  go_wp2_with fail
  refine (hU _ q0).mono ?_
  rintro e w6 ⟨g6, rfl, hg6, hr6, hq⟩
  have z6 := hq.size
  replace q0 := btr q0 (hq)
  replace x0 := carry (hq) x0
  replace x1 := carry (hq) x1
  replace O5 := O5.below (hq)
  replace b0 := carry (hq) b0
  replace b1 := carry (hq) b1
  have O6 := Ints.of_row hr6
  clear hq hr6 hg6
  go_wp2_with fail
  refine (hI _ _ w6 O5 O6).mono ?_
  rintro e w7 ⟨rfl, hq⟩
  have z7 := hq.size
  replace q0 := btr q0 (hq)
  replace x0 := carry (hq) x0
  replace x1 := carry (hq) x1
  replace O5 := O5.below (hq)
  replace b0 := carry (hq) b0
  replace b1 := carry (hq) b1
  replace O6 := O6.below (hq)
  clear hq
  have l0 := cell_lt x0
  have l1 := cell_lt b0
  have gc := @gro_cell w7
  go_wp2_with fail
  refine region_grow_call 2 rfl (by kernel_rfl) (by kernel_rfl) rfl ?_; simp only [List.take_succ_cons, List.take_zero]; (repeat (go_big_quiet_step (fail))); refine wpQuiet_nil ?_
  intro w8 hq
  clear gc l0 l1
  refine ⟨15, #[.agg #[.int .i64 m, .slice A n c]], by kernel_rfl, ?_⟩
  refine (hT _ (btr q0 hq)).mono ?_
  rintro e w9 ⟨A9, rfl, hO9, hr⟩
  refine ⟨_, rfl, btr hq hr, ?_⟩
  have z9 := (btr hq hr).size
  replace q0 := btr q0 (btr hq hr)
  replace x0 := carry (btr hq hr) x0
  replace x1 := carry (btr hq hr) x1
  replace O5 := O5.below (btr hq hr)
  replace b0 := carry (btr hq hr) b0
  replace b1 := carry (btr hq hr) b1
  replace O6 := O6.below (btr hq hr)
  have O9 := hO9.intss HL.out
  clear hq hr hO9
  go_wp2_with fail
  refine (eqcnf_same A5 A9 n n n L m w9 (by omega) O5 O9).mono ?_
  rintro e w10 ⟨rfl, hq⟩
  have z10 := hq.size
  replace q0 := btr q0 (hq)
  replace x0 := carry (hq) x0
  replace x1 := carry (hq) x1
  replace O5 := O5.below (hq)
  replace b0 := carry (hq) b0
  replace b1 := carry (hq) b1
  replace O6 := O6.below (hq)
  replace O9 := O9.below (hq)
  clear hq
  clear O9 O5 b0 b1
  go_wp2_with fail
  refine (hU _ q0).mono ?_
  rintro e w11 ⟨g11, rfl, _, hr11, hq⟩
  have z11 := hq.size
  replace q0 := btr q0 (hq)
  replace x0 := carry (hq) x0
  replace x1 := carry (hq) x1
  replace O6 := O6.below (hq)
  have I11 := Ints.of_row hr11
  clear hq hr11
  go_wp2_with fail
  refine (eqints_same (by omega) O6 I11).mono ?_
  rintro e w12 ⟨rfl, hq⟩
  have z12 := hq.size
  replace q0 := btr q0 (hq)
  replace x0 := carry (hq) x0
  replace x1 := carry (hq) x1
  replace O6 := O6.below (hq)
  replace I11 := I11.below (hq)
  clear hq
  go_wp2_with fail
  go_ret
  exact ⟨rfl, q0⟩
end Go.Proofs.Ytjnngijilkdhbaa
