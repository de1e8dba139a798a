/- Walk of the exact law of CnfUnits. -/
import Derived.Test.YtjnngijilkdhbaaCuM
import Derived.Test.YtjnngijilkdhbaaCuN
import Derived.Test.YtjnngijilkdhbaaCfW
namespace Go.Proofs.Ytjnngijilkdhbaa
set_option linter.unusedVariables false
set_option linter.unusedSimpArgs false
open Go.RowKit
theorem IntsB.wrtU {B lo hi : Nat} {w w' : World} {A : Option Addr} {n : Nat} {Z : Nat → Int} (h : IntsB B w A n Z) (hg : Wrt lo hi w w') (hB : B ≤ lo) : IntsB B w' A n Z := by
  rcases h with h | ⟨g, off, ha, h1, hgw, hc⟩
  · exact .inl h
  · exact .inr ⟨g, off, ha, h1, Nat.lt_of_lt_of_le hgw hg.size, fun k hk => hg.cell (hc k hk) (.inl (by omega))⟩
set_option maxHeartbeats 8000000 in
set_option maxRecDepth 100000 in
theorem walk_ExactCnfUnits (m : Int) (A : Option Addr) (n c : Nat) (L : Lls) (B : Option Addr) (N cB : Nat) (V : Nat → Int) (w : World) (hn : n ≤ 9223372036854775807) (hA : IntSS w A n L) (hN0 : N ≤ 9223372036854775807) (hB : Ints w B N V) :
    Calls Try.prog 6 #[.agg #[.int .i64 m, .slice A n c], .slice B N cB] w fun e w' => e = .returned (.bool true) ∧ Below w.heap.size w w' := by
  have q0 := bal (Below.refl w.heap.size w) (.cells #[.int .i64 m, .slice A n c] 28)
  by_cases hb2 : 1048576 < N
  · go_enter Try.func6, Try.ntmps6
    go_wp2
    go_ret
    exact ⟨rfl, q0⟩
  have hN2 : N ≤ 1048576 := by omega
  obtain ⟨x0, x1⟩ := pair_new w (.int .i64 m) (.slice A n c) 28
  have z0 : (w.alloc (.cells #[.int .i64 m, .slice A n c] 28)).heap.size = w.heap.size + 1 := World.size_alloc _ _
  have hS := szcnf_any A n c L m 1048576 _ hn (by omega) (hA.below q0)
  have hU := fun W (h : Below w.heap.size w W) => toints_any B N cB V W hN2 (hB.below h)
  go_enter Try.func6, Try.ntmps6
  go_upto_region 3 with fail
  generalize w.alloc (.cells #[.int .i64 m, .slice A n c] 28) = w0 at *
  replace z0 : w.heap.size + 1 ≤ w0.heap.size := by omega
  go_wp2_with fail
  refine (hS).mono ?_
  rintro e w1 ⟨⟨r, rfl, hr⟩, hq⟩
  have z1 := hq.size
  replace q0 := btr q0 (hq)
  replace x0 := carry (hq) x0
  replace x1 := carry (hq) x1
  clear hq hS
  by_cases hneg : r < 0
  · have d1 : decide (r < 0) = true := by simpa using hneg
    go_wp2
    go_ret
    exact ⟨rfl, q0⟩
  have d1 : decide (r < 0) = false := by simpa using hneg
  obtain ⟨_, _, hn1, hN⟩ := hr.resolve_left hneg
  have hn2 : n ≤ 1048576 := by omega
  have hL : ∀ k, k < n → L.N k ≤ 1048576 := fun k hk => by have := hN k hk; omega
  have hT := fun W (h : Below w.heap.size w W) => tocnfD_any A n c L m W hn2 (hA.below h) hL
  have hP := fun A' B' W h1 h2 => scnfunits_any A' n n L m B' N N V W (by omega) h1 (by omega) (Nat.le_refl _) h2
  have hI := fun A' B' W h1 h2 => cnfunits_any A' n n L m B' N N V W (by omega) h1 (by omega) h2
  have hmk := mkI_bd 1 L n hL (by omega) n (Nat.le_refl _)
  have HL := hid hL
  clear hr hneg hn1 hN hA hB hb2 d1 hL
  go_wp2_with fail
  refine (hT _ q0).mono ?_
  rintro e w2 ⟨A2, rfl, hO2, hq⟩
  have z2 := hq.size
  replace q0 := btr q0 (hq)
  replace x0 := carry (hq) x0
  replace x1 := carry (hq) x1
  have O2 := hO2.ssb
  clear hq hO2
  go_wp2_with fail
  refine (hU _ q0).mono ?_
  rintro e w3 ⟨g3, rfl, _, hr3, hq⟩
  have z3 := hq.size
  replace q0 := btr q0 (hq)
  replace x0 := carry (hq) x0
  replace x1 := carry (hq) x1
  replace O2 := SSB.below (hq) O2
  clear hq
  go_wp2_with fail
  refine (hP _ _ w3 (O2.intss HL.out) (Ints.of_row hr3)).mono ?_
  rintro e w4 ⟨⟨l, r1, A4, c4, hu4, rfl, hO4⟩, hq⟩
  have z4 := hq.size
  replace q0 := btr q0 (hq)
  replace x0 := carry (hq) x0
  replace x1 := carry (hq) x1
  replace O2 := SSB.below (hq) O2
  have I4 := IntsB.of hO4.ints
  clear hq hO4 hr3 hP
  clear O2
  have hl60 := hu4.len
  have HU4 := hid hu4
  clear hu4
  go_wp2_with fail
  refine (hT _ q0).mono ?_
  rintro e w5 ⟨A5, rfl, hO5, hq⟩
  have z5 := hq.size
  replace q0 := btr q0 (hq)
  replace x0 := carry (hq) x0
  replace x1 := carry (hq) x1
  replace I4 := I4.below (hq)
  have O5 := hO5.ssb
  clear hq hO5
  have b0 := (pair_new w5 (.int .i64 m) (.slice A5 n n) 31).1
  have b1 := (pair_new w5 (.int .i64 m) (.slice A5 n n) 31).2
  have hq := bal (Below.refl w5.heap.size w5) (.cells #[.int .i64 m, .slice A5 n n] 31)
  replace q0 := btr q0 (hq)
  replace x0 := carry (hq) x0
  replace x1 := carry (hq) x1
  replace I4 := I4.below (hq)
  replace O5 := SSB.below (hq) O5
  have zb : (w5.alloc (.cells #[.int .i64 m, .slice A5 n n] 31)).heap.size = w5.heap.size + 1 := World.size_alloc _ _
  clear hq
  go_upto_region 9 with fail
  obtain ⟨wb, hwb⟩ : ∃ wb, wb = w5.alloc (.cells #[.int .i64 m, .slice A5 n n] 31) := ⟨_, rfl⟩
  rw [← hwb] at x0 x1 I4 O5 b0 b1 zb q0 ⊢
  clear hwb
  go_wp2_with fail
  refine (hU _ q0).mono ?_
  rintro e w6 ⟨g6, rfl, hg6, hr6, hq⟩
  have z6 := hq.size
  replace q0 := btr q0 (hq)
  replace x0 := carry (hq) x0
  replace x1 := carry (hq) x1
  replace I4 := I4.below (hq)
  replace O5 := SSB.below (hq) O5
  replace b0 := carry (hq) b0
  replace b1 := carry (hq) b1
  have O6 := (own_rowC (W := wb) hg6 hr6).ownB
  clear hq hr6 hg6
  go_wp2_with fail
  refine (hI _ _ w6 (O5.intss HL.out) O6.ints).mono ?_
  rintro e w7 ⟨⟨l', r2, A7, c7, hu7, rfl, hO7⟩, hq⟩
  have z7 := hq.size
  replace q0 := btr q0 (hq)
  replace x0 := carry (hq) x0
  replace x1 := carry (hq) x1
  replace I4 := I4.below (hq)
  replace O5 := SSB.below (hq) O5
  replace b0 := carry (hq) b0
  replace b1 := carry (hq) b1
  replace O6 := OwnB.below (hq) O6
  obtain ⟨rfl, rfl⟩ := HU4.out.det hu7
  have O7 := hO7.ownB
  clear hq hO7 hu7
  have dk : (r1 != r1) = false := by simp
  have dr : decide ((1 : Int) + l.length < 0) = false := decide_eq_false (by omega)
  have de : (((1 : Int) + l.length) != (1 + l.length)) = false := by simp
  go_wp2_with fail
  refine (eqints_same (by omega) O7.ints I4.ints).mono ?_
  rintro e w8 ⟨rfl, hq⟩
  have z8 := hq.size
  replace q0 := btr q0 (hq)
  replace x0 := carry (hq) x0
  replace x1 := carry (hq) x1
  replace I4 := I4.below (hq)
  replace O5 := SSB.below (hq) O5
  replace b0 := carry (hq) b0
  replace b1 := carry (hq) b1
  replace O6 := OwnB.below (hq) O6
  replace O7 := OwnB.below (hq) O7
  clear hq
  have l0 := cell_lt x0
  have l1 := cell_lt b0
  have gc := @gro_cell w8
  go_wp2_with fail
  refine region_grow_call 2 rfl (by kernel_rfl) (by kernel_rfl) rfl ?_; simp only [List.take_succ_cons, List.take_zero]; (repeat (go_big_quiet_step (fail))); refine wpQuiet_nil ?_
  intro w9 hq
  clear gc l0 l1
  refine ⟨15, #[.agg #[.int .i64 m, .slice A n c]], by kernel_rfl, ?_⟩
  refine (hT _ (btr q0 hq)).mono ?_
  rintro e w10 ⟨A9, rfl, hO9, hr⟩
  refine ⟨_, rfl, btr hq hr, ?_⟩
  have z10 := (btr hq hr).size
  replace q0 := btr q0 (btr hq hr)
  replace x0 := carry (btr hq hr) x0
  replace x1 := carry (btr hq hr) x1
  replace I4 := I4.below (btr hq hr)
  replace O5 := SSB.below (btr hq hr) O5
  replace b0 := carry (btr hq hr) b0
  replace b1 := carry (btr hq hr) b1
  replace O6 := OwnB.below (btr hq hr) O6
  replace O7 := OwnB.below (btr hq hr) O7
  have O9 := hO9.ssb
  clear hq hr hO9
  go_wp2_with fail
  refine (eqcnf_same A5 A9 n n n L m w10 (by omega) (O5.intss HL.out) (O9.intss HL.out)).mono ?_
  rintro e w11 ⟨rfl, hq⟩
  have z11 := hq.size
  replace q0 := btr q0 (hq)
  replace x0 := carry (hq) x0
  replace x1 := carry (hq) x1
  replace I4 := I4.below (hq)
  replace O5 := SSB.below (hq) O5
  replace b0 := carry (hq) b0
  replace b1 := carry (hq) b1
  replace O6 := OwnB.below (hq) O6
  replace O7 := OwnB.below (hq) O7
  replace O9 := SSB.below (hq) O9
  clear hq
  clear O9
  go_wp2_with fail
  refine (hU _ q0).mono ?_
  rintro e w12 ⟨g11, rfl, _, hr11, hq⟩
  have z12 := hq.size
  replace q0 := btr q0 (hq)
  replace x0 := carry (hq) x0
  replace x1 := carry (hq) x1
  replace I4 := I4.below (hq)
  replace O5 := SSB.below (hq) O5
  replace b0 := carry (hq) b0
  replace b1 := carry (hq) b1
  replace O6 := OwnB.below (hq) O6
  replace O7 := OwnB.below (hq) O7
  have I11 := IntsB.of (Ints.of_row hr11)
  clear hq hr11
  go_wp2_with fail
  refine (eqints_same (by omega) O6.ints I11.ints).mono ?_
  rintro e w13 ⟨rfl, hq⟩
  have z13 := hq.size
  replace q0 := btr q0 (hq)
  replace x0 := carry (hq) x0
  replace x1 := carry (hq) x1
  replace I4 := I4.below (hq)
  replace O5 := SSB.below (hq) O5
  replace b0 := carry (hq) b0
  replace b1 := carry (hq) b1
  replace O6 := OwnB.below (hq) O6
  replace O7 := OwnB.below (hq) O7
  replace I11 := I11.below (hq)
  clear hq
  clear I11
  go_wp2_with fail
  refine (markcnf_any _ _ A5 n n L m 1 w13 (by omega) hn2 HL.out (by omega) O5).mono ?_
  rintro e w14 ⟨rfl, hw⟩
  clear O5 b0 b1
  have z14 := hw.size
  replace q0 := hw.below q0 (by omega)
  replace x0 := hw.cell x0 (by omega)
  replace x1 := hw.cell x1 (by omega)
  replace I4 := I4.wrtU hw (by omega)
  replace O6 := O6.wrt hw (by omega)
  replace O7 := O7.wrt hw (by omega)
  clear hw
  generalize mkI 1 L n = k1 at *
  have dn : decide (k1 + (N : Int) < 0) = false := decide_eq_false (by omega)
  go_wp2_with fail
  refine (markints_any _ _ _ N N V k1 w14 hN2 (by omega) O6).mono ?_
  rintro e w15 ⟨rfl, _, row, hg, hr⟩
  clear O6
  have hw := Wrt.of_grown hg hr
  have z15 := hw.size
  replace q0 := hw.below q0 (by omega)
  replace x0 := hw.cell x0 (by omega)
  replace x1 := hw.cell x1 (by omega)
  replace I4 := I4.wrtU hw (by omega)
  replace O7 := O7.wrt hw (by omega)
  clear hw hg hr
  go_wp2_with fail
  refine (eqints_same (by omega) O7.ints I4.ints).mono ?_
  rintro e w16 ⟨rfl, hq⟩
  have z16 := hq.size
  replace q0 := btr q0 (hq)
  replace x0 := carry (hq) x0
  replace x1 := carry (hq) x1
  replace I4 := I4.below (hq)
  replace O7 := OwnB.below (hq) O7
  clear hq
  go_wp2_with fail
  refine (markints_any _ _ _ _ c7 _ 1 w16 (by omega) (by omega) O7).mono ?_
  rintro e w17 ⟨rfl, M7, row, hg, hr⟩
  clear O7
  have hw := Wrt.of_grown hg hr
  have z17 := hw.size
  replace q0 := hw.below q0 (by omega)
  replace x0 := hw.cell x0 (by omega)
  replace x1 := hw.cell x1 (by omega)
  replace I4 := I4.wrtU hw (by omega)
  clear hw hg hr
  go_wp2_with fail
  refine (heldints_any _ _ c7 1 _ (by omega) (by omega) M7.ints).mono ?_
  rintro e w18 ⟨rfl, hww⟩
  subst hww
  skip
  go_wp2_with fail
  refine (hT _ q0).mono ?_
  rintro e w19 ⟨A18, rfl, hO18, hq⟩
  have z19 := hq.size
  replace q0 := btr q0 (hq)
  replace x0 := carry (hq) x0
  replace x1 := carry (hq) x1
  replace I4 := I4.below (hq)
  replace M7 := OwnB.below (hq) M7
  have O18 := hO18.ssb
  clear hq hO18
  go_wp2_with fail
  refine (hU _ q0).mono ?_
  rintro e w20 ⟨g19, rfl, _, hr19, hq⟩
  have z20 := hq.size
  replace q0 := btr q0 (hq)
  replace x0 := carry (hq) x0
  replace x1 := carry (hq) x1
  replace I4 := I4.below (hq)
  replace M7 := OwnB.below (hq) M7
  replace O18 := SSB.below (hq) O18
  clear hq
  go_wp2_with fail
  refine (hI _ _ w20 (O18.intss HL.out) (Ints.of_row hr19)).mono ?_
  rintro e w21 ⟨⟨l', r2, A20, c20, hu20, rfl, hO20⟩, hq⟩
  have z21 := hq.size
  replace q0 := btr q0 (hq)
  replace x0 := carry (hq) x0
  replace x1 := carry (hq) x1
  replace I4 := I4.below (hq)
  replace M7 := OwnB.below (hq) M7
  replace O18 := SSB.below (hq) O18
  obtain ⟨rfl, rfl⟩ := HU4.out.det hu20
  have I20 := hO20.ints
  clear hq hu20 hO20 hr19
  clear O18
  go_wp2_with fail
  refine (eqints_same (by omega) I20 I4.ints).mono ?_
  rintro e w21 ⟨rfl, hq⟩
  replace q0 := btr q0 hq
  replace M7 := OwnB.below hq M7
  clear hq
  go_wp2_with fail
  refine (heldints_any _ _ c7 1 _ (by omega) (by omega) M7.ints).mono ?_
  rintro e w22 ⟨rfl, rfl⟩
  go_wp2_with fail
  go_ret
  exact ⟨rfl, q0⟩
end Go.Proofs.Ytjnngijilkdhbaa
