/- Walk of the exact law of AtomSame. -/
import Derived.Test.YtcnlolocppbcjaaAtD
import Derived.Test.YtcnlolocppbcjaaAtE
namespace Go.Proofs.Ytcnlolocppbcjaa
set_option linter.unusedVariables false
set_option linter.unusedSimpArgs false
open Go.RowKit
theorem box9_new (w : World) (x0 x1 x2 x3 x4 x5 x6 x7 x8 : Value) (t : TypeId) : KcL [(w.heap.size, 0, x0), (w.heap.size, 1, x1), (w.heap.size, 2, x2), (w.heap.size, 3, x3), (w.heap.size, 4, x4), (w.heap.size, 5, x5), (w.heap.size, 6, x6), (w.heap.size, 7, x7), (w.heap.size, 8, x8)] (w.alloc (.cells #[x0, x1, x2, x3, x4, x5, x6, x7, x8] t)) := by
  refine ⟨?_, ?_, ?_, ?_, ?_, ?_, ?_, ?_, ?_, trivial⟩ <;> simp [go_sem]
theorem AtF.c {x : At} (h : AtF 1048576 x) : x.a.n ≤ x.a.n ∧ x.a.n ≤ 9223372036854775807 ∧ x.b.n ≤ x.b.n ∧ x.b.n ≤ 9223372036854775807 ∧ x.m ≤ 9223372036854775807 := by
  have h1 := h.1.n; have h2 := h.2.1.n; have h3 := h.2.2.2.2
  omega
set_option maxRecDepth 100000 in
set_option maxHeartbeats 8000000 in
theorem walk_ExactAtomSame (x : At) (A1 : Option Addr) (c1 : Nat) (A2 : Option Addr) (c2 : Nat) (A3 : Option Addr) (c3 : Nat) (A4 : Option Addr) (c4 : Nat) (y : At) (B1 : Option Addr) (d1 : Nat) (B2 : Option Addr) (d2 : Nat) (B3 : Option Addr) (d3 : Nat) (B4 : Option Addr) (d4 : Nat) (w : World) (hF : AtF 9223372036854775807 x) (hA : AtK w x A1 A2 A3 A4) (hF' : AtF 9223372036854775807 y) (hA' : AtK w y B1 B2 B3 B4) :
    Calls Try.prog 9 #[.agg (x.cs A1 c1 A2 c2 A3 c3 A4 c4), .agg (y.cs B1 d1 B2 d2 B3 d3 B4 d4)] w fun e w' => e = .returned (.bool true) ∧ Below w.heap.size w w' := by
  show Calls _ _ #[.agg #[.int .i64 x.kd, .string x.a.nm, .slice A1 x.a.n c1, .string x.b.nm, .slice A2 x.b.n c2, .slice A3 x.n c3, .slice A4 x.m c4, .int .i64 x.bd, .bool x.st], .agg #[.int .i64 y.kd, .string y.a.nm, .slice B1 y.a.n d1, .string y.b.nm, .slice B2 y.b.n d2, .slice B3 y.n d3, .slice B4 y.m d4, .int .i64 y.bd, .bool y.st]] w _
  have hS := hid (fun W (h : Below w.heap.size w W) => (show Calls Try.prog 46 #[.agg #[.int .i64 x.kd, .string x.a.nm, .slice A1 x.a.n c1, .string x.b.nm, .slice A2 x.b.n c2, .slice A3 x.n c3, .slice A4 x.m c4, .int .i64 x.bd, .bool x.st], .int .i64 1048576] W (SzA W x 1048576) from szatom_any x hF A1 c1 A2 c2 A3 c3 A4 c4 1048576 W (by omega) (hA.below h)))
  have hS2 := hid (fun W (r : Int) (hr : 0 ≤ r ∧ r ≤ 1048576) (h : Below w.heap.size w W) => (show Calls Try.prog 46 #[.agg #[.int .i64 y.kd, .string y.a.nm, .slice B1 y.a.n d1, .string y.b.nm, .slice B2 y.b.n d2, .slice B3 y.n d3, .slice B4 y.m d4, .int .i64 y.bd, .bool y.st], .int .i64 r] W (SzA W y r) from szatom_any y hF' B1 d1 B2 d2 B3 d3 B4 d4 r W hr (hA'.below h)))
  have H : KcL [(w.heap.size, 0, .int .i64 x.kd), (w.heap.size, 1, .string x.a.nm), (w.heap.size, 2, .slice A1 x.a.n c1), (w.heap.size, 3, .string x.b.nm), (w.heap.size, 4, .slice A2 x.b.n c2), (w.heap.size, 5, .slice A3 x.n c3), (w.heap.size, 6, .slice A4 x.m c4), (w.heap.size, 7, .int .i64 x.bd), (w.heap.size, 8, .bool x.st), (w.heap.size + 1, 0, .int .i64 y.kd), (w.heap.size + 1, 1, .string y.a.nm), (w.heap.size + 1, 2, .slice B1 y.a.n d1), (w.heap.size + 1, 3, .string y.b.nm), (w.heap.size + 1, 4, .slice B2 y.b.n d2), (w.heap.size + 1, 5, .slice B3 y.n d3), (w.heap.size + 1, 6, .slice B4 y.m d4), (w.heap.size + 1, 7, .int .i64 y.bd), (w.heap.size + 1, 8, .bool y.st)] ((w.alloc (.cells #[.int .i64 x.kd, .string x.a.nm, .slice A1 x.a.n c1, .string x.b.nm, .slice A2 x.b.n c2, .slice A3 x.n c3, .slice A4 x.m c4, .int .i64 x.bd, .bool x.st] 66)).alloc (.cells #[.int .i64 y.kd, .string y.a.nm, .slice B1 y.a.n d1, .string y.b.nm, .slice B2 y.b.n d2, .slice B3 y.n d3, .slice B4 y.m d4, .int .i64 y.bd, .bool y.st] 66)) := by
    refine ⟨?_, ?_, ?_, ?_, ?_, ?_, ?_, ?_, ?_, ?_, ?_, ?_, ?_, ?_, ?_, ?_, ?_, ?_, trivial⟩ <;> simp [go_sem]
  have q0 := bal (bal (Below.refl w.heap.size w) (.cells #[.int .i64 x.kd, .string x.a.nm, .slice A1 x.a.n c1, .string x.b.nm, .slice A2 x.b.n c2, .slice A3 x.n c3, .slice A4 x.m c4, .int .i64 x.bd, .bool x.st] 66)) (.cells #[.int .i64 y.kd, .string y.a.nm, .slice B1 y.a.n d1, .string y.b.nm, .slice B2 y.b.n d2, .slice B3 y.n d3, .slice B4 y.m d4, .int .i64 y.bd, .bool y.st] 66)
  go_enter Try.func9, Try.ntmps9
  have HH_ := H; obtain ⟨s0, s1, s2, s3, s4, s5, s6, s7, s8, s9, s10, s11, s12, s13, s14, s15, s16, s17, _⟩ := HH_
  go_wp2_with fail
  refine (hS.out _ q0).mono ?_
  rintro e w1 ⟨r, rfl, hr, hq⟩
  clear s0 s1 s2 s3 s4 s5 s6 s7 s8 s9 s10 s11 s12 s13 s14 s15 s16 s17
  replace H := H.below hq
  replace q0 := btr q0 hq
  clear hS hq
  rcases hr with hr | ⟨r1, r2, hN⟩
  · go_wp2
    go_ret
    exact ⟨rfl, q0⟩
  have hpx : 2 ≤ atSz x := by have := tSz_pos x.a; have := tSz_pos x.b; unfold atSz; omega
  have hr3 : r ≤ 1048576 := by omega
  have htz := hid (show atSz x ≤ 536870912 by omega)
  have HN := hid hN
  clear r2 hpx hN
  have HH_ := H; obtain ⟨s0, s1, s2, s3, s4, s5, s6, s7, s8, s9, s10, s11, s12, s13, s14, s15, s16, s17, _⟩ := HH_
  go_wp2_with fail
  refine (hS2.out _ r ⟨r1, hr3⟩ q0).mono ?_
  rintro e w2 ⟨r', rfl, hr', hq⟩
  clear s0 s1 s2 s3 s4 s5 s6 s7 s8 s9 s10 s11 s12 s13 s14 s15 s16 s17
  replace H := H.below hq
  replace q0 := btr q0 hq
  clear hS2 hq
  rcases hr' with hr' | ⟨r1', r2', hN'⟩
  · go_wp2
    go_ret
    exact ⟨rfl, q0⟩
  have htz' := hid (show atSz y ≤ 536870912 by omega)
  have HN' := hid hN'
  clear r2' hN'
  have hT := hid (fun W (h : Below w.heap.size w W) => (show Calls Try.prog 48 #[.agg #[.int .i64 x.kd, .string x.a.nm, .slice A1 x.a.n c1, .string x.b.nm, .slice A2 x.b.n c2, .slice A3 x.n c3, .slice A4 x.m c4, .int .i64 x.bd, .bool x.st]] W (NewA W x) from toatom_any x HN.out A1 c1 A2 c2 A3 c3 A4 c4 W (hA.below h)))
  have hT' := hid (fun W (h : Below w.heap.size w W) => (show Calls Try.prog 48 #[.agg #[.int .i64 y.kd, .string y.a.nm, .slice B1 y.a.n d1, .string y.b.nm, .slice B2 y.b.n d2, .slice B3 y.n d3, .slice B4 y.m d4, .int .i64 y.bd, .bool y.st]] W (NewA W y) from toatom_any y HN'.out B1 d1 B2 d2 B3 d3 B4 d4 W (hA'.below h)))
  obtain ⟨ra, hra⟩ := ateq_bool x y
  have hP := hid (fun (P1 P2 P3 P4 : Option Addr) (Q1 Q2 Q3 Q4 : Option Addr) W (h1 : AtT W x P1 P2 P3 P4) (h2 : AtT W y Q1 Q2 Q3 Q4) => (show Calls Try.prog 47 #[.agg #[.int .i64 x.kd, .string x.a.nm, .slice P1 x.a.n x.a.n, .string x.b.nm, .slice P2 x.b.n x.b.n, .slice P3 x.n x.n, .slice P4 x.m x.m, .int .i64 x.bd, .bool x.st], .agg #[.int .i64 y.kd, .string y.a.nm, .slice Q1 y.a.n y.a.n, .string y.b.nm, .slice Q2 y.b.n y.b.n, .slice Q3 y.n y.n, .slice Q4 y.m y.m, .int .i64 y.bd, .bool y.st]] W _ from satomsame_at x y ra hra hF hF' P1 _ P2 _ P3 _ P4 _ Q1 _ Q2 _ Q3 _ Q4 _ W h1.k h2.k))
  have hI := hid (fun (P1 P2 P3 P4 : Option Addr) (Q1 Q2 Q3 Q4 : Option Addr) W (h1 : AtT W x P1 P2 P3 P4) (h2 : AtT W y Q1 Q2 Q3 Q4) => (show Calls Try.prog 49 #[.agg #[.int .i64 x.kd, .string x.a.nm, .slice P1 x.a.n x.a.n, .string x.b.nm, .slice P2 x.b.n x.b.n, .slice P3 x.n x.n, .slice P4 x.m x.m, .int .i64 x.bd, .bool x.st], .agg #[.int .i64 y.kd, .string y.a.nm, .slice Q1 y.a.n y.a.n, .string y.b.nm, .slice Q2 y.b.n y.b.n, .slice Q3 y.n y.n, .slice Q4 y.m y.m, .int .i64 y.bd, .bool y.st]] W _ from atomsame_at x y ra hra P1 _ P2 _ P3 _ P4 _ Q1 _ Q2 _ Q3 _ Q4 _ W h1 h2 HN.out.c HN'.out.c htz.out htz'.out))
  have hQ := hid (fun (P1 P2 P3 P4 : Option Addr) (Q1 Q2 Q3 Q4 : Option Addr) W (h1 : AtT W x P1 P2 P3 P4) (h2 : AtT W x Q1 Q2 Q3 Q4) => (show Calls Try.prog 50 #[.agg #[.int .i64 x.kd, .string x.a.nm, .slice P1 x.a.n x.a.n, .string x.b.nm, .slice P2 x.b.n x.b.n, .slice P3 x.n x.n, .slice P4 x.m x.m, .int .i64 x.bd, .bool x.st], .agg #[.int .i64 x.kd, .string x.a.nm, .slice Q1 x.a.n x.a.n, .string x.b.nm, .slice Q2 x.b.n x.b.n, .slice Q3 x.n x.n, .slice Q4 x.m x.m, .int .i64 x.bd, .bool x.st]] W _ from eqatom_same x hF P1 _ P2 _ P3 _ P4 _ Q1 _ Q2 _ Q3 _ Q4 _ W h1.k h2.k))
  have hQ' := hid (fun (P1 P2 P3 P4 : Option Addr) (Q1 Q2 Q3 Q4 : Option Addr) W (h1 : AtT W y P1 P2 P3 P4) (h2 : AtT W y Q1 Q2 Q3 Q4) => (show Calls Try.prog 50 #[.agg #[.int .i64 y.kd, .string y.a.nm, .slice P1 y.a.n y.a.n, .string y.b.nm, .slice P2 y.b.n y.b.n, .slice P3 y.n y.n, .slice P4 y.m y.m, .int .i64 y.bd, .bool y.st], .agg #[.int .i64 y.kd, .string y.a.nm, .slice Q1 y.a.n y.a.n, .string y.b.nm, .slice Q2 y.b.n y.b.n, .slice Q3 y.n y.n, .slice Q4 y.m y.m, .int .i64 y.bd, .bool y.st]] W _ from eqatom_same y hF' P1 _ P2 _ P3 _ P4 _ Q1 _ Q2 _ Q3 _ Q4 _ W h1.k h2.k))
  have dk : (ra != ra) = false := by simp
  clear hra hA hA' hF hF'
  have HH_ := H; obtain ⟨s0, s1, s2, s3, s4, s5, s6, s7, s8, s9, s10, s11, s12, s13, s14, s15, s16, s17, _⟩ := HH_
  have l0 := cell_lt s0
  have l1 := cell_lt s9
  have gc := @gro_cell w2
  go_upto_region 8 with fail
  refine region_plan (.takes [0, 2] (.make 1 (.make 3 (.make 4 .fin)))) 5 rfl (by kernel_rfl) ?_
  refine plan_takes ?_; simp only [pickOps, List.getElem?_cons_zero, List.getElem?_cons_succ]; (repeat (go_big_quiet_step (fail))); refine wpQuiet_nil ?_
  clear gc l0 l1
  clear s0 s1 s2 s3 s4 s5 s6 s7 s8 s9 s10 s11 s12 s13 s14 s15 s16 s17
  have hB := (Below.refl w2.heap.size w2).drew
  refine plan_call rfl rfl 48 #[.agg #[.int .i64 x.kd, .string x.a.nm, .slice A1 x.a.n c1, .string x.b.nm, .slice A2 x.b.n c2, .slice A3 x.n c3, .slice A4 x.m c4, .int .i64 x.bd, .bool x.st]] (by kernel_rfl) ?_
  refine (hT.out _ (btr q0 hB)).mono ?_
  rintro e u1 ⟨P1, P2, P3, P4, rfl, O3, hq⟩
  simp only [At.cs]
  refine ⟨_, rfl, btr hB hq, ?_⟩
  replace hB := btr hB hq; clear hq
  refine plan_call rfl rfl 48 #[.agg #[.int .i64 y.kd, .string y.a.nm, .slice B1 y.a.n d1, .string y.b.nm, .slice B2 y.b.n d2, .slice B3 y.n d3, .slice B4 y.m d4, .int .i64 y.bd, .bool y.st]] (by kernel_rfl) ?_
  refine (hT'.out _ (btr q0 hB)).mono ?_
  rintro e u2 ⟨Q1, Q2, Q3, Q4, rfl, O4, hq⟩
  simp only [At.cs]
  refine ⟨_, rfl, btr hB hq, ?_⟩
  replace O3 := O3.below hq
  replace hB := btr hB hq; clear hq
  refine plan_call rfl rfl 47 #[.agg #[.int .i64 x.kd, .string x.a.nm, .slice P1 x.a.n x.a.n, .string x.b.nm, .slice P2 x.b.n x.b.n, .slice P3 x.n x.n, .slice P4 x.m x.m, .int .i64 x.bd, .bool x.st], .agg #[.int .i64 y.kd, .string y.a.nm, .slice Q1 y.a.n y.a.n, .string y.b.nm, .slice Q2 y.b.n y.b.n, .slice Q3 y.n y.n, .slice Q4 y.m y.m, .int .i64 y.bd, .bool y.st]] (by kernel_rfl) ?_
  refine (hP.out P1 P2 P3 P4 Q1 Q2 Q3 Q4 _ O3 O4).mono ?_
  rintro e u3 ⟨rfl, hq⟩
  refine ⟨_, rfl, btr hB hq, ?_⟩
  replace hB := btr hB hq; clear hq O3 O4
  refine plan_fin ?_
  simp only [List.drop_succ_cons, List.drop_zero, Act.put, List.setIfInBounds_toArray, List.set_cons_succ, List.set_cons_zero]
  replace H := H.below hB
  replace q0 := btr q0 hB
  clear hB
  have HH_ := H; obtain ⟨s0, s1, s2, s3, s4, s5, s6, s7, s8, s9, s10, s11, s12, s13, s14, s15, s16, s17, _⟩ := HH_
  go_wp2_with fail
  refine (hT.out _ q0).mono ?_
  rintro e w3 ⟨P1, P2, P3, P4, rfl, O5, hq⟩
  simp only [At.cs]
  clear s0 s1 s2 s3 s4 s5 s6 s7 s8 s9 s10 s11 s12 s13 s14 s15 s16 s17
  replace H := H.below hq
  replace q0 := btr q0 hq
  clear hq
  have N := box9_new w3 (.int .i64 x.kd) (.string x.a.nm) (.slice P1 x.a.n x.a.n) (.string x.b.nm) (.slice P2 x.b.n x.b.n) (.slice P3 x.n x.n) (.slice P4 x.m x.m) (.int .i64 x.bd) (.bool x.st) 70
  have al := bal (Below.refl w3.heap.size w3) (.cells #[.int .i64 x.kd, .string x.a.nm, .slice P1 x.a.n x.a.n, .string x.b.nm, .slice P2 x.b.n x.b.n, .slice P3 x.n x.n, .slice P4 x.m x.m, .int .i64 x.bd, .bool x.st] 70)
  replace H := (H.below al).app N
  replace q0 := btr q0 al
  replace O5 := O5.below al
  clear N al
  have HH_ := H; obtain ⟨s0, s1, s2, s3, s4, s5, s6, s7, s8, s9, s10, s11, s12, s13, s14, s15, s16, s17, s18, s19, s20, s21, s22, s23, s24, s25, s26, _⟩ := HH_
  go_wp2_with fail
  refine (hT'.out _ q0).mono ?_
  rintro e w4 ⟨Q1, Q2, Q3, Q4, rfl, O6, hq⟩
  simp only [At.cs]
  clear s0 s1 s2 s3 s4 s5 s6 s7 s8 s9 s10 s11 s12 s13 s14 s15 s16 s17 s18 s19 s20 s21 s22 s23 s24 s25 s26
  replace H := H.below hq
  replace q0 := btr q0 hq
  replace O5 := O5.below hq
  clear hq
  have N := box9_new w4 (.int .i64 y.kd) (.string y.a.nm) (.slice Q1 y.a.n y.a.n) (.string y.b.nm) (.slice Q2 y.b.n y.b.n) (.slice Q3 y.n y.n) (.slice Q4 y.m y.m) (.int .i64 y.bd) (.bool y.st) 70
  have al := bal (Below.refl w4.heap.size w4) (.cells #[.int .i64 y.kd, .string y.a.nm, .slice Q1 y.a.n y.a.n, .string y.b.nm, .slice Q2 y.b.n y.b.n, .slice Q3 y.n y.n, .slice Q4 y.m y.m, .int .i64 y.bd, .bool y.st] 70)
  replace H := (H.below al).app N
  replace q0 := btr q0 al
  replace O5 := O5.below al
  replace O6 := O6.below al
  clear N al
  have HH_ := H; obtain ⟨s0, s1, s2, s3, s4, s5, s6, s7, s8, s9, s10, s11, s12, s13, s14, s15, s16, s17, s18, s19, s20, s21, s22, s23, s24, s25, s26, s27, s28, s29, s30, s31, s32, s33, s34, s35, _⟩ := HH_
  go_wp2_with fail
  refine (hI.out P1 P2 P3 P4 Q1 Q2 Q3 Q4 _ O5 O6).mono ?_
  rintro e w5 ⟨rfl, hq⟩
  clear s0 s1 s2 s3 s4 s5 s6 s7 s8 s9 s10 s11 s12 s13 s14 s15 s16 s17 s18 s19 s20 s21 s22 s23 s24 s25 s26 s27 s28 s29 s30 s31 s32 s33 s34 s35
  replace H := H.below hq
  replace q0 := btr q0 hq
  replace O5 := O5.below hq
  replace O6 := O6.below hq
  clear hq
  have HH_ := H; obtain ⟨s0, s1, s2, s3, s4, s5, s6, s7, s8, s9, s10, s11, s12, s13, s14, s15, s16, s17, s18, s19, s20, s21, s22, s23, s24, s25, s26, s27, s28, s29, s30, s31, s32, s33, s34, s35, _⟩ := HH_
  have l0 := cell_lt s0
  have l1 := cell_lt s9
  have l2 := cell_lt s18
  have l3 := cell_lt s27
  have gc := @gro_cell w5
  go_wp2_with fail
  refine region_grow_call 2 rfl (by kernel_rfl) (by kernel_rfl) rfl ?_; simp only [List.take_succ_cons, List.take_zero]; (repeat (go_big_quiet_step (fail))); refine wpQuiet_nil ?_
  intro w6 hq
  clear gc l0 l1 l2 l3
  clear s0 s1 s2 s3 s4 s5 s6 s7 s8 s9 s10 s11 s12 s13 s14 s15 s16 s17 s18 s19 s20 s21 s22 s23 s24 s25 s26 s27 s28 s29 s30 s31 s32 s33 s34 s35
  refine ⟨48, #[.agg #[.int .i64 x.kd, .string x.a.nm, .slice A1 x.a.n c1, .string x.b.nm, .slice A2 x.b.n c2, .slice A3 x.n c3, .slice A4 x.m c4, .int .i64 x.bd, .bool x.st]], by kernel_rfl, ?_⟩
  refine (hT.out _ (btr q0 hq)).mono ?_
  rintro e w7 ⟨R1, R2, R3, R4, rfl, O8, hq8⟩
  simp only [At.cs]
  refine ⟨_, rfl, btr hq hq8, ?_⟩
  replace H := H.below (btr hq hq8)
  replace q0 := btr q0 (btr hq hq8)
  replace O5 := O5.below (btr hq hq8)
  replace O6 := O6.below (btr hq hq8)
  clear hq hq8
  have HH_ := H; obtain ⟨s0, s1, s2, s3, s4, s5, s6, s7, s8, s9, s10, s11, s12, s13, s14, s15, s16, s17, s18, s19, s20, s21, s22, s23, s24, s25, s26, s27, s28, s29, s30, s31, s32, s33, s34, s35, _⟩ := HH_
  go_wp2_with fail
  refine (hQ.out P1 P2 P3 P4 R1 R2 R3 R4 _ O5 O8).mono ?_
  rintro e w8 ⟨rfl, hq⟩
  clear s0 s1 s2 s3 s4 s5 s6 s7 s8 s9 s10 s11 s12 s13 s14 s15 s16 s17 s18 s19 s20 s21 s22 s23 s24 s25 s26 s27 s28 s29 s30 s31 s32 s33 s34 s35
  replace H := H.below hq
  replace q0 := btr q0 hq
  replace O5 := O5.below hq
  replace O6 := O6.below hq
  clear hq O8
  have HH_ := H; obtain ⟨s0, s1, s2, s3, s4, s5, s6, s7, s8, s9, s10, s11, s12, s13, s14, s15, s16, s17, s18, s19, s20, s21, s22, s23, s24, s25, s26, s27, s28, s29, s30, s31, s32, s33, s34, s35, _⟩ := HH_
  have l0 := cell_lt s0
  have l1 := cell_lt s9
  have l2 := cell_lt s18
  have l3 := cell_lt s27
  have gc := @gro_cell w8
  go_wp2_with fail
  refine region_grow_call 2 rfl (by kernel_rfl) (by kernel_rfl) rfl ?_; simp only [List.take_succ_cons, List.take_zero]; (repeat (go_big_quiet_step (fail))); refine wpQuiet_nil ?_
  intro w9 hq
  clear gc l0 l1 l2 l3
  clear s0 s1 s2 s3 s4 s5 s6 s7 s8 s9 s10 s11 s12 s13 s14 s15 s16 s17 s18 s19 s20 s21 s22 s23 s24 s25 s26 s27 s28 s29 s30 s31 s32 s33 s34 s35
  refine ⟨48, #[.agg #[.int .i64 y.kd, .string y.a.nm, .slice B1 y.a.n d1, .string y.b.nm, .slice B2 y.b.n d2, .slice B3 y.n d3, .slice B4 y.m d4, .int .i64 y.bd, .bool y.st]], by kernel_rfl, ?_⟩
  refine (hT'.out _ (btr q0 hq)).mono ?_
  rintro e w10 ⟨R1, R2, R3, R4, rfl, O8, hq8⟩
  simp only [At.cs]
  refine ⟨_, rfl, btr hq hq8, ?_⟩
  replace H := H.below (btr hq hq8)
  replace q0 := btr q0 (btr hq hq8)
  replace O5 := O5.below (btr hq hq8)
  replace O6 := O6.below (btr hq hq8)
  clear hq hq8
  have HH_ := H; obtain ⟨s0, s1, s2, s3, s4, s5, s6, s7, s8, s9, s10, s11, s12, s13, s14, s15, s16, s17, s18, s19, s20, s21, s22, s23, s24, s25, s26, s27, s28, s29, s30, s31, s32, s33, s34, s35, _⟩ := HH_
  go_wp2_with fail
  refine (hQ'.out Q1 Q2 Q3 Q4 R1 R2 R3 R4 _ O6 O8).mono ?_
  rintro e w11 ⟨rfl, hq⟩
  clear s0 s1 s2 s3 s4 s5 s6 s7 s8 s9 s10 s11 s12 s13 s14 s15 s16 s17 s18 s19 s20 s21 s22 s23 s24 s25 s26 s27 s28 s29 s30 s31 s32 s33 s34 s35
  replace H := H.below hq
  replace q0 := btr q0 hq
  replace O5 := O5.below hq
  replace O6 := O6.below hq
  clear hq O8
  go_wp2
  go_ret
  exact ⟨rfl, q0⟩
end Go.Proofs.Ytcnlolocppbcjaa
