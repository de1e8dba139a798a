/- Walk of FnCnfBent. -/
import Derived.Test.YtoechhdahokoiaaDfB
import Derived.Test.YtoechhdahokoiaaCsW
namespace Go.Proofs.Ytoechhdahokoiaa
set_option linter.unusedVariables false
set_option linter.unusedSimpArgs false
open Go.RowKit
set_option maxRecDepth 100000 in
set_option maxHeartbeats 16000000 in
theorem walk_CnfBent (a0 : Option Addr) (len0 cap0 : Nat) (w : World) (hby : Bytes w.heap.size w a0 len0) (hlc : len0 ≤ cap0) (hc0 : cap0 ≤ 9223372036854775807) :
    Calls Try.prog 8 #[.slice a0 len0 cap0] w fun e w' => e = .returned (.bool true) ∧ Below w.heap.size w w' := by
  by_cases hbig : 1048576 < len0
  · go_enter Try.func8, Try.ntmps8
    go_wp2
    go_ret
    exact ⟨rfl, Below.refl _ _⟩
  have hb0 : decide (1048576 < (len0 : Int)) = false := decide_eq_false (by omega)
  have hD2 := fun W (h : Below w.heap.size w W) => drawcnfis_any w.heap.size W a0 len0 cap0 h.size (hby.belowU h) hlc hc0
  go_enter Try.func8, Try.ntmps8
  go_wp2_with fail
  refine (drawcnfrup_any w.heap.size w a0 len0 cap0 (Nat.le_refl _) hby hlc hc0).mono ?_
  rintro e w1 ⟨m, A, c, ds, D, d, pl, rfl, hm1, hm2, hdl, hpl, hcap, hI, hN61, hB, q0⟩
  generalize llsC ds = L at *
  generalize ds.length = n at *
  clear hby hlc hc0 hbig hb0 hN61 hcap
  have bx := pair_new w1 (.int .i64 m) (.slice A n c) 25
  have al := bal (Below.refl w1.heap.size w1) (.cells #[.int .i64 m, .slice A n c] 25)
  replace hI := hI.below al
  replace hB := hB.below al
  replace q0 := btr q0 al
  go_upto_region 4 with fail
  obtain ⟨w2, hw2⟩ : ∃ w2, w2 = w1.alloc (.cells #[.int .i64 m, .slice A n c] 25) := ⟨_, rfl⟩
  rw [← hw2] at hI hB q0 bx ⊢
  obtain ⟨x0, x1⟩ := bx
  clear hw2 al
  go_wp2_with fail
  refine (hD2 _ q0).mono ?_
  rintro e w3 ⟨m', A', c', ds', D2, d2, vl, rfl, _, _, hdl', hvl, _, _, _, hB2, hq⟩
  replace hI := hI.below hq
  replace hB := hB.below hq
  replace q0 := btr q0 hq
  replace x0 := carry hq x0
  replace x1 := carry hq x1
  clear hD2 hq
  generalize (fun k => vl.getD k false) = V at *
  generalize vl.length = N at *
  have al := bal (Below.refl w3.heap.size w3) (.cells #[.int .i64 m', .slice A' ds'.length c'] 25)
  replace hI := hI.below al
  replace hB := hB.below al
  replace hB2 := hB2.below al
  replace q0 := btr q0 al
  replace x0 := carry al x0
  replace x1 := carry al x1
  go_upto_region 5 with fail
  obtain ⟨w4, hw4⟩ : ∃ w4, w4 = w3.alloc (.cells #[.int .i64 m', .slice A' ds'.length c'] 25) := ⟨_, rfl⟩
  rw [← hw4] at hI hB hB2 q0 x0 x1 ⊢
  clear hw4 al
  have hCi := fun W h1 h2 => cnfis_any A D2 n c N d2 L V m W (by omega) (by omega) h1 h2
  have hR := fun W h1 h2 => cnfrup_any A n c L m D pl.length d (fun k => pl.getD k 0) W (by omega) h1 (by omega) h2
  have hU := fun W h1 => cnfunits_any A n c L m none 0 0 (fun _ => 0) W (by omega) h1 (by omega) (.inl rfl)
  have hK := fun W h1 => cnfok_any A n c L m W (by omega) h1
  have hKs := fun W h1 => scnfok_any A n c L m W (by omega) h1
  cases hcn : cnB n L m
  · have e1 : ciB n L m N V = false := ciB_no fun h => by rw [hcn] at h; cases h.1
    have e2 : rupB n L m pl.length (fun k => pl.getD k 0) = false := rupB_no fun ⟨_, l, h⟩ => by
      rcases h with ⟨h, _⟩ | ⟨_, _, h⟩
      · rw [hcn] at h; cases h
      · cases h
    have HU := hid (fun (l : List Int) (r : Bool) (h : UnR n L m (putL 0 (fun _ => 0)) l r) => (show l = [] ∧ r = false from by
      rcases h with ⟨h, _⟩ | ⟨_, h1, h2⟩
      · rw [hcn] at h; cases h
      · exact ⟨h1, h2⟩))
    rw [hcn] at hK hKs
    rw [e1] at hCi
    rw [e2] at hR
    clear hcn e1 e2
    go_wp2_with fail
    refine (hK _ hI).mono ?_
    rintro e w5 ⟨rfl, hq⟩
    replace hI := hI.below hq
    replace hB := hB.below hq
    replace hB2 := hB2.below hq
    replace q0 := btr q0 hq
    replace x0 := carry hq x0
    replace x1 := carry hq x1
    clear hq hK
    go_wp2_with fail
    refine (hKs _ hI).mono ?_
    rintro e w6 ⟨rfl, hq⟩
    replace hI := hI.below hq
    replace hB := hB.below hq
    replace hB2 := hB2.below hq
    replace q0 := btr q0 hq
    replace x0 := carry hq x0
    replace x1 := carry hq x1
    clear hq hKs
    go_wp2_with fail
    refine (hU _ hI).mono ?_
    rintro e w7 ⟨⟨l, r, A7, c7, hu, rfl, _⟩, hq⟩
    obtain ⟨rfl, rfl⟩ := HU.out _ _ hu
    replace hI := hI.below hq
    replace hB := hB.below hq
    replace hB2 := hB2.below hq
    replace q0 := btr q0 hq
    replace x0 := carry hq x0
    replace x1 := carry hq x1
    clear hq hU hu HU
    rw [List.length_nil]
    go_wp2_with fail
    refine (hCi _ hI hB2).mono ?_
    rintro e w8 ⟨rfl, hq⟩
    replace hI := hI.below hq
    replace hB := hB.below hq
    replace q0 := btr q0 hq
    replace x0 := carry hq x0
    replace x1 := carry hq x1
    clear hq hCi hB2
    go_wp2_with fail
    refine (hR _ hI hB).mono ?_
    rintro e w9 ⟨rfl, hq⟩
    go_wp2
    go_ret
    exact ⟨rfl, btr q0 hq⟩
  · rw [hcn] at hK hKs
    clear hcn hU hCi hR
    go_wp2_with fail
    refine (hK _ hI).mono ?_
    rintro e w5 ⟨rfl, hq⟩
    replace hI := hI.below hq
    replace q0 := btr q0 hq
    replace x0 := carry hq x0
    replace x1 := carry hq x1
    clear hq hK
    go_wp2_with fail
    refine (hKs _ hI).mono ?_
    rintro e w6 ⟨rfl, hq⟩
    replace hI := hI.below hq
    replace q0 := btr q0 hq
    replace x0 := carry hq x0
    replace x1 := carry hq x1
    clear hq
    go_wp2_with fail
    refine (hKs _ hI).mono ?_
    rintro e w7 ⟨rfl, hq⟩
    go_wp2
    go_ret
    exact ⟨rfl, btr q0 hq⟩
end Go.Proofs.Ytoechhdahokoiaa
