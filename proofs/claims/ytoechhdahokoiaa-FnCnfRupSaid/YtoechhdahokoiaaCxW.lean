/- Walk of FnCnfRup. -/
import Derived.Test.YtoechhdahokoiaaDfB
import Derived.Test.YtoechhdahokoiaaCxM
namespace Go.Proofs.Ytoechhdahokoiaa
set_option linter.unusedVariables false
set_option linter.unusedSimpArgs false
open Go.RowKit
set_option maxRecDepth 100000 in
set_option maxHeartbeats 16000000 in
theorem walk_CnfRup (a0 : Option Addr) (len0 cap0 : Nat) (w : World) (hby : Bytes w.heap.size w a0 len0) (hlc : len0 ≤ cap0) (hc0 : cap0 ≤ 9223372036854775807) :
    Calls Try.prog 6 #[.slice a0 len0 cap0] w fun e w' => e = .returned (.bool true) ∧ Below w.heap.size w w' := by
  by_cases hbig : 1048576 < len0
  · go_enter Try.func6, Try.ntmps6
    go_wp2
    go_ret
    exact ⟨rfl, Below.refl _ _⟩
  have hb0 : decide (1048576 < (len0 : Int)) = false := decide_eq_false (by omega)
  have hD2 := fun W (h : Below w.heap.size w W) => drawcnfis_any w.heap.size W a0 len0 cap0 h.size (hby.belowU h) hlc hc0
  go_enter Try.func6, Try.ntmps6
  go_wp2_with fail
  refine (drawcnfrup_any w.heap.size w a0 len0 cap0 (Nat.le_refl _) hby hlc hc0).mono ?_
  rintro e w1 ⟨m, A, c, ds, D, d, pl, rfl, hm1, hm2, hdl, hpl, hcap, hI, hN61, hB, q0⟩
  generalize llsC ds = L at *
  generalize ds.length = n at *
  clear hby hlc hc0 hbig hb0 hN61 hcap
  have bx := pair_new w1 (.int .i64 m) (.slice A n c) 25
  have al := bal (Below.refl w1.heap.size w1) (.cells #[.int .i64 m, .slice A n c] 25)
  replace hI := hI.below al
  replace hB := hB.below al
  replace q0 := btr q0 al
  go_upto_region 4 with fail
  obtain ⟨w2, hw2⟩ : ∃ w2, w2 = w1.alloc (.cells #[.int .i64 m, .slice A n c] 25) := ⟨_, rfl⟩
  rw [← hw2] at hI hB q0 bx ⊢
  obtain ⟨x0, x1⟩ := bx
  clear hw2 al
  go_wp2_with fail
  refine (hD2 _ q0).mono ?_
  rintro e w3 ⟨m', A', c', ds', D2, d2, vl, rfl, _, _, hdl', hvl, _, _, _, hB2, hq⟩
  replace hI := hI.below hq
  replace hB := hB.below hq
  replace q0 := btr q0 hq
  replace x0 := carry hq x0
  replace x1 := carry hq x1
  clear hD2 hq
  generalize (fun k => vl.getD k false) = V at *
  generalize vl.length = N at *
  have al := bal (Below.refl w3.heap.size w3) (.cells #[.int .i64 m', .slice A' ds'.length c'] 25)
  replace hI := hI.below al
  replace hB := hB.below al
  replace hB2 := hB2.below al
  replace q0 := btr q0 al
  replace x0 := carry al x0
  replace x1 := carry al x1
  go_upto_region 5 with fail
  obtain ⟨w4, hw4⟩ : ∃ w4, w4 = w3.alloc (.cells #[.int .i64 m', .slice A' ds'.length c'] 25) := ⟨_, rfl⟩
  rw [← hw4] at hI hB hB2 q0 x0 x1 ⊢
  clear hw4 al
  have hCi := fun W h1 h2 => cnfis_any A D2 n c N d2 L V m W (by omega) (by omega) h1 h2
  have hR := fun W h1 h2 => cnfrup_any A n c L m D pl.length d (fun k => pl.getD k 0) W (by omega) h1 (by omega) h2
  have hRs := fun W h1 h2 => scnfrup_any A n c L m D pl.length d (fun k => pl.getD k 0) W (by omega) h1 (by omega) h2
  have hCk := fun W h2 => clauseok_any D pl.length d (fun k => pl.getD k 0) m W (by omega) h2
  have hCs := fun W h2 => sclauseok_any D pl.length d (fun k => pl.getD k 0) m W (by omega) h2
  have hCl := fun W h1 h2 => clauseis_any D D2 pl.length d N d2 (fun k => pl.getD k 0) V W (by omega) (by omega) h1 h2
  have hRr := fun i a c' W h1 h2 h3 => cnfrup_any A n c L m a (L.N i) c' (L.Z i) W (by omega) h1 h2 h3
  have hKs := fun W h1 => scnfok_any A n c L m W (by omega) h1
  have HRT := hid (fun (h : rupB n L m pl.length (fun k => pl.getD k 0) = true) (hc : ciB n L m N V = true) => rup_true h hc)
  generalize rupB n L m pl.length (fun k => pl.getD k 0) = ru at *
  generalize okC pl.length (fun k => pl.getD k 0) m = ok at *
  have dk : (ru != ru) = false := by simp
  have dk2 : (ok != ok) = false := by simp
  go_wp2_with fail
  refine (hR _ hI hB).mono ?_
  rintro e w5 ⟨rfl, hq⟩
  replace hI := hI.below hq
  replace hB := hB.below hq
  replace hB2 := hB2.below hq
  replace q0 := btr q0 hq
  replace x0 := carry hq x0
  replace x1 := carry hq x1
  clear hq hR
  have hSr := fun X : Gro w5 => hRs (gro w5 X) (hI.below X.h) (hB.below X.h)
  have hSk := fun X : Gro w5 => (hCk (gro w5 X) (hB.below X.h)).mono fun e w' h => (⟨h.1, h.2 ▸ Below.refl _ _⟩ : e = .returned (.bool ok) ∧ Below (gro w5 X).heap.size (gro w5 X) w')
  have hSs := fun X : Gro w5 => (hCs (gro w5 X) (hB.below X.h)).mono fun e w' h => (⟨h.1, h.2 ▸ Below.refl _ _⟩ : e = .returned (.bool ok) ∧ Below (gro w5 X).heap.size (gro w5 X) w')
  have l0 := cell_lt x0
  have gc := @gro_cell w5
  go_upto_region 6 with fail
  refine wp_region_grow_lit (by kernel_rfl) (by kernel_rfl) ?_
  repeat (go_big_quiet_step (first | (go_at_call 24; exact grow_call _ (hSr _)) | (go_at_call 25; exact grow_call _ (hSk _)) | (go_at_call 26; exact grow_call _ (hSs _))))
  refine wpQuiet_nil ?_
  rintro _ ⟨X, rfl⟩
  clear gc hSr hSk hSs hRs hCk hCs
  have XH : Below w5.heap.size w5 (gro w5 X) := X.h
  replace hI := hI.below XH
  replace hB := hB.below XH
  replace hB2 := hB2.below XH
  replace q0 := btr q0 XH
  replace x0 := carry XH x0
  replace x1 := carry XH x1
  clear XH l0
  generalize gro w5 X = w6 at *
  go_wp2
  go_loopw [8] (fun i wr => ∃ k : Nat, k ≤ n ∧ i = .int .i64 (k : Int) ∧ Below w6.heap.size w6 wr) (fun i _ => n - (intOf i).toNat)
  case atStart => exact ⟨0, Nat.zero_le _, rfl, Below.refl _ _⟩
  case round =>
    obtain ⟨k, hk, rfl, hb⟩ := hrel
    have y0 := carry hb x0
    have y1 := carry hb x1
    by_cases hlt : k < n
    · have hkI : (k : Int) < (n : Int) := by omega
      have hKs2 := hKs _ (hI.below hb)
      cases hcn : cnB n L m
      · rw [hcn] at hKs2
        clear hcn
        go_wp2_with fail
        refine hKs2.mono ?_
        rintro e wk ⟨rfl, hqk⟩
        replace hb := btr hb hqk
        replace y0 := carry hqk y0
        replace y1 := carry hqk y1
        clear hqk hKs2
        cases ru
        · go_wp2
          go_ret
          exact ⟨rfl, btr q0 hb⟩
        · cases hci : ciB n L m N V
          · have hCi2 := hCi _ (hI.below hb) (hB2.below hb)
            rw [hci] at hCi2
            clear hci
            go_wp2_with (go_at_call 10; refine hCi2.mono ?_; rintro e wt ⟨rfl, hqt⟩)
            go_ret
            exact ⟨rfl, btr q0 (btr hb hqt)⟩
          · have hCi2 := hCi _ (hI.below hb) (hB2.below hb)
            rw [hci] at hCi2
            have hcl := HRT.out rfl hci
            clear hci
            go_wp2_with fail
            refine hCi2.mono ?_
            rintro e wt ⟨rfl, hqt⟩
            have hb3 := btr hb hqt
            have hCl2 := hCl _ (hB.below hb3) (hB2.below hb3)
            rw [hcl] at hCl2
            clear hCi2 hqt
            go_wp2_with fail
            refine hCl2.mono ?_
            rintro e wu ⟨rfl, hqu⟩
            go_wp2
            go_ret
            exact ⟨rfl, btr q0 (btr hb3 hqu)⟩
      · rw [hcn] at hKs2
        have HS := hid (rup_self hcn hlt)
        have hN60 := (cn_facts hcn).2.2.2.2.1 k hlt
        clear hcn
        go_wp2_with fail
        refine hKs2.mono ?_
        rintro e wk ⟨rfl, hqk⟩
        replace hb := btr hb hqk
        replace y0 := carry hqk y0
        replace y1 := carry hqk y1
        clear hqk hKs2
        have hIk := hI.below hb
        rcases hIk with h0 | ⟨g, off, rfl, hg, hcA⟩
        · omega
        obtain ⟨a, ca, a0, hNk, hZ⟩ := hcA k hlt
        have hIk : IntSS wk (some ⟨g, off, none⟩) n L := hI.below hb
        have hRk := fun X : Gro wk => hRr k a ca (gro wk X) (hIk.below X.h) (by omega) (hZ.below X.h)
        rw [HS.out] at hRk
        have l0 := cell_lt y0
        have l1 := cell_lt a0
        have gc := @gro_cell wk
        clear hcA hZ
        go_upto_region 11 with fail
        refine wp_region_grow_lit (by kernel_rfl) (by kernel_rfl) ?_
        repeat (go_big_quiet_step ((go_at_call 23; exact grow_call _ (hRk _))))
        refine wpQuiet_nil ?_
        rintro _ ⟨X, rfl⟩
        clear gc hRk
        go_wp2
        go_roundw
        case rel => exact ⟨k + 1, by omega, by go_num, btr hb X.h⟩
        case measure => simp [intOf]; omega
    · have hke : n = k := by omega
      subst hke
      cases ru
      · go_wp2
        go_ret
        exact ⟨rfl, btr q0 hb⟩
      · cases hci : ciB n L m N V
        · have hCi2 := hCi _ (hI.below hb) (hB2.below hb)
          rw [hci] at hCi2
          clear hci
          go_wp2_with (go_at_call 10; refine hCi2.mono ?_; rintro e wt ⟨rfl, hqt⟩)
          go_ret
          exact ⟨rfl, btr q0 (btr hb hqt)⟩
        · have hCi2 := hCi _ (hI.below hb) (hB2.below hb)
          rw [hci] at hCi2
          have hcl := HRT.out rfl hci
          clear hci
          go_wp2_with fail
          refine hCi2.mono ?_
          rintro e wt ⟨rfl, hqt⟩
          have hb3 := btr hb hqt
          have hCl2 := hCl _ (hB.below hb3) (hB2.below hb3)
          rw [hcl] at hCl2
          clear hCi2 hqt
          go_wp2_with fail
          refine hCl2.mono ?_
          rintro e wu ⟨rfl, hqu⟩
          go_wp2
          go_ret
          exact ⟨rfl, btr q0 (btr hb3 hqu)⟩
end Go.Proofs.Ytoechhdahokoiaa
