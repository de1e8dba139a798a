/- Walk of FnCnfIs. -/
import Derived.Test.YtoechhdahokoiaaDeC
import Derived.Test.YtoechhdahokoiaaCdA
import Derived.Test.YtoechhdahokoiaaCbB
namespace Go.Proofs.Ytoechhdahokoiaa
set_option linter.unusedVariables false
set_option linter.unusedSimpArgs false
open Go.RowKit
section
variable {P : Program} {ops : Array Oper} {C : World → Prop} {l : List Oper} {K : Act → World → Prop} {k : Pl} {m : Nat} {om : Oper} {a : Act} {w : World}
theorem planC_callGD (hl : l[m]? = some om) (hw : Region.wanted om (yielded ops a.tmps) = true) (f : FuncId) (args : Array Value) (h : (execOp a.eval om).run P w = .ok (.enter f args) w)
    (hc : Calls P f args w fun e w'' => ∃ v, e = .returned v ∧ C w'' ∧ ObPl P ops C l K k (a.put om.dst v) w'') : ObPl P ops C l K (.make m k) a w := by
  refine ⟨om, hl, .inl ⟨hw, ?_⟩⟩
  rw [h]
  exact hc
end
/-- the first k are so -/
def eB (n : Nat) (L : Lls) (m : Int) (N : Nat) (V : Nat → Bool) (k : Nat) : Bool := decide (cnB n L m = true ∧ (N : Int) = m ∧ ∀ j, j < k → clB (L.N j) (L.Z j) N V = true)
theorem eB_zero {n N : Nat} {L : Lls} {m : Int} {V : Nat → Bool} : eB n L m N V 0 = (cnB n L m && ((N : Int) == m)) := by
  unfold eB
  cases h : cnB n L m
  · simp
  · by_cases e : (N : Int) = m <;> simp [e]
theorem eB_succ {n N k : Nat} {L : Lls} {m : Int} {V : Nat → Bool} : eB n L m N V (k + 1) = (eB n L m N V k && clB (L.N k) (L.Z k) N V) := by
  cases h : eB n L m N V k
  · cases h2 : eB n L m N V (k + 1)
    · rfl
    · unfold eB at h h2
      have h2 := of_decide_eq_true h2
      have h := of_decide_eq_false h
      exact absurd ⟨h2.1, h2.2.1, fun j hj => h2.2.2 j (by omega)⟩ h
  · unfold eB at h
    have h := of_decide_eq_true h
    cases hc : clB (L.N k) (L.Z k) N V
    · unfold eB
      rw [Bool.and_false]
      exact decide_eq_false fun x => by have := x.2.2 k (by omega); rw [hc] at this; cases this
    · unfold eB
      rw [Bool.and_true]
      exact decide_eq_true ⟨h.1, h.2.1, fun j hj => by
        by_cases e : j = k
        · subst e; exact hc
        · exact h.2.2 j (by omega)⟩
theorem ci_upto {n N k : Nat} {L : Lls} {m : Int} {V : Nat → Bool} (h : ciB n L m N V = true) (hk : k ≤ n) : ciB k L m N V = true := by
  rw [ciB_iff, cnB_iff] at *
  obtain ⟨⟨h1, h2, h3, h4⟩, h5, h6⟩ := h
  exact ⟨⟨h1, h2, by omega, fun j hj => h4 j (by omega)⟩, h5, fun j hj => h6 j (by omega)⟩
theorem IntSS.upto {w : World} {A : Option Addr} {n k : Nat} {L : Lls} (h : IntSS w A n L) (hk : k ≤ n) : IntSS w A k L := by
  rcases h with h | ⟨g, off, ha, hg, hc⟩
  · exact .inl (by omega)
  · exact .inr ⟨g, off, ha, hg, fun j hj => hc j (by omega)⟩
theorem hi_ss {o : Oper} {x y : Operand} (ho : o.op = .slice 23 x none (some y) none) {a : Act} {A : Option Addr} {n c k : Nat} (hx : a.eval x = .slice A n c) (hy : a.eval y = .int .i64 k) (hA : CapC A n c) (hk : k ≤ n) (w : World) :
    (execOp a.eval o).run Try.prog w = .ok (.value (.slice A k c)) w := by
  rcases hA with ⟨rfl, rfl, rfl⟩ | ⟨g, rfl, h1, h2⟩
  · have hk0 : k = 0 := by omega
    subst hk0
    unfold execOp
    rw [ho]
    simp only [Option.map_some, Option.map_none, hx, hy]
    simp [go_sem]
  · unfold execOp
    rw [ho]
    simp only [Option.map_some, Option.map_none, hx, hy]
    simp [go_sem, Addr.add]
    try omega
set_option maxRecDepth 100000 in
set_option maxHeartbeats 16000000 in
theorem walk_CnfIs (a0 : Option Addr) (len0 cap0 : Nat) (a1 : Option Addr) (len1 cap1 : Nat) (w : World) (hby : Bytes w.heap.size w a0 len0) (hlc : len0 ≤ cap0) (hc0 : cap0 ≤ 9223372036854775807) (hby1 : Bytes w.heap.size w a1 len1) (hlc1 : len1 ≤ cap1) (hc1 : cap1 ≤ 9223372036854775807) :
    Calls Try.prog 3 #[.slice a0 len0 cap0, .slice a1 len1 cap1] w fun e w' => e = .returned (.bool true) ∧ Below w.heap.size w w' := by
  clear hby1
  by_cases hbig : 1048576 < len0
  · go_enter Try.func3, Try.ntmps3
    go_wp2
    go_ret
    exact ⟨rfl, Below.refl _ _⟩
  have hb0 : decide (1048576 < (len0 : Int)) = false := decide_eq_false (by omega)
  by_cases hbig1 : 1048576 < len1
  · go_enter Try.func3, Try.ntmps3
    go_wp2
    go_ret
    exact ⟨rfl, Below.refl _ _⟩
  have hb1 : decide (1048576 < (len1 : Int)) = false := decide_eq_false (by omega)
  go_enter Try.func3, Try.ntmps3
  go_wp2_with fail
  refine (drawcnfis_any w.heap.size w a0 len0 cap0 (Nat.le_refl _) hby hlc hc0).mono ?_
  rintro e w1 ⟨m, A, c, ds, D, d, l, rfl, hm1, hm2, hdl, hll, hcap, hI, hN61, hB, q0⟩
  generalize llsC ds = L at *
  generalize (fun k => l.getD k false) = V at *
  generalize ds.length = n at *
  generalize l.length = N at *
  have hN : ∀ k, k < n → L.N k ≤ 9223372036854775807 := fun k hk => by have := hN61 k hk; omega
  clear hby hlc hc0 hbig hlc1 hc1 hb0 hb1 hN61
  have bx := row2_newC w1 (.int .i64 m) (.slice A n c) 25
  have al := bal (Below.refl w1.heap.size w1) (.cells #[.int .i64 m, .slice A n c] 25)
  replace hI := hI.below al
  replace hB := hB.below al
  replace q0 := btr q0 al
  clear al
  have hC := fun W h1 h2 => cnfis_any A D n c N d L V m W (by omega) (by omega) h1 h2
  have hS := fun W h1 h2 => scnfis_any A D n c N d L V m W (by omega) (by omega) h1 h2
  have hK := fun W h1 => cnfok_any A n c L m W (by omega) h1
  have hKs := fun W h1 => scnfok_any A n c L m W (by omega) h1
  go_upto_region 4 with fail
  generalize w1.alloc (.cells #[.int .i64 m, .slice A n c] 25) = w2 at *
  have b0 : w2.cell? ⟨w1.heap.size, 0, none⟩ = some (.int .i64 m) := bx.cell (i := 0) (by decide)
  have b1 : w2.cell? ⟨w1.heap.size, 1, none⟩ = some (.slice A n c) := bx.cell (i := 1) (by decide)
  go_wp2_with fail
  refine (hC _ hI hB).mono ?_
  rintro e w3 ⟨rfl, hq⟩
  clear hC b0 b1
  replace bx := bx.of_block (hq.block _ bx.lt)
  replace hI := hI.below hq
  replace hB := hB.below hq
  replace q0 := btr q0 hq
  clear hq
  go_upto_region 5 with fail
  have b0 : w3.cell? ⟨w1.heap.size, 0, none⟩ = some (.int .i64 m) := bx.cell (i := 0) (by decide)
  have b1 : w3.cell? ⟨w1.heap.size, 1, none⟩ = some (.slice A n c) := bx.cell (i := 1) (by decide)
  have qd := (Below.refl w3.heap.size w3).drew
  obtain ⟨so, hso⟩ : ∃ so, so = ciB n L m N V := ⟨_, rfl⟩
  rw [← hso] at hS ⊢
  obtain ⟨ok, hok⟩ : ∃ ok, ok = cnB n L m := ⟨_, rfl⟩
  rw [← hok] at hK hKs
  have HSO := hid hso; have HOK := hid hok
  clear hso hok qd
  have nso : (so != so) = false := by simp
  have nok : (ok != ok) = false := by simp
  have hSr := fun X : Gro w3 => hS (gro w3 X) (hI.below X.h) (hB.below X.h)
  have hKr := fun X : Gro w3 => hK (gro w3 X) (hI.below X.h)
  have hKsr := fun X : Gro w3 => hKs (gro w3 X) (hI.below X.h)
  have l0 := cell_lt b0
  have gc := @gro_cell w3
  refine wp_region_grow_lit (by kernel_rfl) (by kernel_rfl) ?_
  repeat (go_big_quiet_step (first | (go_at_call 11; exact grow_call _ (hSr _)) | (go_at_call 12; exact grow_call _ (hKr _)) | (go_at_call 13; exact grow_call _ (hKsr _))))
  refine wpQuiet_nil ?_
  rintro _ ⟨X, rfl⟩
  clear gc hSr hKr hKsr hS hKs l0
  have XH : Below w3.heap.size w3 (gro w3 X) := X.h
  replace hI := hI.below XH
  replace hB := hB.below XH
  replace q0 := btr q0 XH
  replace b0 := carry XH b0
  replace b1 := carry XH b1
  clear XH bx
  generalize gro w3 X = w4 at *
  go_upto_region 7 with fail
  go_cut [8] (fun v wx => v = .bool (eB n L m N V 0) ∧ Below w4.heap.size w4 wx)
  case first =>
    cases hk2 : ok
    · rw [hk2] at hK HOK
      have HE := hid (show eB n L m N V 0 = false from by rw [eB_zero, ← HOK.out]; rfl)
      clear hk2
      go_wp2_with (go_at_call 12; refine (hK _ hI).mono ?_; rintro e w5 ⟨rfl, hq5⟩)
      go_meet
      exact ⟨by rw [HE.out], hq5⟩
    · rw [hk2] at hK HOK
      have HE := hid (show eB n L m N V 0 = ((N : Int) == m) from by rw [eB_zero, ← HOK.out]; rfl)
      clear hk2
      go_wp2_with fail
      refine (hK _ hI).mono ?_
      rintro e w5 ⟨rfl, hq5⟩
      replace b0 := carry hq5 b0
      go_wp2_with fail
      go_meet
      exact ⟨by rw [HE.out], hq5⟩
  case rest =>
    obtain ⟨rfl, hq5⟩ := hcut
    replace hI := hI.below hq5
    replace hB := hB.below hq5
    replace q0 := btr q0 hq5
    replace b0 := carry hq5 b0
    replace b1 := carry hq5 b1
    clear hq5 hK nok HOK
    have HEN := hid (show eB n L m N V n = so from by rw [HSO.out]; rfl)
    have HUP := hid (fun (k : Nat) (hk : k ≤ n) (h : so = true) => ci_upto (by rw [← HSO.out]; exact h) hk)
    clear HSO
    go_wp2
    go_loopw [8, 9] (fun b i wr => ∃ k : Nat, k ≤ n ∧ i = .int .i64 (k : Int) ∧ b = .bool (eB n L m N V k) ∧ Below _ _ wr) (fun _ i _ => n - (intOf i).toNat)
    case atStart => exact ⟨0, Nat.zero_le _, rfl, rfl, Below.refl _ _⟩
    case round =>
      obtain ⟨k, hk, rfl, rfl, hb⟩ := hrel
      have y0 := carry hb b0
      have y1 := carry hb b1
      by_cases hlt : k < n
      · have hIk := hI.below hb
        have ib := hB.below hb
        rcases hIk with h0 | ⟨g, off, rfl, hg, hcA⟩
        · omega
        obtain ⟨a, ca, a0', hNk, hZ⟩ := hcA k hlt
        have hkI : (k : Int) < (n : Int) := by omega
        have HS := hid (eB_succ (n := n) (L := L) (m := m) (N := N) (V := V) (k := k))
        have hcl := fun W h1 h2 => clauseis_any a D (L.N k) ca N d (L.Z k) V W (by omega) (by omega) h1 h2
        generalize clB (L.N k) (L.Z k) N V = ck at *
        generalize eB n L m N V k = ak at *
        clear hcA
        cases ak
        · go_wp2
          go_roundw
          case rel => exact ⟨k + 1, by omega, by go_num, by rw [HS.out]; rfl, hb⟩
          case measure => simp [intOf]; omega
        · have hcl2 := hcl _ hZ ib
          go_wp2_with (go_at_call 14; refine hcl2.mono ?_; rintro e wy ⟨rfl, hqy⟩)
          go_roundw
          case rel => exact ⟨k + 1, by omega, by go_num, by rw [HS.out]; rfl, btr hb hqy⟩
          case measure => simp [intOf]; omega
      · have hke : n = k := by omega
        subst hke
        rw [HEN.out]
        have hI2 := hI.below hb
        have hB2 := hB.below hb
        obtain ⟨kk, hkk⟩ : ∃ kk, kk = len1 % (n + 1) := ⟨_, rfl⟩
        have hkn : kk ≤ n := by rw [hkk]; have := Nat.mod_lt len1 (y := n + 1) (by omega); omega
        have hkm : (len1 : Int).tmod ((n : Int) + 1) = (kk : Int) := by
          have e1 : ((n : Int) + 1) = ((n + 1 : Nat) : Int) := by omega
          rw [e1, hkk]
          exact (Int.ofNat_tmod len1 (n + 1)).symm
        have hn1 : ((n : Int) + 1 == 0) = false := by simp; omega
        have hkI : (kk : Int) ≤ (n : Int) := by omega
        clear hkk
        rcases hcap with ⟨rfl, hn0, rfl⟩ | ⟨ga, rfl, hc1, hc2⟩
        · have hk0 : kk = 0 := by omega
          subst hk0
          cases hso2 : so
          · clear HUP
            go_upto_region 13 with fail
            have gc := @gro_cell wr
            refine wp_region_grow_lit (by kernel_rfl) (by kernel_rfl) ?_
            repeat (go_big_quiet_step (fail))
            refine wpQuiet_nil ?_
            rintro _ ⟨X, rfl⟩
            go_wp2
            go_ret
            exact ⟨rfl, btr q0 (btr hb X.h)⟩
          · have hup := HUP.out 0 hkn hso2
            have hCk := fun X : Gro wr => cnfis_any none D 0 0 N d L V m (gro wr X) (by omega) (by omega) (IntSS.upto (hI2.below X.h) hkn) (hB2.below X.h)
            rw [hup] at hCk
            clear hup HUP
            go_upto_region 13 with fail
            have gc := @gro_cell wr
            have l0 := cell_lt y0
            refine wp_region_grow_lit (by kernel_rfl) (by kernel_rfl) ?_
            repeat (go_big_quiet_step ((go_at_call 10; exact grow_call _ (hCk _))))
            refine wpQuiet_nil ?_
            rintro _ ⟨X, rfl⟩
            go_wp2
            go_ret
            exact ⟨rfl, btr q0 (btr hb X.h)⟩
        · have hkc : (kk : Int) ≤ (c : Int) := by omega
          have hkc' : kk ≤ c := by omega
          cases hso2 : so
          · clear HUP
            go_upto_region 13 with fail
            have gc := @gro_cell wr
            refine wp_region_grow_lit (by kernel_rfl) (by kernel_rfl) ?_
            repeat (go_big_quiet_step (fail))
            refine wpQuiet_nil ?_
            rintro _ ⟨X, rfl⟩
            go_wp2
            go_ret
            exact ⟨rfl, btr q0 (btr hb X.h)⟩
          · have hup := HUP.out kk hkn hso2
            have hCk := fun X : Gro wr => cnfis_any (some ⟨ga, 0, none⟩) D kk c N d L V m (gro wr X) (by omega) (by omega) (IntSS.upto (hI2.below X.h) hkn) (hB2.below X.h)
            rw [hup] at hCk
            clear hup HUP
            go_upto_region 13 with fail
            have gc := @gro_cell wr
            have l0 := cell_lt y0
            refine wp_region_grow_lit (by kernel_rfl) (by kernel_rfl) ?_
            repeat (go_big_quiet_step ((go_at_call 10; exact grow_call _ (hCk _))))
            refine wpQuiet_nil ?_
            rintro _ ⟨X, rfl⟩
            go_wp2
            go_ret
            exact ⟨rfl, btr q0 (btr hb X.h)⟩
end Go.Proofs.Ytoechhdahokoiaa
