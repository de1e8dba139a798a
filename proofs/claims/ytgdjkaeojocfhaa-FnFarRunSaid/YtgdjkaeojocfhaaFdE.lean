/- Walk of FnFarRun. -/
import Derived.Test.YtgdjkaeojocfhaaB4
import Derived.Test.YtgdjkaeojocfhaaFarM
import Derived.Test.YtgdjkaeojocfhaaFarH
import Derived.Test.YtgdjkaeojocfhaaBZ
namespace Go.Proofs.Ytgdjkaeojocfhaa
set_option linter.unusedVariables false
set_option linter.unusedSimpArgs false
open Go.RowKit
set_option maxHeartbeats 2000000 in
theorem wprats_same (A B : Option Addr) (n c d : Nat) (N D : Nat → Int) (w : World) (hn : n ≤ 9223372036854775807) (hA : Rats w A n N D) (hB : Rats w B n N D) :
    Calls Try.prog 8 #[.slice A n c, .slice B n d] w fun e w' => e = .returned (.bool true) ∧ Below w.heap.size w w' := by
  have dn : ((n : Int) != (n : Int)) = false := by simp
  go_enter Try.func8, Try.ntmps8
  go_wp2
  go_loopw [5] (fun i wr => ∃ k : Nat, k ≤ n ∧ i = .int .i64 k ∧ Below w.heap.size w wr) (fun i _ => n - (intOf i).toNat)
  case atStart => exact ⟨0, Nat.zero_le _, rfl, Below.refl _ _⟩
  case round =>
    obtain ⟨k, hk, rfl, hb⟩ := hrel
    by_cases hlt : k < n
    · rcases hA with h0 | ⟨g, off, rfl, hg, hcA⟩
      · omega
      rcases hB with h0 | ⟨g2, off2, rfl, hg2, hcB⟩
      · omega
      have gg : g < wr.heap.size := Nat.lt_of_lt_of_le hg hb.size
      have gg2 : g2 < wr.heap.size := Nat.lt_of_lt_of_le hg2 hb.size
      have a0 : wr.cell? ⟨g, off + k * 2, none⟩ = some (.int .i64 (N k)) := carry hb (hcA k hlt).1
      have a1 : wr.cell? ⟨g, off + k * 2 + 1, none⟩ = some (.int .i64 (D k)) := carry hb (hcA k hlt).2
      have b0 : wr.cell? ⟨g2, off2 + k * 2, none⟩ = some (.int .i64 (N k)) := carry hb (hcB k hlt).1
      have b1 : wr.cell? ⟨g2, off2 + k * 2 + 1, none⟩ = some (.int .i64 (D k)) := carry hb (hcB k hlt).2
      clear hcA hcB
      have hE := eqrat_run (N k) (D k) (N k) (D k)
      have gc := @gro_cell wr
      go_upto_region 6 with fail
      refine wp_region_grow_lit (by kernel_rfl) (by kernel_rfl) ?_
      repeat (go_big_quiet_step (fail))
      refine wpQuiet_nil ?_
      rintro _ ⟨X, rfl⟩
      clear gc
      go_wp2
      go_roundw
      case rel => exact ⟨k + 1, by omega, by go_num, btr hb X.h⟩
      case measure => simp [intOf]; omega
    · have hke : k = n := by omega
      subst hke
      go_wp2
      go_ret
      exact ⟨rfl, hb⟩
set_option maxHeartbeats 2000000 in
theorem wpnums_same (A B : Option Addr) (n c d : Nat) (Z : Nat → Int) (w : World) (hn : n ≤ 9223372036854775807) (hA : Ints w A n Z) (hB : Ints w B n Z) :
    Calls Try.prog 9 #[.slice A n c, .slice B n d] w fun e w' => e = .returned (.bool true) ∧ Below w.heap.size w w' := by
  have dn : ((n : Int) != (n : Int)) = false := by simp
  go_enter Try.func9, Try.ntmps9
  go_wp2
  go_loopw [5] (fun i wr => ∃ k : Nat, k ≤ n ∧ i = .int .i64 k ∧ Below w.heap.size w wr) (fun i _ => n - (intOf i).toNat)
  case atStart => exact ⟨0, Nat.zero_le _, rfl, Below.refl _ _⟩
  case round =>
    obtain ⟨k, hk, rfl, hb⟩ := hrel
    by_cases hlt : k < n
    · rcases hA with h0 | ⟨g, off, rfl, hg, hcA⟩
      · omega
      rcases hB with h0 | ⟨g2, off2, rfl, hg2, hcB⟩
      · omega
      have gg : g < wr.heap.size := Nat.lt_of_lt_of_le hg hb.size
      have gg2 : g2 < wr.heap.size := Nat.lt_of_lt_of_le hg2 hb.size
      have a0 : wr.cell? ⟨g, off + k, none⟩ = some (.int .i64 (Z k)) := carry hb (hcA k hlt)
      have b0 : wr.cell? ⟨g2, off2 + k, none⟩ = some (.int .i64 (Z k)) := carry hb (hcB k hlt)
      clear hcA hcB
      have gc := @gro_cell wr
      go_upto_region 6 with fail
      refine wp_region_grow_lit (by kernel_rfl) (by kernel_rfl) ?_
      repeat (go_big_quiet_step (fail))
      refine wpQuiet_nil ?_
      rintro _ ⟨X, rfl⟩
      clear gc
      go_wp2
      go_roundw
      case rel => exact ⟨k + 1, by omega, by go_num, btr hb X.h⟩
      case measure => simp [intOf]; omega
    · have hke : k = n := by omega
      subst hke
      go_wp2
      go_ret
      exact ⟨rfl, hb⟩
theorem runE_y {n : Nat} {L : Lst} {N D : Nat → Int} (h : runE n L = .yes N D) : allB n L 4 N D = true := by
  unfold runE at h
  split at h
  · cases h
  · split at h
    · cases h
    · split at h
      · split at h <;> cases h
      · split at h
        · cases h
        · split at h
          · rename_i e; injection h with h1 h2; subst h1; subst h2; exact e
          · cases h
theorem runE_n {n : Nat} {L : Lst} {U : Nat → Int} (h : runE n L = .no U) : farOkB (farS n L n U) = true := by
  unfold runE at h
  split at h
  · cases h
  · split at h
    · cases h
    · split at h
      · split at h
        · rename_i e; injection h with h1; subst h1; exact e
        · cases h
      · split at h
        · cases h
        · split at h <;> cases h
set_option maxRecDepth 100000 in
set_option maxHeartbeats 16000000 in
theorem walk_FarRun (a0 : Option Addr) (len0 cap0 : Nat) (w : World) (hby : Bytes w.heap.size w a0 len0) (hlc : len0 ≤ cap0) (hc : cap0 ≤ 9223372036854775807) :
    Calls Try.prog 3 #[.slice a0 len0 cap0] w fun e w' => e = .returned (.bool true) ∧ Below w.heap.size w w' := by
  by_cases hbig : 1048576 < len0
  · go_enter Try.func3, Try.ntmps3
    go_wp2
    go_ret
    exact ⟨rfl, Below.refl _ _⟩
  go_enter Try.func3, Try.ntmps3
  go_wp2_with fail
  refine (drawfarrun_any w.heap.size w a0 len0 cap0 (Nat.le_refl _) hby hlc hc).mono ?_
  rintro e w1 ⟨A, n, c, L, rfl, hn, hA, hN, hq⟩
  clear hby hlc hc hbig
  have HN := hid (show ∀ k, k < n → L.N k ≤ 1048576 from fun k hk => by have := hN k hk; omega)
  have HA := hid hA
  clear hN hA
  cases hr : runE n L with
  | yes N D =>
      have hall := runE_y hr
      have hI := farrun_any A n c L w1 (by omega) HA.out HN.out
      have hP := fun W h => sfarrun_any A n c L W (by omega) (HA.out.below h) HN.out
      rw [hr] at hI hP
      unfold RunP at hI
      unfold SRunP at hP
      simp only [FarE.m, FarE.k, FarE.N, FarE.D, FarE.U, FarE.code] at hI hP
      go_wp2_with fail
      refine hI.mono ?_
      rintro e w2 ⟨A1, c1, B1, d1, rfl, hq2, O1, I1⟩
      clear hI
      go_wp2_with fail
      refine (hP _ hq2).mono ?_
      rintro e w3 ⟨A2, c2, B2, d2, rfl, hq3, O2, I2⟩
      clear hP
      have hb3 := btr hq2 hq3
      have hWR := wprats_same A1 A2 4 c1 c2 N D w3 (by omega) (O1.rats.below hq3) O2.rats
      have hWN := fun W h => wpnums_same B1 B2 0 d1 d2 (fun _ => 0) W (by omega) ((I1.ownB.ints.below hq3).below h) (I2.ints.below h)
      go_wp2_with fail
      refine hWR.mono ?_
      rintro e w4 ⟨rfl, hq4⟩
      clear hWR
      go_wp2_with fail
      refine (hWN _ hq4).mono ?_
      rintro e w5 ⟨rfl, hq5⟩
      clear hWN
      have hb5 := btr (btr hb3 hq4) hq5
      have hF := farall_any A n c L A1 4 c1 N D w5 (by omega) (HA.out.below hb5) HN.out (by omega) (((O1.rats.below hq3).below hq4).below hq5)
      rw [hall] at hF
      go_wp2_with fail
      refine hF.mono ?_
      rintro e w6 ⟨rfl, hq6⟩
      go_wp2
      go_ret
      exact ⟨rfl, btr (btr hq hb5) hq6⟩
  | no U =>
      have hbad := runE_n hr
      have hI := farrun_any A n c L w1 (by omega) HA.out HN.out
      have hP := fun W h => sfarrun_any A n c L W (by omega) (HA.out.below h) HN.out
      rw [hr] at hI hP
      unfold RunP at hI
      unfold SRunP at hP
      simp only [FarE.m, FarE.k, FarE.N, FarE.D, FarE.U, FarE.code] at hI hP
      go_wp2_with fail
      refine hI.mono ?_
      rintro e w2 ⟨A1, c1, B1, d1, rfl, hq2, O1, I1⟩
      clear hI
      go_wp2_with fail
      refine (hP _ hq2).mono ?_
      rintro e w3 ⟨A2, c2, B2, d2, rfl, hq3, O2, I2⟩
      clear hP
      have hb3 := btr hq2 hq3
      have hWR := wprats_same A1 A2 0 c1 c2 (fun _ => 0) (fun _ => 0) w3 (by omega) (O1.rats.below hq3) O2.rats
      have hWN := fun W h => wpnums_same B1 B2 n d1 d2 U W (by omega) ((I1.ownB.ints.below hq3).below h) (I2.ints.below h)
      go_wp2_with fail
      refine hWR.mono ?_
      rintro e w4 ⟨rfl, hq4⟩
      clear hWR
      go_wp2_with fail
      refine (hWN _ hq4).mono ?_
      rintro e w5 ⟨rfl, hq5⟩
      clear hWN
      have hb5 := btr (btr hb3 hq4) hq5
      have hF := farok_any A n c L B1 n d1 U w5 (by omega) (HA.out.below hb5) (by omega) (((I1.ownB.ints.below hq3).below hq4).below hq5) HN.out
      rw [hbad] at hF
      go_wp2_with fail
      refine hF.mono ?_
      rintro e w6 ⟨rfl, hq6⟩
      go_wp2
      go_ret
      exact ⟨rfl, btr (btr hq hb5) hq6⟩
  | much =>
      have hI := farrun_any A n c L w1 (by omega) HA.out HN.out
      have hP := fun W h => sfarrun_any A n c L W (by omega) (HA.out.below h) HN.out
      rw [hr] at hI hP
      unfold RunP at hI
      unfold SRunP at hP
      simp only [FarE.m, FarE.k, FarE.N, FarE.D, FarE.U, FarE.code] at hI hP
      go_wp2_with fail
      refine hI.mono ?_
      rintro e w2 ⟨A1, c1, B1, d1, rfl, hq2, O1, I1⟩
      clear hI
      go_wp2_with fail
      refine (hP _ hq2).mono ?_
      rintro e w3 ⟨A2, c2, B2, d2, rfl, hq3, O2, I2⟩
      clear hP
      have hb3 := btr hq2 hq3
      have hWR := wprats_same A1 A2 0 c1 c2 (fun _ => 0) (fun _ => 0) w3 (by omega) (O1.rats.below hq3) O2.rats
      have hWN := fun W h => wpnums_same B1 B2 0 d1 d2 (fun _ => 0) W (by omega) ((I1.ownB.ints.below hq3).below h) (I2.ints.below h)
      go_wp2_with fail
      refine hWR.mono ?_
      rintro e w4 ⟨rfl, hq4⟩
      clear hWR
      go_wp2_with fail
      refine (hWN _ hq4).mono ?_
      rintro e w5 ⟨rfl, hq5⟩
      clear hWN
      have hb5 := btr (btr hb3 hq4) hq5
      go_wp2
      go_ret
      exact ⟨rfl, btr hq hb5⟩
  | form =>
      have hI := farrun_any A n c L w1 (by omega) HA.out HN.out
      have hP := fun W h => sfarrun_any A n c L W (by omega) (HA.out.below h) HN.out
      rw [hr] at hI hP
      unfold RunP at hI
      unfold SRunP at hP
      simp only [FarE.m, FarE.k, FarE.N, FarE.D, FarE.U, FarE.code] at hI hP
      go_wp2_with fail
      refine hI.mono ?_
      rintro e w2 ⟨A1, c1, B1, d1, rfl, hq2, O1, I1⟩
      clear hI
      go_wp2_with fail
      refine (hP _ hq2).mono ?_
      rintro e w3 ⟨A2, c2, B2, d2, rfl, hq3, O2, I2⟩
      clear hP
      have hb3 := btr hq2 hq3
      have hWR := wprats_same A1 A2 0 c1 c2 (fun _ => 0) (fun _ => 0) w3 (by omega) (O1.rats.below hq3) O2.rats
      have hWN := fun W h => wpnums_same B1 B2 0 d1 d2 (fun _ => 0) W (by omega) ((I1.ownB.ints.below hq3).below h) (I2.ints.below h)
      go_wp2_with fail
      refine hWR.mono ?_
      rintro e w4 ⟨rfl, hq4⟩
      clear hWR
      go_wp2_with fail
      refine (hWN _ hq4).mono ?_
      rintro e w5 ⟨rfl, hq5⟩
      clear hWN
      have hb5 := btr (btr hb3 hq4) hq5
      go_wp2
      go_ret
      exact ⟨rfl, btr hq hb5⟩
end Go.Proofs.Ytgdjkaeojocfhaa
