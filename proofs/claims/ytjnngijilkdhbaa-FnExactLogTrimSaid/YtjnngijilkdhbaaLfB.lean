/- followFrom and LogOk of the program. -/
import Derived.Test.YtjnngijilkdhbaaLfA
namespace Go.Proofs.Ytjnngijilkdhbaa
set_option linter.unusedVariables false
set_option linter.unusedSimpArgs false
open Go.RowKit
theorem IntSS.pre {w : World} {A : Option Addr} {n k : Nat} {L : Lls} (h : IntSS w A n L) (hk : k ≤ n) : IntSS w A k L := by
  rcases h with h | ⟨g, off, ha, hg, hc⟩
  · exact .inl (by omega)
  · exact .inr ⟨g, off, ha, hg, fun j hj => hc j (by omega)⟩
noncomputable def logB (first n : Nat) (L : Lls) (m : Int) (N : Nat) (M : Lls) : Bool := (List.range N).all fun i => decide (i < first) || rupB (n + i) (catL n L M) m (M.N i) (M.Z i)
theorem logB_yes {first n : Nat} {L : Lls} {m : Int} {N : Nat} {M : Lls} (h : ∀ i, first ≤ i → i < N → rupB (n + i) (catL n L M) m (M.N i) (M.Z i) = true) : logB first n L m N M = true := by
  unfold logB
  rw [List.all_eq_true]
  intro i hi
  have hi' := List.mem_range.1 hi
  by_cases hf : i < first
  · simp [hf]
  · simp [h i (by omega) hi']
theorem logB_no {first n : Nat} {L : Lls} {m : Int} {N i : Nat} {M : Lls} (hf : first ≤ i) (hi : i < N) (h : rupB (n + i) (catL n L M) m (M.N i) (M.Z i) = false) : logB first n L m N M = false := by
  cases e : logB first n L m N M
  · rfl
  · unfold logB at e
    rw [List.all_eq_true] at e
    have := e i (List.mem_range.2 hi)
    rw [h] at this
    simp at this
    omega
set_option maxHeartbeats 8000000 in
set_option maxRecDepth 100000 in
theorem followfrom_any (first : Nat) (A : Option Addr) (n c : Nat) (L : Lls) (m : Int) (G : Option Addr) (N cG : Nat) (M : Lls) (w : World) (hn : n ≤ 1000) (hN : N ≤ 1000) (hf : first ≤ N) (hA : IntSS w A n L) (hG : IntSS w G N M) :
    Calls Try.prog 34 #[.int .i64 first, .agg #[.int .i64 m, .slice A n c], .slice G N cG] w fun e w' => e = .returned (.bool (logB first n L m N M)) ∧ Below w.heap.size w w' := by
  have q0 := bal (Below.refl w.heap.size w) (.cells #[.int .i64 m, .slice A n c] 31)
  obtain ⟨c0, c1⟩ := pair_new w (.int .i64 m) (.slice A n c) 31
  have y0 := cell_lt c0
  generalize hres : logB first n L m N M = res
  have HR := hid hres; clear hres
  go_enter Try.func34, Try.ntmps34
  go_upto_region 1 with fail
  generalize w.alloc (.cells #[.int .i64 m, .slice A n c] 31) = w1 at *
  have al := bal (Below.refl w1.heap.size w1) (.cells #[.slice A n c, .slice G N cG] 22)
  obtain ⟨p0, p1⟩ := pair_new w1 (.slice A n c) (.slice G N cG) 22
  replace q0 := btr q0 al
  have hC := concat_any p0 p1 (hA.below q0) (hG.below q0) hn hN
  have x0 := carry al c0
  have x1 := carry al c1
  go_wp2_with fail
  refine hC.mono ?_
  rintro e w2 ⟨v2, rfl, hRS, q2⟩
  obtain ⟨A2, c2, rfl, hc2⟩ := hRS.slice
  have I2 := hRS.intss q2
  replace q0 := btr q0 q2
  replace hG := hG.below q0
  replace x0 := carry q2 x0
  replace x1 := carry q2 x1
  have hE := fun (k : Nat) (hk : k ≤ N) (B : Option Addr) (cB : Nat) W (h : Below w2.heap.size w2 W) (hNk : M.N k ≤ 9223372036854775807) (hB : Ints W B (M.N k) (M.Z k)) => cnfrup_any A2 (n + k) c2 (catL n L M) m B (M.N k) cB (M.Z k) W (by omega) ((I2.pre (by omega)).below h) hNk hB
  clear hC hRS q2 p0 p1 al c0 c1 y0 hA
  have y0 := cell_lt x0
  go_wp2
  go_loopw [8] (fun i wr => ∃ k : Nat, first ≤ k ∧ k ≤ N ∧ i = .int .i64 (k : Int) ∧ Below w2.heap.size w2 wr ∧ ∀ j, first ≤ j → j < k → rupB (n + j) (catL n L M) m (M.N j) (M.Z j) = true) (fun i _ => N - (intOf i).toNat)
  case atStart => exact ⟨first, Nat.le_refl _, hf, rfl, Below.refl _ _, fun j h1 h2 => by omega⟩
  case round =>
    obtain ⟨k, hfk, hk, rfl, hb, hall⟩ := hrel
    by_cases hlt : k < N
    · rcases hG with h0 | ⟨g, off, rfl, hg, hcG⟩
      · omega
      rcases I2 with h0 | ⟨g2, off2, rfl, hg2, _⟩
      · omega
      obtain ⟨a, ca, g0, hNk, hZ⟩ := hcG k hlt
      replace x0 := carry hb x0
      replace x1 := carry hb x1
      replace g0 := carry hb g0
      replace hZ := hZ.below hb
      replace q0 := btr q0 hb
      have y1 := cell_lt x0
      have y2 := cell_lt g0
      have gc := @gro_cell wr
      have HA := hid hall
      clear hcG hall
      have hE1 := fun X : Gro wr => hE k (by omega) a ca (gro wr X) (btr hb X.h) hNk (hZ.below X.h)
      clear hE
      rcases hr : rupB (n + k) (catL n L M) m (M.N k) (M.Z k) with _ | _ <;> rw [hr] at hE1
      · go_upto_region 5 with fail
        refine wp_region_grow_lit (by kernel_rfl) (by kernel_rfl) ?_
        repeat (go_big_quiet_step ((go_at_call 30; exact grow_call _ (hE1 _))))
        refine wpQuiet_nil ?_
        rintro _ ⟨X, rfl⟩
        clear gc hE1
        go_wp2
        go_ret
        exact ⟨by rw [← HR.out, logB_no hfk hlt hr]; rfl, btr q0 X.h⟩
      · go_upto_region 5 with fail
        refine wp_region_grow_lit (by kernel_rfl) (by kernel_rfl) ?_
        repeat (go_big_quiet_step ((go_at_call 30; exact grow_call _ (hE1 _))))
        refine wpQuiet_nil ?_
        rintro _ ⟨X, rfl⟩
        clear gc hE1
        go_wp2
        go_roundw
        case rel => exact ⟨k + 1, by omega, by omega, by go_num, btr hb X.h, fun j h1 h2 => by
          by_cases e : j < k
          · exact HA.out j h1 e
          · obtain rfl : j = k := by omega
            exact hr⟩
        case measure => simp [intOf]; omega
    · obtain rfl : k = N := by omega
      go_wp2
      go_ret
      exact ⟨by rw [← HR.out, logB_yes hall]; rfl, btr q0 hb⟩
/-- what LogOk says -/
noncomputable def lokB (n : Nat) (L : Lls) (m : Int) (N : Nat) (M : Lls) : Bool := cnB n L m && (decide (N ≤ 130) && (decide (n + N ≤ 400) && logB 0 n L m N M))
set_option maxHeartbeats 8000000 in
set_option maxRecDepth 100000 in
theorem logok_any (A : Option Addr) (n c : Nat) (L : Lls) (m : Int) (G : Option Addr) (N cG : Nat) (M : Lls) (w : World) (hn : n ≤ 9223372036854775807) (hN : N ≤ 9223372036854775807) (hA : IntSS w A n L) (hG : IntSS w G N M) :
    Calls Try.prog 16 #[.agg #[.int .i64 m, .slice A n c], .slice G N cG] w fun e w' => e = .returned (.bool (lokB n L m N M)) ∧ Below w.heap.size w w' := by
  have q0 := bal (Below.refl w.heap.size w) (.cells #[.int .i64 m, .slice A n c] 31)
  obtain ⟨c0, c1⟩ := pair_new w (.int .i64 m) (.slice A n c) 31
  have hK := fun W (h : Below w.heap.size w W) => cnfok_any A n c L m W hn (hA.below h)
  have hF := fun W (h : Below w.heap.size w W) (h1 : n ≤ 1000) (h2 : N ≤ 1000) => followfrom_any 0 A n c L m G N cG M W h1 h2 (Nat.zero_le _) (hA.below h) (hG.below h)
  have hcn : cnB n L m = true → n ≤ 400 := fun h => (cnB_iff.1 h).2.2.1
  generalize hres : lokB n L m N M = res
  have HR := hid hres; clear hres
  go_enter Try.func16, Try.ntmps16
  go_upto_region 1 with fail
  generalize w.alloc (.cells #[.int .i64 m, .slice A n c] 31) = w1 at *
  have y0 := cell_lt c0
  rcases hb : cnB n L m with _ | _ <;> rw [hb] at hK
  · go_wp2_with fail
    refine (hK w1 q0).mono ?_
    rintro e w2 ⟨rfl, hq⟩
    go_wp2
    go_ret
    exact ⟨by rw [← HR.out]; simp [lokB, hb], btr q0 hq⟩
  · have hn4 := hcn hb
    by_cases h130 : 130 < N
    · have d1 : decide (130 < (N : Int)) = true := decide_eq_true (by omega)
      go_wp2_with fail
      refine (hK w1 q0).mono ?_
      rintro e w2 ⟨rfl, hq⟩
      replace c0 := carry hq c0
      replace c1 := carry hq c1
      go_wp2
      go_ret
      exact ⟨by rw [← HR.out]; simp [lokB, show ¬ N ≤ 130 by omega], btr q0 hq⟩
    · have d1 : decide (130 < (N : Int)) = false := decide_eq_false (by omega)
      by_cases h400 : 400 < n + N
      · have d2 : decide (400 < (n : Int) + (N : Int)) = true := decide_eq_true (by omega)
        go_wp2_with fail
        refine (hK w1 q0).mono ?_
        rintro e w2 ⟨rfl, hq⟩
        replace c0 := carry hq c0
        replace c1 := carry hq c1
        go_wp2
        go_ret
        exact ⟨by rw [← HR.out]; simp [lokB, show ¬ n + N ≤ 400 by omega], btr q0 hq⟩
      · have d2 : decide (400 < (n : Int) + (N : Int)) = false := decide_eq_false (by omega)
        have hr : logB 0 n L m N M = res := by rw [← HR.out]; simp [lokB, hb, show N ≤ 130 by omega, show n + N ≤ 400 by omega]
        go_wp2_with fail
        refine (hK w1 q0).mono ?_
        rintro e w2 ⟨rfl, hq⟩
        replace c0 := carry hq c0
        replace c1 := carry hq c1
        replace q0 := btr q0 hq
        have y1 := cell_lt c0
        go_wp2_with fail
        refine (hF w2 q0 (by omega) (by omega)).mono ?_
        rintro e w3 ⟨rfl, hq2⟩
        go_wp2
        go_ret
        exact ⟨rfl, btr q0 hq2⟩
end Go.Proofs.Ytjnngijilkdhbaa
