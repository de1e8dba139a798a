/- Walks of FnClauseOf and FnClauseAlways. -/
import Derived.Test.YtpnnpdofgcfmgaaDcB
import Derived.Test.YtpnnpdofgcfmgaaDcM
namespace Go.Proofs.Ytpnnpdofgcfmgaa
set_option linter.unusedVariables false
set_option linter.unusedSimpArgs false
open Go.RowKit
theorem Bytes.belowC {B : Nat} {w w' : World} {a : Option Addr} {len : Nat} (h : Bytes B w a len) (hb : Below B w w') : Bytes B w' a len :=
  h.mono fun b o v hl hc => (hb.cell (p := ⟨b, o, none⟩) hl).trans hc
set_option maxHeartbeats 2000000 in
theorem wpnums_sameC (A B : Option Addr) (n c d : Nat) (Z : Nat → Int) (w : World) (hn : n ≤ 9223372036854775807) (hA : Ints w A n Z) (hB : Ints w B n Z) :
    Calls Try.prog 11 #[.slice A n c, .slice B n d] w fun e w' => e = .returned (.bool true) ∧ Below w.heap.size w w' := by
  have dn : ((n : Int) != (n : Int)) = false := by simp
  go_enter Try.func11, Try.ntmps11
  go_wp2
  go_loopw [5] (fun i wr => ∃ k : Nat, k ≤ n ∧ i = .int .i64 k ∧ Below w.heap.size w wr) (fun i _ => n - (intOf i).toNat)
  case atStart => exact ⟨0, Nat.zero_le _, rfl, Below.refl _ _⟩
  case round =>
    obtain ⟨k, hk, rfl, hb⟩ := hrel
    by_cases hlt : k < n
    · rcases hA with h0 | ⟨g, off, rfl, hg, hcA⟩
      · omega
      rcases hB with h0 | ⟨g2, off2, rfl, hg2, hcB⟩
      · omega
      have gg : g < wr.heap.size := Nat.lt_of_lt_of_le hg hb.size
      have gg2 : g2 < wr.heap.size := Nat.lt_of_lt_of_le hg2 hb.size
      have a0 : wr.cell? ⟨g, off + k, none⟩ = some (.int .i64 (Z k)) := carry hb (hcA k hlt)
      have b0 : wr.cell? ⟨g2, off2 + k, none⟩ = some (.int .i64 (Z k)) := carry hb (hcB k hlt)
      clear hcA hcB
      have gc := @gro_cell wr
      go_upto_region 6 with fail
      refine wp_region_grow_lit (by kernel_rfl) (by kernel_rfl) ?_
      repeat (go_big_quiet_step (fail))
      refine wpQuiet_nil ?_
      rintro _ ⟨X, rfl⟩
      clear gc
      go_wp2
      go_roundw
      case rel => exact ⟨k + 1, by omega, by go_num, btr hb X.h⟩
      case measure => simp [intOf]; omega
    · have hke : k = n := by omega
      subst hke
      go_wp2
      go_ret
      exact ⟨rfl, hb⟩
set_option maxRecDepth 100000 in
set_option maxHeartbeats 16000000 in
theorem walk_ClauseOf (a0 : Option Addr) (len0 cap0 : Nat) (w : World) (hby : Bytes w.heap.size w a0 len0) (hlc : len0 ≤ cap0) (hc : cap0 ≤ 9223372036854775807) :
    Calls Try.prog 3 #[.slice a0 len0 cap0] w fun e w' => e = .returned (.bool true) ∧ Below w.heap.size w w' := by
  by_cases hbig : 1048576 < len0
  · go_enter Try.func3, Try.ntmps3
    go_wp2
    go_ret
    exact ⟨rfl, Below.refl _ _⟩
  go_enter Try.func3, Try.ntmps3
  go_wp2_with fail
  refine (drawclauseof_any w.heap.size w a0 len0 cap0 (Nat.le_refl _) hby hlc hc).mono ?_
  rintro e w1 ⟨A, c, l, rfl, hl, hA, hq⟩
  have q0 := hq
  clear hq
  go_wp2_with fail
  refine (drawclauseis_any w.heap.size w1 a0 len0 cap0 q0.size (hby.belowC q0) hlc hc).mono ?_
  rintro e w2 ⟨_, _, _, B, d, m, rfl, _, hm, _, hB, hq⟩
  replace hA := hA.below hq
  replace q0 := btr q0 hq
  clear hq hby hlc hc hbig
  have hI := fun W h => clauseof_any A l.length c (fun k => l.getD k 0) W (by omega) h
  have hP := fun W h => sclauseof_any A l.length c (fun k => l.getD k 0) W (by omega) h
  have hC := fun W h1 h2 => clauseis_any A B l.length c m.length d (fun k => l.getD k 0) (fun k => m.getD k false) W (by omega) (by omega) h1 h2
  have hS := fun W h1 h2 => sclauseis_any A B l.length c m.length d (fun k => l.getD k 0) (fun k => m.getD k false) W (by omega) (by omega) h1 h2
  unfold ClP at hP
  have hE := @clB_clR l.length m.length (fun k => l.getD k 0) (fun k => m.getD k false)
  have hO := @clR_ok l.length (fun k => l.getD k 0)
  have hO2 := @clR_okF l.length (fun k => l.getD k 0)
  have hO3 := @clR_clR l.length (fun k => l.getD k 0)
  have hno := @clR_no l.length (fun k => l.getD k 0)
  have hlen := clR_len l.length (fun k => l.getD k 0)
  have hok := @okF_iff l.length (fun k => l.getD k 0)
  generalize clR l.length (fun k => l.getD k 0) = R at *
  generalize clB l.length (fun k => l.getD k 0) m.length (fun k => m.getD k false) = cb at *
  generalize okF l.length (fun k => l.getD k 0) = ok at *
  have dk : (ok != ok) = false := by simp
  have dcb : (cb != cb) = false := by simp
  have dcc : (cb == cb) = true := by simp
  go_wp2_with fail
  refine (hI _ hA).mono ?_
  rintro e w3 ⟨A3, c3, rfl, hO3', hq⟩
  have I3 := hO3'.ints'
  replace hA := hA.below hq
  replace hB := hB.below hq
  replace q0 := btr q0 hq
  clear hq hO3'
  go_wp2_with fail
  refine (hP _ hA).mono ?_
  rintro e w4 ⟨A4, c4, rfl, I4, hq⟩
  replace hA := hA.below hq
  replace hB := hB.below hq
  replace I3 := I3.below hq
  replace q0 := btr q0 hq
  clear hq
  go_wp2_with fail
  refine (wpnums_sameC A3 A4 R.length c3 c4 (fun k => R.getD k 0) w4 (by omega) I3 I4).mono ?_
  rintro e w5 ⟨rfl, hq⟩
  replace hA := hA.below hq
  replace hB := hB.below hq
  replace I3 := I3.below hq
  replace q0 := btr q0 hq
  clear hq I4
  go_wp2_with fail
  refine (hC _ hA hB).mono ?_
  rintro e w6 ⟨rfl, hq⟩
  replace hA := hA.below hq
  replace hB := hB.below hq
  replace I3 := I3.below hq
  replace q0 := btr q0 hq
  clear hq
  go_wp2_with fail
  refine (hS _ hA hB).mono ?_
  rintro e w7 ⟨rfl, rfl⟩
  cases ok
  · have hR : R = [] := hno (fun h => by have := hok.2 h; cases this)
    subst hR
    go_wp2
    go_ret
    exact ⟨rfl, q0⟩
  have HOK := hok.1 rfl
  have h1 := hO HOK
  have h2 := hE HOK
  have h3 := hO3 HOK
  have h4 := okF_iff.2 (hO2 HOK)
  have hI2 := fun W h => clauseof_any A3 R.length c3 (fun k => R.getD k 0) W (by omega) h
  have hK := fun W h => clauseok_any A3 R.length c3 (fun k => R.getD k 0) 60 W (by omega) h
  have hC2 := fun W h1 h2 => clauseis_any A3 B R.length c3 m.length d (fun k => R.getD k 0) (fun k => m.getD k false) W (by omega) (by omega) h1 h2
  rw [h3, h4] at hI2
  rw [h1] at hK
  rw [h2] at hC2
  clear hO hE hO2 hO3 hno hok h1 h2 h3 h4 HOK hI hP hS
  go_wp2_with fail
  refine (hI2 _ I3).mono ?_
  rintro e w8 ⟨A8, c8, rfl, hO8, hq⟩
  have I8 := hO8.ints'
  replace hA := hA.below hq
  replace hB := hB.below hq
  replace I3 := I3.below hq
  replace q0 := btr q0 hq
  clear hq hO8
  go_wp2_with fail
  refine (hK _ I3).mono ?_
  rintro e w9 ⟨rfl, rfl⟩
  go_wp2_with fail
  refine (hC2 _ I3 hB).mono ?_
  rintro e w10 ⟨rfl, hq⟩
  replace hA := hA.below hq
  replace hB := hB.below hq
  replace I3 := I3.below hq
  replace I8 := I8.below hq
  replace q0 := btr q0 hq
  clear hq
  go_wp2_with fail
  refine (hC _ hA hB).mono ?_
  rintro e w11 ⟨rfl, hq⟩
  replace I3 := I3.below hq
  replace I8 := I8.below hq
  replace q0 := btr q0 hq
  clear hq
  go_wp2_with fail
  refine (wpnums_sameC A8 A3 R.length c8 c3 (fun k => R.getD k 0) _ (by omega) I8 I3).mono ?_
  rintro e w12 ⟨rfl, hq⟩
  go_wp2
  go_ret
  exact ⟨rfl, btr q0 hq⟩
set_option maxRecDepth 100000 in
set_option maxHeartbeats 16000000 in
theorem walk_ClauseAlways (a0 : Option Addr) (len0 cap0 : Nat) (w : World) (hby : Bytes w.heap.size w a0 len0) (hlc : len0 ≤ cap0) (hc : cap0 ≤ 9223372036854775807) :
    Calls Try.prog 4 #[.slice a0 len0 cap0] w fun e w' => e = .returned (.bool true) ∧ Below w.heap.size w w' := by
  by_cases hbig : 1048576 < len0
  · go_enter Try.func4, Try.ntmps4
    go_wp2
    go_ret
    exact ⟨rfl, Below.refl _ _⟩
  go_enter Try.func4, Try.ntmps4
  go_wp2_with fail
  refine (drawclauseof_any w.heap.size w a0 len0 cap0 (Nat.le_refl _) hby hlc hc).mono ?_
  rintro e w1 ⟨A, c, l, rfl, hl, hA, hq⟩
  have q0 := hq
  clear hq
  have hI := clauseof_any A l.length c (fun k => l.getD k 0) w1 (by omega) hA
  have hP := fun W h => sclauseof_any A l.length c (fun k => l.getD k 0) W (by omega) h
  unfold ClP at hP
  have hAl := @always l.length
  have hok := @okF_iff l.length (fun k => l.getD k 0)
  generalize okF l.length (fun k => l.getD k 0) = ok at *
  generalize clR l.length (fun k => l.getD k 0) = R at *
  have dk : (ok != ok) = false := by simp
  have dk2 : (ok == ok) = true := by simp
  go_wp2_with fail
  refine hI.mono ?_
  rintro e w3 ⟨A3, c3, rfl, _, hq⟩
  replace hA := hA.below hq
  replace q0 := btr q0 hq
  clear hq hI
  go_wp2_with fail
  refine (hP _ hA).mono ?_
  rintro e w4 ⟨A4, c4, rfl, _, hq⟩
  replace hA := hA.below hq
  replace q0 := btr q0 hq
  clear hq hP
  go_upto_region 6 with fail
  cases ok
  case true =>
    clear hAl hok dk dk2
    go_wp2
    go_ret
    exact ⟨rfl, q0⟩
  have hno : ¬ OkF l.length (fun k => l.getD k 0) := fun h => by have := hok.2 h; cases this
  go_wp2_with fail
  refine (drawclauseis_any w.heap.size w4 a0 len0 cap0 q0.size (hby.belowC q0) hlc hc).mono ?_
  rintro e w2 ⟨_, _, _, B, d, m, rfl, _, hm, _, hB, hq⟩
  replace hA := hA.below hq
  replace q0 := btr q0 hq
  clear hq hby hlc hc hbig
  have hC := clauseis_any A B l.length c m.length d (fun k => l.getD k 0) (fun k => m.getD k false) w2 (by omega) (by omega) hA hB
  have HAl := hid (show (∀ j, j < l.length → ofC ((fun k => l.getD k 0) j) m.length = true) → clB l.length (fun k => l.getD k 0) m.length (fun k => m.getD k false) = true from fun h => hAl hno (by omega) h)
  clear hAl hno hok
  generalize hZ : (fun k => l.getD k 0) = Z at *
  clear hZ
  generalize l.length = n at *
  generalize hN : m.length = N at *
  clear hN
  go_wp2
  go_loop [10] (fun i => ∃ k : Nat, k ≤ n ∧ i = .int .i64 k ∧ ∀ j, j < k → ofC (Z j) N = true) (fun i => n - (intOf i).toNat)
  case atStart => exact ⟨0, Nat.zero_le _, rfl, fun j hj => by omega⟩
  case round =>
    obtain ⟨k, hk, rfl, he⟩ := hrel
    have HE := hid he; clear he
    by_cases hlt : k < n
    · rcases hA with h0 | ⟨g, off, rfl, hg, hcA⟩
      · omega
      have c1 := hcA k hlt
      clear hcA hC
      by_cases h0 : Z k = 0
      · have d1 : (Z k == 0) = true := by simpa using h0
        clear h0
        go_wp2
        go_ret
        exact ⟨rfl, q0⟩
      have d1 : (Z k == 0) = false := by simpa using h0
      by_cases h1 : (N : Int) < Z k
      · have d2 : decide ((N : Int) < Z k) = true := decide_eq_true h1
        clear h0 h1
        go_wp2
        go_ret
        exact ⟨rfl, q0⟩
      have d2 : decide ((N : Int) < Z k) = false := decide_eq_false h1
      by_cases h2 : Z k < -(N : Int)
      · have d3 : decide (Z k < -(N : Int)) = true := decide_eq_true h2
        clear h0 h1 h2
        go_wp2
        go_ret
        exact ⟨rfl, q0⟩
      have d3 : decide (Z k < -(N : Int)) = false := decide_eq_false h2
      have HQ := hid (show ofC (Z k) N = true from ofC_iff.2 ⟨h0, by omega, by omega⟩)
      clear h0 h1 h2
      go_wp2
      go_round
      case rel =>
        refine ⟨k + 1, by omega, by go_num, fun j hj => ?_⟩
        by_cases e : j = k
        · subst e; exact HQ.out
        · exact HE.out j (by omega)
      case measure => simp [intOf]; omega
    · have hke : k = n := by omega
      subst hke
      have hT := HAl.out HE.out
      rw [hT] at hC
      clear hT hA
      go_wp2_with fail
      refine hC.mono ?_
      rintro e w5 ⟨rfl, hq⟩
      go_wp2
      go_ret
      exact ⟨rfl, btr q0 hq⟩
end Go.Proofs.Ytpnnpdofgcfmgaa
