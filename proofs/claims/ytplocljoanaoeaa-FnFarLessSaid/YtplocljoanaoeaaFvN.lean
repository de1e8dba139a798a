/- Walks of FnFarNever, FnFarNone, FnFarSum. -/
import Derived.Test.YtplocljoanaoeaaB8
import Derived.Test.YtplocljoanaoeaaB5
import Derived.Test.YtplocljoanaoeaaB6
import Derived.Test.YtplocljoanaoeaaLinX
namespace Go.Proofs.Ytplocljoanaoeaa
set_option linter.unusedVariables false
set_option linter.unusedSimpArgs false
open Go.RowKit
theorem linsame_selfN {A B : Option Addr} {n c d : Nat} {Z : Nat → Int} {b : Int} {s : Bool} {w : World} (hn : n ≤ 9223372036854775806) (hA : Ints w A n Z) (hB : Ints w B n Z) :
    Calls Try.prog 20 #[.agg #[.slice A n c, .int .i64 b, .bool s], .agg #[.slice B n d, .int .i64 b, .bool s]] w fun e w' => e = .returned (.bool true) ∧ Below w.heap.size w w' := by
  have := linsame_any A B n n c d Z Z b b s s w hn hn hA hB
  rw [eqL_self] at this
  exact this
theorem code_zero {n : Nat} {L : Lst} (h : (runE n L).code = 0) : ∃ N D, runE n L = .yes N D := by
  cases hr : runE n L with
  | yes N D => exact ⟨N, D, rfl⟩
  | no U => rw [hr] at h; simp [FarE.code] at h
  | much => rw [hr] at h; simp [FarE.code] at h
  | form => rw [hr] at h; simp [FarE.code] at h
set_option maxRecDepth 100000 in
set_option maxHeartbeats 16000000 in
theorem walk_FarNever (a0 : Option Addr) (len0 cap0 : Nat) (w : World) (hby : Bytes w.heap.size w a0 len0) (hlc : len0 ≤ cap0) (hc0 : cap0 ≤ 9223372036854775807) :
    Calls Try.prog 3 #[.slice a0 len0 cap0] w fun e w' => e = .returned (.bool true) ∧ Below w.heap.size w w' := by
  by_cases hbig : 1048576 < len0
  · go_enter Try.func3, Try.ntmps3
    go_wp2
    go_ret
    exact ⟨rfl, Below.refl _ _⟩
  go_enter Try.func3, Try.ntmps3
  go_wp2_with fail
  refine (drawfarok_any w.heap.size w a0 len0 cap0 (Nat.le_refl _) hby hlc hc0).mono ?_
  rintro e w1 ⟨A, n, c, L, B, m, d, T, rfl, hn, hA, hN0, hm, hB, hq⟩
  have hN : ∀ k, k < n → L.N k ≤ 1048576 := fun k hk => by have := hN0 k hk; omega
  have q0 := hq
  clear hq hN0
  go_wp2_with fail
  refine (drawlinat_any w.heap.size w1 a0 len0 cap0 q0.size (hby.below q0) hlc hc0).mono ?_
  rintro e w2 ⟨A4, n4, c4, Z4, b4, s4, D, v, dv, N0, M0, rfl, _, _, hv, hV, hq⟩
  have al := bal (Below.refl w2.heap.size w2) (.cells #[.slice A4 n4 c4, .int .i64 b4, .bool s4] 28)
  replace hA := hA.below (btr hq al)
  replace hB := hB.below (btr hq al)
  replace hV := hV.below al
  replace q0 := btr (btr q0 hq) al
  clear hq al hby hlc hc0 hbig
  have hI := fun W h1 h2 => farok_any A n c L B m d T W (by omega) h1 (by omega) h2 hN
  have hP := fun W h1 h2 => sfarok_any A n c L B m d T W (by omega) h1 (by omega) h2 hN
  have hR := fun W h => farrun_any A n c L W (by omega) h hN
  have hF := fun W h1 h2 => farall_any A n c L D v dv N0 M0 W (by omega) h1 hN (by omega) h2
  have hnev := @far_never n v L m T N0 M0
  have hnev2 := fun h0 => (code_zero (n := n) (L := L) h0).elim fun N => fun ⟨D', e⟩ => fun h => @far_never n 4 L m T N D' h (runE_yA e)
  generalize hk : farOkB (farS n L m T) = ok at *
  clear hk
  have dk : (ok != ok) = false := by simp
  have dk2 : (ok == ok) = true := by simp
  go_wp2_with fail
  refine (hI _ hA hB).mono ?_
  rintro e w3 ⟨rfl, hq⟩
  replace hA := hA.below hq
  replace hB := hB.below hq
  replace hV := hV.below hq
  replace q0 := btr q0 hq
  clear hq hI
  go_wp2_with fail
  refine (hP _ hA hB).mono ?_
  rintro e w4 ⟨rfl, hq⟩
  replace hA := hA.below hq
  replace hB := hB.below hq
  replace hV := hV.below hq
  replace q0 := btr q0 hq
  clear hq
  cases ok
  · go_wp2_with fail
    refine (hP _ hA hB).mono ?_
    rintro e w5 ⟨rfl, hq⟩
    go_wp2
    go_ret
    exact ⟨rfl, btr q0 hq⟩
  have hall : allB n L v N0 M0 = false := by
    cases e : allB n L v N0 M0
    · rfl
    · exact (hnev rfl e).elim
  rw [hall] at hF
  have hcode : (runE n L).code ≠ 0 := fun h => hnev2 h rfl
  generalize runE n L = R at hR hcode
  have d0 : (R.code != 0) = true := by simpa using hcode
  clear hnev hnev2 hall hcode hP
  unfold RunP at hR
  go_wp2_with fail
  refine (hR _ hA).mono ?_
  rintro e w5 ⟨A1, c1, B1, d1, rfl, hq, _, _⟩
  replace hA := hA.below hq
  replace hV := hV.below hq
  replace q0 := btr q0 hq
  clear hq hR
  go_wp2_with fail
  refine (hF _ hA hV).mono ?_
  rintro e w6 ⟨rfl, hq⟩
  go_wp2
  go_ret
  exact ⟨rfl, btr q0 hq⟩
def L0N : Lst := ⟨fun _ => 0, fun _ _ => 0, fun _ => 0, fun _ => false⟩
theorem okS_zero : okS 0 L0N = true := okS_iff.2 ⟨by omega, fun k hk => by omega⟩
theorem run_zero : (runE 0 L0N).code = 0 := by
  decide +kernel
theorem bad_zero (T : Nat → Int) : farOkB (farS 0 L0N 0 T) = false := by
  unfold farS
  rw [if_pos ⟨okS_zero, rfl, rfl⟩]
  simp [farOkB, sumS, badB, emptyB, refB]
set_option maxRecDepth 100000 in
set_option maxHeartbeats 16000000 in
theorem walk_FarNone (a0 : Option Addr) (len0 cap0 : Nat) (w : World) (hby : Bytes w.heap.size w a0 len0) (hlc : len0 ≤ cap0) (hc0 : cap0 ≤ 9223372036854775807) :
    Calls Try.prog 9 #[.slice a0 len0 cap0] w fun e w' => e = .returned (.bool true) ∧ Below w.heap.size w w' := by
  by_cases hbig : 1048576 < len0
  · go_enter Try.func9, Try.ntmps9
    go_wp2
    go_ret
    exact ⟨rfl, Below.refl _ _⟩
  go_enter Try.func9, Try.ntmps9
  go_wp2_with fail
  refine (drawfarall_any w.heap.size w a0 len0 cap0 (Nat.le_refl _) hby hlc hc0).mono ?_
  rintro e w1 ⟨_, _, _, _, D, m, d, N, M, rfl, _, _, _, hm, hV, hq⟩
  have q0 := hq
  clear hq hby hlc hc0 hbig
  have hF := fun W h => farall_any none 0 0 L0N D m d N M W (by omega) (.inl rfl) (fun k hk => by omega) (by omega) h
  have hP := fun W h => sfarall_any none 0 0 L0N D m d N M W (by omega) (.inl rfl) (fun k hk => by omega) (by omega) h
  have hR := fun W => farrun_any none 0 0 L0N W (by omega) (.inl rfl) (fun k hk => by omega)
  have hO := fun W => farok_any none 0 0 L0N none 0 0 (fun _ => 0) W (by omega) (.inl rfl) (by omega) (.inl rfl) (fun k hk => by omega)
  obtain ⟨N1, D1, hr⟩ := code_zero run_zero
  have hall := runE_yA hr
  have hG := fun W A c h => farall_any none 0 0 L0N A 4 c N1 D1 W (by omega) (.inl rfl) (fun k hk => by omega) (by omega) h
  rw [hall] at hG
  rw [hr] at hR
  rw [bad_zero] at hO
  unfold RunP at hR
  simp only [FarE.m, FarE.k, FarE.N, FarE.D, FarE.U, FarE.code] at hR
  generalize allB 0 L0N m N M = al at *
  have dk : (al == al) = true := by simp
  clear hr hall
  go_wp2_with fail
  refine (hF _ hV).mono ?_
  rintro e w2 ⟨rfl, hq⟩
  replace hV := hV.below hq
  replace q0 := btr q0 hq
  clear hq hF
  go_wp2_with fail
  refine (hR _).mono ?_
  rintro e w3 ⟨A1, c1, B1, d1, rfl, hq, O1, _⟩
  have hV1 := O1.rats
  replace hV := hV.below hq
  replace q0 := btr q0 hq
  clear hq hR O1
  go_wp2_with fail
  refine (hP _ hV).mono ?_
  rintro e w4 ⟨rfl, hq⟩
  replace hV1 := hV1.below hq
  replace q0 := btr q0 hq
  clear hq hP
  go_wp2_with fail
  refine (hG _ A1 c1 hV1).mono ?_
  rintro e w5 ⟨rfl, hq⟩
  replace q0 := btr q0 hq
  clear hq
  go_wp2_with fail
  refine (hO _).mono ?_
  rintro e w6 ⟨rfl, hq⟩
  go_wp2
  go_ret
  exact ⟨rfl, btr q0 hq⟩
set_option maxRecDepth 100000 in
set_option maxHeartbeats 16000000 in
theorem walk_FarSum (a0 : Option Addr) (len0 cap0 : Nat) (w : World) (hby : Bytes w.heap.size w a0 len0) (hlc : len0 ≤ cap0) (hc0 : cap0 ≤ 9223372036854775807) :
    Calls Try.prog 4 #[.slice a0 len0 cap0] w fun e w' => e = .returned (.bool true) ∧ Below w.heap.size w w' := by
  by_cases hbig : 1048576 < len0
  · go_enter Try.func4, Try.ntmps4
    go_wp2
    go_ret
    exact ⟨rfl, Below.refl _ _⟩
  go_enter Try.func4, Try.ntmps4
  go_wp2_with fail
  refine (drawfarsum_any w.heap.size w a0 len0 cap0 (Nat.le_refl _) hby hlc hc0).mono ?_
  rintro e w1 ⟨A, n, c, L, B, m, d, T, rfl, hn, hA, hN0, hm, hB, hq⟩
  have hN : ∀ k, k < n → L.N k ≤ 1048576 := fun k hk => by have := hN0 k hk; omega
  have q0 := hq
  clear hq hN0 hby hlc hc0 hbig
  have hI := fun W h1 h2 => farsum_any A n c L B m d T W (by omega) h1 (by omega) h2 hN
  have hP := fun W h1 h2 => sfarsum_any A n c L B m d T W (by omega) h1 (by omega) h2 hN
  have hR := fun W h => farrun_any A n c L W (by omega) h hN
  have hln := farS_len n L m T
  have hfs := fun N D (e : runE n L = .yes N D) (h : (farS n L m T).2 = true) r => @far_sum n 4 L m T N D r h (runE_yA e)
  rcases hF : farS n L m T with ⟨R, fine⟩
  rw [hF] at hI hP hln hfs
  unfold SumP at hI hP
  simp only at hI hP hln hfs
  have df : (fine != fine) = false := by simp
  have ef : (fine == fine) = true := by simp
  clear hF
  go_wp2_with fail
  refine (hI _ hA hB).mono ?_
  rintro e w3 ⟨v3, rfl, ⟨A3, c3, rfl, _, _, O3⟩, hq⟩
  have I3 := O3.ints
  have al := bal (Below.refl w3.heap.size w3) (.cells #[.slice A3 R.1 c3, .int .i64 R.2.2.1, .bool R.2.2.2] 28)
  have H := KcL.new3 w3 (.slice A3 R.1 c3) (.int .i64 R.2.2.1) (.bool R.2.2.2) 28 rfl
  replace hA := (hA.below hq).below al
  replace hB := (hB.below hq).below al
  replace I3 := I3.below al
  replace q0 := btr (btr q0 hq) al
  clear hq al O3
  have HH := H; obtain ⟨c0, c1, c2, _⟩ := HH
  go_wp2_with fail
  refine (hP _ hA hB).mono ?_
  rintro e w4 ⟨v4, rfl, ⟨A5, c5, rfl, _, _, O5⟩, hq⟩
  have I5 := O5.ints
  clear c0 c1 c2 O5
  have al := bal (Below.refl w4.heap.size w4) (.cells #[.slice A5 R.1 c5, .int .i64 R.2.2.1, .bool R.2.2.2] 28)
  replace H := ((H.below hq).below al).app (KcL.new3 w4 (.slice A5 R.1 c5) (.int .i64 R.2.2.1) (.bool R.2.2.2) 28 rfl)
  replace hA := (hA.below hq).below al
  replace I3 := (I3.below hq).below al
  replace I5 := I5.below al
  replace q0 := btr (btr q0 hq) al
  clear hq al hP hI hB
  have HH := H; obtain ⟨c0, c1, c2, d0, d1, d2, _⟩ := HH
  go_wp2_with fail
  refine (linsame_selfN (by omega) I3 I5).mono ?_
  rintro e w5 ⟨rfl, hq⟩
  clear c0 c1 c2 d0 d1 d2
  replace H := H.below hq
  replace hA := hA.below hq
  replace I3 := I3.below hq
  replace I5 := I5.below hq
  replace q0 := btr q0 hq
  clear hq
  have HH := H; obtain ⟨c0, c1, c2, d0, d1, d2, _⟩ := HH
  cases fine
  · go_wp2_with fail
    refine (linsame_selfN (by omega) I3 I5).mono ?_
    rintro e w6 ⟨rfl, hq⟩
    go_wp2
    go_ret
    exact ⟨rfl, btr q0 hq⟩
  clear d0 d1 d2 I5
  have hR' := hR _ hA
  clear hR hA
  by_cases h0 : (runE n L).code = 0
  · obtain ⟨N, D, hr⟩ := code_zero h0
    have hfs' := fun r => hfs N D hr rfl r
    rw [hr] at hR'
    unfold RunP at hR'
    simp only [FarE.m, FarE.k, FarE.N, FarE.D, FarE.U, FarE.code] at hR'
    clear h0 hr hfs
    go_wp2_with fail
    refine hR'.mono ?_
    rintro e w6 ⟨A1, e1, B1, f1, rfl, hq, O1, _⟩
    have hV := O1.rats
    clear c0 c1 c2
    replace H := H.below hq
    replace I3 := I3.below hq
    replace q0 := btr q0 hq
    clear hq O1 hR'
    obtain ⟨c0, c1, c2, _⟩ := H
    have hT := linat_any A3 R.1 c3 R.2.1 R.2.2.1 R.2.2.2 A1 4 e1 N D w6 (by omega) I3 (by omega) hV
    rcases hat : atB R.1 R.2.1 R.2.2.1 R.2.2.2 4 N D with ⟨p, q⟩
    rw [hat] at hT
    cases q
    · go_wp2_with fail
      refine hT.mono ?_
      rintro e w7 ⟨rfl, hq⟩
      go_wp2
      go_ret
      exact ⟨rfl, btr q0 hq⟩
    · have hp := hfs' p hat
      subst hp
      go_wp2_with fail
      refine hT.mono ?_
      rintro e w7 ⟨rfl, hq⟩
      go_wp2
      go_ret
      exact ⟨rfl, btr q0 hq⟩
  · generalize runE n L = E at *
    have d0 : (E.code != 0) = true := by simpa using h0
    clear h0 hfs
    unfold RunP at hR'
    go_wp2_with fail
    refine hR'.mono ?_
    rintro e w6 ⟨A1, e1, B1, f1, rfl, hq, _, _⟩
    go_wp2
    go_ret
    exact ⟨rfl, btr q0 hq⟩
end Go.Proofs.Ytplocljoanaoeaa
