/- The text of a vocabulary: contracts of the model's l4Line and SigText. -/
import Derived.Test.YtlojneoadibigaaDoorSigV
namespace Go.Proofs.YtlojneoadibigaaDoor
set_option linter.unusedVariables false
set_option linter.unusedSimpArgs false
open Go.RowKit
theorem str_app (a b : List UInt8) : (⟨a.toArray⟩ : ByteArray) ++ ⟨b.toArray⟩ = ⟨(a ++ b).toArray⟩ := by
  apply ByteArray.ext
  rw [ByteArray.data_append]
  show a.toArray ++ b.toArray = _
  rw [List.append_toArray]
theorem str_of (a : ByteArray) : a = ⟨(a.data.toList).toArray⟩ := by
  apply ByteArray.ext
  show a.data = a.data.toList.toArray
  simp
theorem str_ne {l : List UInt8} (h : l ≠ []) : ((⟨l.toArray⟩ : ByteArray).toList == (⟨#[]⟩ : ByteArray).toList) = false := by
  rw [ByteArray.toList_eq, ByteArray.toList_eq]
  show (l.toArray.toList == (#[] : Array UInt8).toList) = false
  simpa using h
theorem str_nil : ((⟨#[]⟩ : ByteArray).toList == (⟨#[]⟩ : ByteArray).toList) = true := by simp
set_option maxRecDepth 100000 in
set_option maxHeartbeats 4000000 in
theorem line_any (nm : ByteArray) (A : Option Addr) (n c : Nat) (Z : Nat → Int) (s : Int) (w : World) (hv : symB nm n Z s = true) (hA : Ints w A n Z) :
    Calls Tryd.prog 38 #[.agg #[.string nm, .slice A n c, .int .i64 s]] w fun e w' => e = .returned (.string ⟨(symL nm n Z s).toArray⟩) ∧ Below w.heap.size w w' := by
  obtain ⟨v1, v2, v3, v4⟩ := symB_iff.1 hv
  have hnm := nm_2 v1
  have H3 := hid v3; have H4 := hid v4; clear hv v1 v3 v4
  obtain ⟨b0, b1, b2⟩ := new3 w (.string nm) (.slice A n c) (.int .i64 s) 73
  have q0 := bal (Below.refl w.heap.size w) (.cells #[.string nm, .slice A n c, .int .i64 s] 73)
  have hA2 := hA.below q0
  clear hA
  go_enter Tryd.func38, Tryd.ntmps38
  go_wp2
  generalize w.alloc (.cells #[.string nm, .slice A n c, .int .i64 s] 73) = W0 at *
  go_loopw [3, 4] (fun o i wr => ∃ (k : Nat) (M : List UInt8), k ≤ n ∧ i = .int .i64 k ∧ o = .string ⟨M.toArray⟩ ∧ M = joinA Z k ∧ Below W0.heap.size W0 wr) (fun _ i _ => n - (intOf i).toNat)
  case atStart => exact ⟨0, [], Nat.zero_le _, rfl, rfl, rfl, Below.refl _ _⟩
  case round =>
    obtain ⟨k, M, hk, rfl, rfl, hM, hb⟩ := hrel
    have zM0 : M.length = k := by rw [hM, joinA_len]
    have zM : ByteArray.size ⟨M.toArray⟩ ≤ 2 := by show M.length ≤ 2; omega
    have HM := hid hM; clear hM
    have g0 := carry hb b0
    have g1 := carry hb b1
    have g2 := carry hb b2
    have gs : w.heap.size < wr.heap.size := cell_lt g1
    clear b0 b1 b2
    by_cases hlt : k < n
    · rcases hA2 with h0 | ⟨g, off, rfl, hg, hcA⟩
      · omega
      have a0 := carry hb (hcA k hlt)
      have gg : g < wr.heap.size := Nat.lt_of_lt_of_le hg hb.size
      have hC := dec01 (H3.out k hlt) wr
      clear hcA zM0
      have zd : ByteArray.size ⟨[dgB (Z k)].toArray⟩ ≤ 1 := Nat.le_refl 1
      generalize hd : dgB (Z k) = dd at hC zd
      have HD := hid hd; clear hd
      go_wp2_with (go_at_call 31; refine hC.mono ?_; rintro e w1 ⟨rfl, hq⟩)
      go_roundw
      case rel =>
        refine ⟨k + 1, M ++ [dd], by omega, by go_num, ?_, by rw [joinA, ← HM.out, HD.out], btr hb hq⟩
        show Value.string ((⟨M.toArray⟩ : ByteArray) ++ ⟨[dd].toArray⟩) = _
        rw [str_app]
      case measure => simp [intOf]; omega
    · have hke : k = n := by omega
      have HK := hid hke
      have d0 : decide ((k : Int) < (n : Int)) = false := by simp; omega
      have gc := @gro_cell wr
      have hC := fun (X : Gro wr) => dec01 H4.out (gro wr X)
      have zd : ByteArray.size ⟨[dgB s].toArray⟩ ≤ 1 := Nat.le_refl 1
      by_cases h0 : n = 0
      · have hM0 : M = [] := List.eq_nil_of_length_eq_zero (by omega)
        subst hM0
        have HZ := hid h0
        have d1 : (ByteArray.toList { data := #[] } == ByteArray.toList { data := #[] }) = true := str_nil
        clear hke h0 zM0
        generalize hd : dgB s = dd at hC zd
        have HD := hid hd; clear hd
        go_upto_region 8 with fail
        refine wp_region_grow_lit (by kernel_rfl) (by kernel_rfl) ?_
        repeat (go_big_quiet_step ((go_at_call 31; exact grow_call _ (hC _))))
        refine wpQuiet_nil ?_
        rintro _ ⟨X, rfl⟩
        go_wp2
        go_ret
        refine ⟨?_, btr q0 (btr hb X.h)⟩
        have e : symL nm n Z s = nm.data.toList ++ [32] ++ [45] ++ [32] ++ [dd] ++ [10] := by unfold symL; rw [if_pos HZ.out, HD.out]
        rw [e]
        show Ending.returned (Value.string (nm ++ ⟨[(32 : UInt8)].toArray⟩ ++ ⟨[(45 : UInt8)].toArray⟩ ++ ⟨[(32 : UInt8)].toArray⟩ ++ ⟨[dd].toArray⟩ ++ ⟨[(10 : UInt8)].toArray⟩)) = _
        rw [show nm ++ (⟨[(32 : UInt8)].toArray⟩ : ByteArray) = ⟨(nm.data.toList ++ [32]).toArray⟩ from (congrArg (· ++ _) (str_of nm)).trans (str_app _ _), str_app, str_app, str_app, str_app]
      · have hM0 : M ≠ [] := fun h => by rw [h] at zM0; simp at zM0; omega
        have d1 : M.isEmpty = false := by simpa using hM0
        have d3 := str_ne hM0
        have HZ := hid h0
        clear hke h0 zM0 hM0
        generalize hd : dgB s = dd at hC zd
        have HD := hid hd; clear hd
        have d2 := d3
        generalize hsM : (⟨M.toArray⟩ : ByteArray) = sM at zM d3 d2 ⊢
        have HSM := hid hsM; clear hsM d1
        rw [ByteArray.toList_eq] at d2
        have d4 : sM.toList.isEmpty = false := by
          cases he : sM.toList with
          | nil => rw [he] at d3; simp at d3
          | cons x y => rfl
        clear d2
        go_upto_region 8 with fail
        refine wp_region_grow_lit (by kernel_rfl) (by kernel_rfl) ?_
        repeat (go_big_quiet_step ((go_at_call 31; exact grow_call _ (hC _))))
        refine wpQuiet_nil ?_
        rintro _ ⟨X, rfl⟩
        go_wp2
        go_ret
        refine ⟨?_, btr q0 (btr hb X.h)⟩
        have e : symL nm n Z s = nm.data.toList ++ [32] ++ M ++ [32] ++ [dd] ++ [10] := by unfold symL; rw [if_neg HZ.out, HD.out, HM.out, HK.out]
        rw [e]
        show Ending.returned (Value.string (nm ++ ⟨[(32 : UInt8)].toArray⟩ ++ sM ++ ⟨[(32 : UInt8)].toArray⟩ ++ ⟨[dd].toArray⟩ ++ ⟨[(10 : UInt8)].toArray⟩)) = _
        rw [← HSM.out, show nm ++ (⟨[(32 : UInt8)].toArray⟩ : ByteArray) = ⟨(nm.data.toList ++ [32]).toArray⟩ from (congrArg (· ++ _) (str_of nm)).trans (str_app _ _), str_app, str_app, str_app, str_app]
set_option maxRecDepth 100000 in
set_option maxHeartbeats 4000000 in
theorem ssigtext_any (A : Option Addr) (n c : Nat) (L : Sy) (w : World) (hn : n ≤ 1048576) (hA : Syms w A n L) (hN : SmY n L) :
    Calls Tryd.prog 16 #[.agg #[.slice A n c]] w fun e w' => e = .returned (.string ⟨(sigT n L).toArray⟩) ∧ Below w.heap.size w w' := by
  have hO := hid (fun W (hb : Below w.heap.size w W) => ssigok_any A n c L W (by omega) (hA.below hb) hN)
  have q0 := bal (Below.refl w.heap.size w) (.cells #[.slice A n c] 41)
  have b0 : (w.alloc (.cells #[.slice A n c] 41)).cell? ⟨w.heap.size, 0, none⟩ = some (.slice A n c) := by simp [go_sem]
  generalize hr : sigT n L = res
  have HR := hid hr; clear hr
  go_enter Tryd.func16, Tryd.ntmps16
  go_wp2
  generalize w.alloc (.cells #[.slice A n c] 41) = W0 at *
  go_loopw [3, 4] (fun o i wr => ∃ (k : Nat) (M : List UInt8), k ≤ n ∧ i = .int .i64 k ∧ o = .string ⟨M.toArray⟩ ∧ M = sigL L k ∧ (k = 0 ∨ sigB n L = true) ∧ Below W0.heap.size W0 wr) (fun _ i _ => n - (intOf i).toNat)
  case atStart => exact ⟨0, [], Nat.zero_le _, rfl, rfl, rfl, .inl rfl, Below.refl _ _⟩
  case round =>
    obtain ⟨k, M, hk, rfl, rfl, hM, hB, hb⟩ := hrel
    have g0 := carry hb b0
    have gs : w.heap.size < wr.heap.size := cell_lt g0
    have HM := hid hM; clear hM b0
    have hwr := btr q0 hb
    have hC := hO.out wr hwr
    by_cases hlt : k < n
    · have d0 : decide ((k : Int) < (n : Int)) = true := by simp; omega
      cases hs : sigB n L
      · rw [hs] at hC
        have HE := hid (show M = res by
          rcases hB with h | h
          · rw [HM.out, h, ← HR.out]; unfold sigT; rw [hs]; rfl
          · rw [hs] at h; cases h)
        clear hB hs
        go_wp2_with (go_at_call 37; refine hC.mono ?_; rintro e w1 ⟨rfl, hq⟩)
        go_ret
        exact ⟨by rw [HE.out]; rfl, btr hwr (by assumption)⟩
      · rw [hs] at hC
        have HSB := hid hs
        have hsy := (sigB_iff.1 hs).2.1
        have h7 := (sigB_iff.1 hs).1
        have zM0 : M.length ≤ 56 := by have := sigL_len (L := L) (k := k) (fun j hj => hsy j (by omega)); rw [HM.out]; omega
        have zM : ByteArray.size ⟨M.toArray⟩ ≤ 56 := zM0
        have zt0 := symL_len (hsy k hlt)
        rcases hA with h0 | ⟨g, off, rfl, hg, hcA⟩
        · omega
        obtain ⟨a, ca, a0, a1, a2, _, hNk, hJ⟩ := hcA k hlt
        have gg : g < wr.heap.size := Nat.lt_of_lt_of_le hg hwr.size
        replace a0 := carry hwr a0
        replace a1 := carry hwr a1
        replace a2 := carry hwr a2
        have hLn := fun W (hq : Below wr.heap.size wr W) => line_any (L.Nm k) a (L.N k) ca (L.Z k) (L.S k) W (hsy k hlt) ((hJ.below hwr).below hq)
        have hst : sigL L (k + 1) = sigL L k ++ symL (L.Nm k) (L.N k) (L.Z k) (L.S k) := rfl
        have HST := hid hst
        clear hcA hJ hB hs hsy hst zM0
        generalize symL (L.Nm k) (L.N k) (L.Z k) (L.S k) = T at hLn zt0 HST
        have zT : ByteArray.size ⟨T.toArray⟩ ≤ 8 := zt0
        go_wp2_with fail
        refine hC.mono ?_
        rintro e w1 ⟨rfl, hq⟩
        replace g0 := carry hq g0
        replace a0 := carry hq a0
        replace a1 := carry hq a1
        replace a2 := carry hq a2
        have gg1 : g < w1.heap.size := Nat.lt_of_lt_of_le gg hq.size
        go_wp2_with fail
        refine (hLn _ hq).mono ?_
        rintro e w2 ⟨rfl, hq2⟩
        go_wp2
        go_roundw
        case rel =>
          refine ⟨k + 1, M ++ T, by omega, by go_num, ?_, by rw [HST.out, HM.out], .inr trivial, btr (btr hb hq) hq2⟩
          show Value.string ((⟨M.toArray⟩ : ByteArray) ++ ⟨T.toArray⟩) = _
          rw [str_app]
        case measure => simp [intOf]; omega
    · have hke : k = n := by omega
      have HE := hid (show M = res by
        rw [HM.out, ← HR.out]
        unfold sigT
        by_cases hs : sigB n L = true
        · rw [if_pos hs, hke]
        · rw [if_neg hs]
          rcases hB with h | h
          · rw [h]; rfl
          · exact absurd h hs)
      have d0 : decide ((k : Int) < (n : Int)) = false := by simp; omega
      clear hB hke hC
      go_wp2
      go_ret
      exact ⟨by rw [HE.out]; rfl, hwr⟩
end Go.Proofs.YtlojneoadibigaaDoor
