/- The line of a symbol, the text of a vocabulary: contracts of the program's write and SigText. -/
import Derived.Test.YtlojneoadibigaaDoorSigT
namespace Go.Proofs.YtlojneoadibigaaDoor
set_option linter.unusedVariables false
set_option linter.unusedSimpArgs false
open Go.Shelf Go.RowKit
set_option maxRecDepth 100000 in
set_option maxHeartbeats 4000000 in
theorem wsym_any (W0 : World) (b : Nat) (nm : ByteArray) (A : Option Addr) (n c : Nat) (Z : Nat → Int) (s : Int) (l : List UInt8) (w : World) (hv : symB nm n Z s = true) (hA : Ints W0 A n Z) (hW : Below W0.heap.size W0 w) (hI : ISB W0.heap.size b l w) (hl : l.length ≤ 1000) :
    Calls Tryd.prog 41 #[.agg #[.string nm, .slice A n c, .int .i64 s], .pointer (some ⟨b, 0, none⟩)] w (WriP W0 b (l ++ symL nm n Z s) w) := by
  obtain ⟨v1, v2, v3, v4⟩ := symB_iff.1 hv
  have hnm := nm_2 v1
  have hz : nm.data.toList.length = nm.size := by rw [Array.length_toList]; rfl
  have H3 := hid v3; have H4 := hid v4; clear hv v1 v3 v4
  have hx := heap_new w #[.string nm, .slice A n c, .int .i64 s] 73
  have hbw : b < w.heap.size := isb_lt hI
  have hxb : w.heap.size ≠ b := by omega
  have hgz := hW.size
  replace hW : Below W0.heap.size W0 (w.alloc (.cells #[.string nm, .slice A n c, .int .i64 s] 73)) := bal hW _
  have hI1 := isb_below hI (bal (Below.refl w.heap.size w) (.cells #[.string nm, .slice A n c, .int .i64 s] 73))
  have hK : KeepsT b w (w.alloc (.cells #[.string nm, .slice A n c, .int .i64 s] 73)) := KeepsT.below (bal (Below.refl _ _) _)
  have HB := hid hI1
  clear hI hI1
  go_enter Tryd.func41, Tryd.ntmps41
  go_wp2_with fail
  refine (wstr_any W0.heap.size b (Lib.byteCells l) nm _ (HB.out) (by rw [Lib.byteCells_length]; omega) hW.size).mono ?_
  rintro e w1 ⟨rfl, hB_, hb_, hk_⟩
  replace hx := hk_.2 _ _ _ _ hx (by decide) hxb
  have x0 := cell_heap (o := 0) hx rfl
  have x1 := cell_heap (o := 1) hx rfl
  have x2 := cell_heap (o := 2) hx rfl
  replace hB_ := bld_to (l := l ++ nm.data.toList) hB_ (by rw [Lib.byteCells_append]; rfl)
  replace hW := hW.trans hb_
  replace hK := hK.trans hk_
  clear hb_ hk_ HB
  obtain ⟨l1, E1⟩ : ∃ x, x = l ++ nm.data.toList := ⟨_, rfl⟩
  rw [← E1] at hB_
  have z1 : l1.length = l.length + (nm.data.toList).length := by rw [E1, List.length_append]
  have EE1 := hid E1; clear E1
  have HB := hid hB_; clear hB_
  clear x0
  go_wp2_with fail
  refine (wbyte_any W0.heap.size b (Lib.byteCells l1) 32 _ (.inr HB.out) (by rw [Lib.byteCells_length]; omega) hW.size).mono ?_
  rintro e w2 ⟨rfl, hB_, hb_, hk_⟩
  replace hx := hk_.2 _ _ _ _ hx (by decide) hxb
  have x0 := cell_heap (o := 0) hx rfl
  have x1 := cell_heap (o := 1) hx rfl
  have x2 := cell_heap (o := 2) hx rfl
  replace hB_ := bld_to (l := l1 ++ [32]) hB_ (byteCells_snoc _ 32)
  replace hW := hW.trans hb_
  replace hK := hK.trans hk_
  clear hb_ hk_ HB
  obtain ⟨l2, E2⟩ : ∃ x, x = l1 ++ [32] := ⟨_, rfl⟩
  rw [← E2] at hB_
  have z2 : l2.length = l1.length + ([32] : List UInt8).length := by rw [E2, List.length_append]
  have EE2 := hid E2; clear E2
  have HB := hid hB_; clear hB_
  simp only [List.length_cons, List.length_nil] at z2
  go_wp2_with fail
  clear x0 x1 x2
  have hx2 := hx; clear hx
  go_loopw [15] (fun i wr => ∃ (k : Nat) (M : List UInt8), k ≤ n ∧ i = .int .i64 k ∧ M = l2 ++ joinA Z k ∧ BLD W0.heap.size b (.pointer (some ⟨b, 0, none⟩)) M wr ∧ Below W0.heap.size W0 wr ∧ KeepsT b w wr ∧ wr.heap[w.heap.size]? = some (.cells #[.string nm, .slice A n c, .int .i64 s] 73 (0, 0))) (fun i _ => n - (intOf i).toNat)
  case atStart => exact ⟨0, l2, Nat.zero_le _, rfl, by rw [joinA, List.append_nil], HB.out, hW, hK, hx2⟩
  case round =>
    clear HB hW hK hx2
    obtain ⟨k, M, hk, rfl, hM, hB_, hW, hK, hx⟩ := hrel
    have zM : M.length = l2.length + k := by rw [hM, List.length_append, joinA_len]
    have HM := hid hM; clear hM
    have HB := hid hB_; clear hB_
    have x1 := cell_heap (o := 1) hx rfl
    have x2 := cell_heap (o := 2) hx rfl
    by_cases hlt : k < n
    · rcases hA with h0 | ⟨g, off, rfl, hg, hcA⟩
      · omega
      have a0 := (hW.cell (p := ⟨g, off + k, none⟩) hg).trans (hcA k hlt)
      have gg : g < wr.heap.size := Nat.lt_of_lt_of_le hg hW.size
      clear hcA
      have hz3 := H3.out k hlt
      go_wp2_with fail
      refine (itoa01 hz3 _).mono ?_
      rintro e _ ⟨rfl, rfl⟩
      go_wp2_with fail
      refine (wstr_any W0.heap.size b (Lib.byteCells M) ⟨[dgB (Z k)].toArray⟩ _ (.inr HB.out) (by rw [Lib.byteCells_length]; show _ + 1 ≤ _; omega) hW.size).mono ?_
      rintro e w3 ⟨rfl, hB_, hb_, hk_⟩
      replace hx := hk_.2 _ _ _ _ hx (by decide) hxb
      replace hB_ := bld_to (l := M ++ [dgB (Z k)]) hB_ (by rw [Lib.byteCells_append]; rfl)
      replace hW := hW.trans hb_
      replace hK := hK.trans hk_
      clear hb_ hk_ HB x1 x2
      have HB := hid hB_; clear hB_
      go_wp2
      go_roundw
      case rel => exact ⟨k + 1, M ++ [dgB (Z k)], by omega, by go_num, by rw [HM.out, joinA, List.append_assoc], HB.out, hW, hK, hx⟩
      case measure => simp [intOf]; omega
    · have hke : k = n := by omega
      have HKE := hid hke
      have d0 : decide ((k : Int) < (n : Int)) = false := by simp; omega
      clear hke hA
      by_cases h0 : n = 0
      · have H0 := hid h0
        have e0 : ((n : Int) == 0) = true := by simp; omega
        clear h0
        go_wp2_with fail
        refine (wbyte_any W0.heap.size b (Lib.byteCells M) 45 _ (.inr HB.out) (by rw [Lib.byteCells_length]; omega) hW.size).mono ?_
        rintro e w5 ⟨rfl, hB_, hb_, hk_⟩
        replace hx := hk_.2 _ _ _ _ hx (by decide) hxb
        have x0 := cell_heap (o := 0) hx rfl
        have x1 := cell_heap (o := 1) hx rfl
        have x2 := cell_heap (o := 2) hx rfl
        replace hB_ := bld_to (l := M ++ [45]) hB_ (byteCells_snoc _ 45)
        replace hW := hW.trans hb_
        replace hK := hK.trans hk_
        clear hb_ hk_ HB
        obtain ⟨l11, E11⟩ : ∃ x, x = M ++ [45] := ⟨_, rfl⟩
        rw [← E11] at hB_
        have z11 : l11.length = M.length + ([45] : List UInt8).length := by rw [E11, List.length_append]
        have EE11 := hid E11; clear E11
        have HB := hid hB_; clear hB_
        simp only [List.length_cons, List.length_nil] at z11
        go_wp2_with fail
        refine (wbyte_any W0.heap.size b (Lib.byteCells l11) 32 _ (.inr HB.out) (by rw [Lib.byteCells_length]; omega) hW.size).mono ?_
        rintro e w6 ⟨rfl, hB_, hb_, hk_⟩
        replace hx := hk_.2 _ _ _ _ hx (by decide) hxb
        have x0 := cell_heap (o := 0) hx rfl
        have x1 := cell_heap (o := 1) hx rfl
        have x2 := cell_heap (o := 2) hx rfl
        replace hB_ := bld_to (l := l11 ++ [32]) hB_ (byteCells_snoc _ 32)
        replace hW := hW.trans hb_
        replace hK := hK.trans hk_
        clear hb_ hk_ HB
        obtain ⟨l12, E12⟩ : ∃ x, x = l11 ++ [32] := ⟨_, rfl⟩
        rw [← E12] at hB_
        have z12 : l12.length = l11.length + ([32] : List UInt8).length := by rw [E12, List.length_append]
        have EE12 := hid E12; clear E12
        have HB := hid hB_; clear hB_
        simp only [List.length_cons, List.length_nil] at z12
        go_wp2_with fail
        refine (itoa01 H4.out _).mono ?_
        rintro e _ ⟨rfl, rfl⟩
        go_wp2_with fail
        refine (wstr_any W0.heap.size b (Lib.byteCells l12) ⟨[dgB s].toArray⟩ _ (.inr HB.out) (by rw [Lib.byteCells_length]; show _ + 1 ≤ _; omega) hW.size).mono ?_
        rintro e w7 ⟨rfl, hB_, hb_, hk_⟩
        replace hx := hk_.2 _ _ _ _ hx (by decide) hxb
        have x0 := cell_heap (o := 0) hx rfl
        have x1 := cell_heap (o := 1) hx rfl
        have x2 := cell_heap (o := 2) hx rfl
        replace hB_ := bld_to (l := l12 ++ [dgB s]) hB_ (by rw [Lib.byteCells_append]; rfl)
        replace hW := hW.trans hb_
        replace hK := hK.trans hk_
        clear hb_ hk_ HB
        obtain ⟨l13, E13⟩ : ∃ x, x = l12 ++ [dgB s] := ⟨_, rfl⟩
        rw [← E13] at hB_
        have z13 : l13.length = l12.length + ([dgB s]).length := by rw [E13, List.length_append]
        have EE13 := hid E13; clear E13
        have HB := hid hB_; clear hB_
        simp only [List.length_cons, List.length_nil] at z13
        go_wp2_with fail
        refine (wbyte_any W0.heap.size b (Lib.byteCells l13) 10 _ (.inr HB.out) (by rw [Lib.byteCells_length]; omega) hW.size).mono ?_
        rintro e w8 ⟨rfl, hB_, hb_, hk_⟩
        replace hx := hk_.2 _ _ _ _ hx (by decide) hxb
        have x0 := cell_heap (o := 0) hx rfl
        have x1 := cell_heap (o := 1) hx rfl
        have x2 := cell_heap (o := 2) hx rfl
        replace hB_ := bld_to (l := l13 ++ [10]) hB_ (byteCells_snoc _ 10)
        replace hW := hW.trans hb_
        replace hK := hK.trans hk_
        clear hb_ hk_ HB
        obtain ⟨l14, E14⟩ : ∃ x, x = l13 ++ [10] := ⟨_, rfl⟩
        rw [← E14] at hB_
        have z14 : l14.length = l13.length + ([10] : List UInt8).length := by rw [E14, List.length_append]
        have EE14 := hid E14; clear E14
        have HB := hid hB_; clear hB_
        simp only [List.length_cons, List.length_nil] at z14
        have HW := hid (show WriP W0 b (l ++ symL nm n Z s) w (.returned (.tuple #[])) w8 from ⟨rfl, by
          have hh := HB.out
          rw [EE14.out, EE13.out, EE12.out, EE11.out, HM.out, HKE.out, H0.out, joinA, List.append_nil, EE2.out, EE1.out] at hh
          unfold symL
          rw [if_pos H0.out]
          simpa only [List.append_assoc] using hh, hW, hK⟩)
        go_wp2
        go_end0
        exact HW.out
      · have H0 := hid h0
        have e0 : ((n : Int) == 0) = false := by simp; omega
        clear h0
        go_wp2_with fail
        refine (wbyte_any W0.heap.size b (Lib.byteCells M) 32 _ (.inr HB.out) (by rw [Lib.byteCells_length]; omega) hW.size).mono ?_
        rintro e w5 ⟨rfl, hB_, hb_, hk_⟩
        replace hx := hk_.2 _ _ _ _ hx (by decide) hxb
        have x0 := cell_heap (o := 0) hx rfl
        have x1 := cell_heap (o := 1) hx rfl
        have x2 := cell_heap (o := 2) hx rfl
        replace hB_ := bld_to (l := M ++ [32]) hB_ (byteCells_snoc _ 32)
        replace hW := hW.trans hb_
        replace hK := hK.trans hk_
        clear hb_ hk_ HB
        obtain ⟨l21, E21⟩ : ∃ x, x = M ++ [32] := ⟨_, rfl⟩
        rw [← E21] at hB_
        have z21 : l21.length = M.length + ([32] : List UInt8).length := by rw [E21, List.length_append]
        have EE21 := hid E21; clear E21
        have HB := hid hB_; clear hB_
        simp only [List.length_cons, List.length_nil] at z21
        go_wp2_with fail
        refine (itoa01 H4.out _).mono ?_
        rintro e _ ⟨rfl, rfl⟩
        go_wp2_with fail
        refine (wstr_any W0.heap.size b (Lib.byteCells l21) ⟨[dgB s].toArray⟩ _ (.inr HB.out) (by rw [Lib.byteCells_length]; show _ + 1 ≤ _; omega) hW.size).mono ?_
        rintro e w6 ⟨rfl, hB_, hb_, hk_⟩
        replace hx := hk_.2 _ _ _ _ hx (by decide) hxb
        have x0 := cell_heap (o := 0) hx rfl
        have x1 := cell_heap (o := 1) hx rfl
        have x2 := cell_heap (o := 2) hx rfl
        replace hB_ := bld_to (l := l21 ++ [dgB s]) hB_ (by rw [Lib.byteCells_append]; rfl)
        replace hW := hW.trans hb_
        replace hK := hK.trans hk_
        clear hb_ hk_ HB
        obtain ⟨l22, E22⟩ : ∃ x, x = l21 ++ [dgB s] := ⟨_, rfl⟩
        rw [← E22] at hB_
        have z22 : l22.length = l21.length + ([dgB s]).length := by rw [E22, List.length_append]
        have EE22 := hid E22; clear E22
        have HB := hid hB_; clear hB_
        simp only [List.length_cons, List.length_nil] at z22
        go_wp2_with fail
        refine (wbyte_any W0.heap.size b (Lib.byteCells l22) 10 _ (.inr HB.out) (by rw [Lib.byteCells_length]; omega) hW.size).mono ?_
        rintro e w7 ⟨rfl, hB_, hb_, hk_⟩
        replace hx := hk_.2 _ _ _ _ hx (by decide) hxb
        have x0 := cell_heap (o := 0) hx rfl
        have x1 := cell_heap (o := 1) hx rfl
        have x2 := cell_heap (o := 2) hx rfl
        replace hB_ := bld_to (l := l22 ++ [10]) hB_ (byteCells_snoc _ 10)
        replace hW := hW.trans hb_
        replace hK := hK.trans hk_
        clear hb_ hk_ HB
        obtain ⟨l23, E23⟩ : ∃ x, x = l22 ++ [10] := ⟨_, rfl⟩
        rw [← E23] at hB_
        have z23 : l23.length = l22.length + ([10] : List UInt8).length := by rw [E23, List.length_append]
        have EE23 := hid E23; clear E23
        have HB := hid hB_; clear hB_
        simp only [List.length_cons, List.length_nil] at z23
        have HW := hid (show WriP W0 b (l ++ symL nm n Z s) w (.returned (.tuple #[])) w7 from ⟨rfl, by
          have hh := HB.out
          rw [EE23.out, EE22.out, EE21.out, HM.out, HKE.out, EE2.out, EE1.out] at hh
          unfold symL
          rw [if_neg H0.out]
          simpa only [List.append_assoc] using hh, hW, hK⟩)
        go_wp2
        go_end0
        exact HW.out
end Go.Proofs.YtlojneoadibigaaDoor
