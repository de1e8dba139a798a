/- Several texts in one: SigT, SigU, SigV, SigW. -/
import Derived.Test.YtcnlolocppbcjaaDoorBSig
import Derived.Test.YtcnlolocppbcjaaDoorBldK
import Derived.Lib.AppendIntMem
import Derived.Lib.SmallJoins
import Derived.Laws.BytesString
import Derived.Test.YtcnlolocppbcjaaDoorDec
namespace Go.Proofs.YtcnlolocppbcjaaDoor
set_option linter.unusedVariables false
set_option linter.unusedSimpArgs false
open Go.Shelf Go.RowKit Go.Joins
theorem ret_i64 {a b : Int} (h : a = b) : Ending.returned (.int .i64 a) = .returned (.int .i64 b) := by rw [h]
/-- what write leaves of the builder -/
def WriP (W0 : World) (b : Nat) (l : List UInt8) (w : World) (e : Ending) (w' : World) : Prop :=
  e = .returned (.tuple #[]) ∧ BLD W0.heap.size b (.pointer (some ⟨b, 0, none⟩)) l w' ∧ Below W0.heap.size W0 w' ∧ KeepsT b w w'
/-- the digit of a sort -/
def dgB (z : Int) : UInt8 := if z = 0 then 48 else 49
theorem sortB_01 {z : Int} (h : sortB z = true) : z = 0 ∨ z = 1 := of_decide_eq_true h
theorem itoa01 {z : Int} (h : sortB z = true) (w : World) : Calls Tryd.prog 43 #[.int .i64 z] w fun e w' => e = .returned (.string ⟨[dgB z].toArray⟩) ∧ w = w' := by
  rcases sortB_01 h with rfl | rfl
  · refine (Tryd.strconv_Itoa_small 0 (by omega) w).mono ?_
    rintro e w' ⟨rfl, rfl⟩
    exact ⟨by rw [dec_small (by omega)]; rfl, rfl⟩
  · refine (Tryd.strconv_Itoa_small 1 (by omega) w).mono ?_
    rintro e w' ⟨rfl, rfl⟩
    exact ⟨by rw [dec_small (by omega)]; rfl, rfl⟩
theorem dec01 {z : Int} (h : sortB z = true) (w : World) : Calls Tryd.prog 33 #[.int .i64 z] w fun e w' => e = .returned (.string ⟨[dgB z].toArray⟩) ∧ Below w.heap.size w w' := by
  rcases sortB_01 h with rfl | rfl
  · refine (ldec_nat 0 w (by omega)).mono ?_
    rintro e w' ⟨rfl, hq⟩
    exact ⟨by rw [dec_small (by omega)]; rfl, hq⟩
  · refine (ldec_nat 1 w (by omega)).mono ?_
    rintro e w' ⟨rfl, hq⟩
    exact ⟨by rw [dec_small (by omega)]; rfl, hq⟩
/-- the digits of sorts -/
def joinA (Z : Nat → Int) : Nat → List UInt8
  | 0 => []
  | k + 1 => joinA Z k ++ [dgB (Z k)]
theorem joinA_len (Z : Nat → Int) : ∀ k, (joinA Z k).length = k
  | 0 => rfl
  | k + 1 => by rw [joinA, List.length_append, joinA_len Z k]; rfl
/-- the line of a symbol -/
def symL (nm : ByteArray) (n : Nat) (Z : Nat → Int) (s : Int) : List UInt8 := nm.data.toList ++ [32] ++ (if n = 0 then [45] else joinA Z n) ++ [32] ++ [dgB s] ++ [10]
def sigL (L : Sy) : Nat → List UInt8
  | 0 => []
  | k + 1 => sigL L k ++ symL (L.Nm k) (L.N k) (L.Z k) (L.S k)
theorem nm_2 {nm : ByteArray} (h : nameB nm = true) : nm.size ≤ 2 := (nameB_iff.1 h).2.1
theorem symL_len {nm : ByteArray} {n : Nat} {Z : Nat → Int} {s : Int} (h : symB nm n Z s = true) : (symL nm n Z s).length ≤ 8 := by
  obtain ⟨h1, h2, _, _⟩ := symB_iff.1 h
  have := nm_2 h1
  have hz : nm.data.toList.length = nm.size := by rw [Array.length_toList]; rfl
  unfold symL
  simp only [List.length_append, List.length_cons, List.length_nil, hz]
  by_cases h0 : n = 0
  · rw [if_pos h0]; simp only [List.length_cons, List.length_nil]; omega
  · rw [if_neg h0, joinA_len]; omega
theorem sigL_len {L : Sy} : ∀ {k : Nat}, (∀ j, j < k → symB (L.Nm j) (L.N j) (L.Z j) (L.S j) = true) → (sigL L k).length ≤ 8 * k
  | 0, _ => Nat.le_refl _
  | k + 1, h => by
    have := sigL_len (k := k) (fun j hj => h j (by omega))
    have := symL_len (h k (by omega))
    rw [sigL, List.length_append]; omega
/-- the text of a vocabulary -/
def sigT (n : Nat) (L : Sy) : List UInt8 := if sigB n L = true then sigL L n else []
end Go.Proofs.YtcnlolocppbcjaaDoor

namespace Go.Proofs.YtcnlolocppbcjaaDoor
set_option linter.unusedVariables false
set_option linter.unusedSimpArgs false
open Go.Shelf Go.RowKit
set_option maxRecDepth 100000 in
set_option maxHeartbeats 4000000 in
theorem wsym_any (W0 : World) (b : Nat) (nm : ByteArray) (A : Option Addr) (n c : Nat) (Z : Nat → Int) (s : Int) (l : List UInt8) (w : World) (hv : symB nm n Z s = true) (hA : Ints W0 A n Z) (hW : Below W0.heap.size W0 w) (hI : ISB W0.heap.size b l w) (hl : l.length ≤ 1000) :
    Calls Tryd.prog 27 #[.agg #[.string nm, .slice A n c, .int .i64 s], .pointer (some ⟨b, 0, none⟩)] w (WriP W0 b (l ++ symL nm n Z s) w) := by
  obtain ⟨v1, v2, v3, v4⟩ := symB_iff.1 hv
  have hnm := nm_2 v1
  have hz : nm.data.toList.length = nm.size := by rw [Array.length_toList]; rfl
  have H3 := hid v3; have H4 := hid v4; clear hv v1 v3 v4
  have hx := heap_new w #[.string nm, .slice A n c, .int .i64 s] 34
  have hbw : b < w.heap.size := isb_lt hI
  have hxb : w.heap.size ≠ b := by omega
  have hgz := hW.size
  replace hW : Below W0.heap.size W0 (w.alloc (.cells #[.string nm, .slice A n c, .int .i64 s] 34)) := bal hW _
  have hI1 := isb_below hI (bal (Below.refl w.heap.size w) (.cells #[.string nm, .slice A n c, .int .i64 s] 34))
  have hK : KeepsT b w (w.alloc (.cells #[.string nm, .slice A n c, .int .i64 s] 34)) := KeepsT.below (bal (Below.refl _ _) _)
  have HB := hid hI1
  clear hI hI1
  go_enter Tryd.func27, Tryd.ntmps27
  go_wp2_with fail
  refine (wstr_any W0.heap.size b (Lib.byteCells l) nm _ (HB.out) (by rw [Lib.byteCells_length]; omega) hW.size).mono ?_
  rintro e w1 ⟨rfl, hB_, hb_, hk_⟩
  replace hx := hk_.2 _ _ _ _ hx (by decide) hxb
  have x0 := cell_heap (o := 0) hx rfl
  have x1 := cell_heap (o := 1) hx rfl
  have x2 := cell_heap (o := 2) hx rfl
  replace hB_ := bld_to (l := l ++ nm.data.toList) hB_ (by rw [Lib.byteCells_append]; rfl)
  replace hW := hW.trans hb_
  replace hK := hK.trans hk_
  clear hb_ hk_ HB
  obtain ⟨l1, E1⟩ : ∃ x, x = l ++ nm.data.toList := ⟨_, rfl⟩
  rw [← E1] at hB_
  have z1 : l1.length = l.length + (nm.data.toList).length := by rw [E1, List.length_append]
  have EE1 := hid E1; clear E1
  have HB := hid hB_; clear hB_
  clear x0
  go_wp2_with fail
  refine (wbyte_any W0.heap.size b (Lib.byteCells l1) 32 _ (.inr HB.out) (by rw [Lib.byteCells_length]; omega) hW.size).mono ?_
  rintro e w2 ⟨rfl, hB_, hb_, hk_⟩
  replace hx := hk_.2 _ _ _ _ hx (by decide) hxb
  have x0 := cell_heap (o := 0) hx rfl
  have x1 := cell_heap (o := 1) hx rfl
  have x2 := cell_heap (o := 2) hx rfl
  replace hB_ := bld_to (l := l1 ++ [32]) hB_ (byteCells_snoc _ 32)
  replace hW := hW.trans hb_
  replace hK := hK.trans hk_
  clear hb_ hk_ HB
  obtain ⟨l2, E2⟩ : ∃ x, x = l1 ++ [32] := ⟨_, rfl⟩
  rw [← E2] at hB_
  have z2 : l2.length = l1.length + ([32] : List UInt8).length := by rw [E2, List.length_append]
  have EE2 := hid E2; clear E2
  have HB := hid hB_; clear hB_
  simp only [List.length_cons, List.length_nil] at z2
  go_wp2_with fail
  clear x0 x1 x2
  have hx2 := hx; clear hx
  go_loopw [15] (fun i wr => ∃ (k : Nat) (M : List UInt8), k ≤ n ∧ i = .int .i64 k ∧ M = l2 ++ joinA Z k ∧ BLD W0.heap.size b (.pointer (some ⟨b, 0, none⟩)) M wr ∧ Below W0.heap.size W0 wr ∧ KeepsT b w wr ∧ wr.heap[w.heap.size]? = some (.cells #[.string nm, .slice A n c, .int .i64 s] 34 (0, 0))) (fun i _ => n - (intOf i).toNat)
  case atStart => exact ⟨0, l2, Nat.zero_le _, rfl, by rw [joinA, List.append_nil], HB.out, hW, hK, hx2⟩
  case round =>
    clear HB hW hK hx2
    obtain ⟨k, M, hk, rfl, hM, hB_, hW, hK, hx⟩ := hrel
    have zM : M.length = l2.length + k := by rw [hM, List.length_append, joinA_len]
    have HM := hid hM; clear hM
    have HB := hid hB_; clear hB_
    have x1 := cell_heap (o := 1) hx rfl
    have x2 := cell_heap (o := 2) hx rfl
    by_cases hlt : k < n
    · rcases hA with h0 | ⟨g, off, rfl, hg, hcA⟩
      · omega
      have a0 := (hW.cell (p := ⟨g, off + k, none⟩) hg).trans (hcA k hlt)
      have gg : g < wr.heap.size := Nat.lt_of_lt_of_le hg hW.size
      clear hcA
      have hz3 := H3.out k hlt
      go_wp2_with fail
      refine (itoa01 hz3 _).mono ?_
      rintro e _ ⟨rfl, rfl⟩
      go_wp2_with fail
      refine (wstr_any W0.heap.size b (Lib.byteCells M) ⟨[dgB (Z k)].toArray⟩ _ (.inr HB.out) (by rw [Lib.byteCells_length]; show _ + 1 ≤ _; omega) hW.size).mono ?_
      rintro e w3 ⟨rfl, hB_, hb_, hk_⟩
      replace hx := hk_.2 _ _ _ _ hx (by decide) hxb
      replace hB_ := bld_to (l := M ++ [dgB (Z k)]) hB_ (by rw [Lib.byteCells_append]; rfl)
      replace hW := hW.trans hb_
      replace hK := hK.trans hk_
      clear hb_ hk_ HB x1 x2
      have HB := hid hB_; clear hB_
      go_wp2
      go_roundw
      case rel => exact ⟨k + 1, M ++ [dgB (Z k)], by omega, by go_num, by rw [HM.out, joinA, List.append_assoc], HB.out, hW, hK, hx⟩
      case measure => simp [intOf]; omega
    · have hke : k = n := by omega
      have HKE := hid hke
      have d0 : decide ((k : Int) < (n : Int)) = false := by simp; omega
      clear hke hA
      by_cases h0 : n = 0
      · have H0 := hid h0
        have e0 : ((n : Int) == 0) = true := by simp; omega
        clear h0
        go_wp2_with fail
        refine (wbyte_any W0.heap.size b (Lib.byteCells M) 45 _ (.inr HB.out) (by rw [Lib.byteCells_length]; omega) hW.size).mono ?_
        rintro e w5 ⟨rfl, hB_, hb_, hk_⟩
        replace hx := hk_.2 _ _ _ _ hx (by decide) hxb
        have x0 := cell_heap (o := 0) hx rfl
        have x1 := cell_heap (o := 1) hx rfl
        have x2 := cell_heap (o := 2) hx rfl
        replace hB_ := bld_to (l := M ++ [45]) hB_ (byteCells_snoc _ 45)
        replace hW := hW.trans hb_
        replace hK := hK.trans hk_
        clear hb_ hk_ HB
        obtain ⟨l11, E11⟩ : ∃ x, x = M ++ [45] := ⟨_, rfl⟩
        rw [← E11] at hB_
        have z11 : l11.length = M.length + ([45] : List UInt8).length := by rw [E11, List.length_append]
        have EE11 := hid E11; clear E11
        have HB := hid hB_; clear hB_
        simp only [List.length_cons, List.length_nil] at z11
        go_wp2_with fail
        refine (wbyte_any W0.heap.size b (Lib.byteCells l11) 32 _ (.inr HB.out) (by rw [Lib.byteCells_length]; omega) hW.size).mono ?_
        rintro e w6 ⟨rfl, hB_, hb_, hk_⟩
        replace hx := hk_.2 _ _ _ _ hx (by decide) hxb
        have x0 := cell_heap (o := 0) hx rfl
        have x1 := cell_heap (o := 1) hx rfl
        have x2 := cell_heap (o := 2) hx rfl
        replace hB_ := bld_to (l := l11 ++ [32]) hB_ (byteCells_snoc _ 32)
        replace hW := hW.trans hb_
        replace hK := hK.trans hk_
        clear hb_ hk_ HB
        obtain ⟨l12, E12⟩ : ∃ x, x = l11 ++ [32] := ⟨_, rfl⟩
        rw [← E12] at hB_
        have z12 : l12.length = l11.length + ([32] : List UInt8).length := by rw [E12, List.length_append]
        have EE12 := hid E12; clear E12
        have HB := hid hB_; clear hB_
        simp only [List.length_cons, List.length_nil] at z12
        go_wp2_with fail
        refine (itoa01 H4.out _).mono ?_
        rintro e _ ⟨rfl, rfl⟩
        go_wp2_with fail
        refine (wstr_any W0.heap.size b (Lib.byteCells l12) ⟨[dgB s].toArray⟩ _ (.inr HB.out) (by rw [Lib.byteCells_length]; show _ + 1 ≤ _; omega) hW.size).mono ?_
        rintro e w7 ⟨rfl, hB_, hb_, hk_⟩
        replace hx := hk_.2 _ _ _ _ hx (by decide) hxb
        have x0 := cell_heap (o := 0) hx rfl
        have x1 := cell_heap (o := 1) hx rfl
        have x2 := cell_heap (o := 2) hx rfl
        replace hB_ := bld_to (l := l12 ++ [dgB s]) hB_ (by rw [Lib.byteCells_append]; rfl)
        replace hW := hW.trans hb_
        replace hK := hK.trans hk_
        clear hb_ hk_ HB
        obtain ⟨l13, E13⟩ : ∃ x, x = l12 ++ [dgB s] := ⟨_, rfl⟩
        rw [← E13] at hB_
        have z13 : l13.length = l12.length + ([dgB s]).length := by rw [E13, List.length_append]
        have EE13 := hid E13; clear E13
        have HB := hid hB_; clear hB_
        simp only [List.length_cons, List.length_nil] at z13
        go_wp2_with fail
        refine (wbyte_any W0.heap.size b (Lib.byteCells l13) 10 _ (.inr HB.out) (by rw [Lib.byteCells_length]; omega) hW.size).mono ?_
        rintro e w8 ⟨rfl, hB_, hb_, hk_⟩
        replace hx := hk_.2 _ _ _ _ hx (by decide) hxb
        have x0 := cell_heap (o := 0) hx rfl
        have x1 := cell_heap (o := 1) hx rfl
        have x2 := cell_heap (o := 2) hx rfl
        replace hB_ := bld_to (l := l13 ++ [10]) hB_ (byteCells_snoc _ 10)
        replace hW := hW.trans hb_
        replace hK := hK.trans hk_
        clear hb_ hk_ HB
        obtain ⟨l14, E14⟩ : ∃ x, x = l13 ++ [10] := ⟨_, rfl⟩
        rw [← E14] at hB_
        have z14 : l14.length = l13.length + ([10] : List UInt8).length := by rw [E14, List.length_append]
        have EE14 := hid E14; clear E14
        have HB := hid hB_; clear hB_
        simp only [List.length_cons, List.length_nil] at z14
        have HW := hid (show WriP W0 b (l ++ symL nm n Z s) w (.returned (.tuple #[])) w8 from ⟨rfl, by
          have hh := HB.out
          rw [EE14.out, EE13.out, EE12.out, EE11.out, HM.out, HKE.out, H0.out, joinA, List.append_nil, EE2.out, EE1.out] at hh
          unfold symL
          rw [if_pos H0.out]
          simpa only [List.append_assoc] using hh, hW, hK⟩)
        go_wp2
        go_end0
        exact HW.out
      · have H0 := hid h0
        have e0 : ((n : Int) == 0) = false := by simp; omega
        clear h0
        go_wp2_with fail
        refine (wbyte_any W0.heap.size b (Lib.byteCells M) 32 _ (.inr HB.out) (by rw [Lib.byteCells_length]; omega) hW.size).mono ?_
        rintro e w5 ⟨rfl, hB_, hb_, hk_⟩
        replace hx := hk_.2 _ _ _ _ hx (by decide) hxb
        have x0 := cell_heap (o := 0) hx rfl
        have x1 := cell_heap (o := 1) hx rfl
        have x2 := cell_heap (o := 2) hx rfl
        replace hB_ := bld_to (l := M ++ [32]) hB_ (byteCells_snoc _ 32)
        replace hW := hW.trans hb_
        replace hK := hK.trans hk_
        clear hb_ hk_ HB
        obtain ⟨l21, E21⟩ : ∃ x, x = M ++ [32] := ⟨_, rfl⟩
        rw [← E21] at hB_
        have z21 : l21.length = M.length + ([32] : List UInt8).length := by rw [E21, List.length_append]
        have EE21 := hid E21; clear E21
        have HB := hid hB_; clear hB_
        simp only [List.length_cons, List.length_nil] at z21
        go_wp2_with fail
        refine (itoa01 H4.out _).mono ?_
        rintro e _ ⟨rfl, rfl⟩
        go_wp2_with fail
        refine (wstr_any W0.heap.size b (Lib.byteCells l21) ⟨[dgB s].toArray⟩ _ (.inr HB.out) (by rw [Lib.byteCells_length]; show _ + 1 ≤ _; omega) hW.size).mono ?_
        rintro e w6 ⟨rfl, hB_, hb_, hk_⟩
        replace hx := hk_.2 _ _ _ _ hx (by decide) hxb
        have x0 := cell_heap (o := 0) hx rfl
        have x1 := cell_heap (o := 1) hx rfl
        have x2 := cell_heap (o := 2) hx rfl
        replace hB_ := bld_to (l := l21 ++ [dgB s]) hB_ (by rw [Lib.byteCells_append]; rfl)
        replace hW := hW.trans hb_
        replace hK := hK.trans hk_
        clear hb_ hk_ HB
        obtain ⟨l22, E22⟩ : ∃ x, x = l21 ++ [dgB s] := ⟨_, rfl⟩
        rw [← E22] at hB_
        have z22 : l22.length = l21.length + ([dgB s]).length := by rw [E22, List.length_append]
        have EE22 := hid E22; clear E22
        have HB := hid hB_; clear hB_
        simp only [List.length_cons, List.length_nil] at z22
        go_wp2_with fail
        refine (wbyte_any W0.heap.size b (Lib.byteCells l22) 10 _ (.inr HB.out) (by rw [Lib.byteCells_length]; omega) hW.size).mono ?_
        rintro e w7 ⟨rfl, hB_, hb_, hk_⟩
        replace hx := hk_.2 _ _ _ _ hx (by decide) hxb
        have x0 := cell_heap (o := 0) hx rfl
        have x1 := cell_heap (o := 1) hx rfl
        have x2 := cell_heap (o := 2) hx rfl
        replace hB_ := bld_to (l := l22 ++ [10]) hB_ (byteCells_snoc _ 10)
        replace hW := hW.trans hb_
        replace hK := hK.trans hk_
        clear hb_ hk_ HB
        obtain ⟨l23, E23⟩ : ∃ x, x = l22 ++ [10] := ⟨_, rfl⟩
        rw [← E23] at hB_
        have z23 : l23.length = l22.length + ([10] : List UInt8).length := by rw [E23, List.length_append]
        have EE23 := hid E23; clear E23
        have HB := hid hB_; clear hB_
        simp only [List.length_cons, List.length_nil] at z23
        have HW := hid (show WriP W0 b (l ++ symL nm n Z s) w (.returned (.tuple #[])) w7 from ⟨rfl, by
          have hh := HB.out
          rw [EE23.out, EE22.out, EE21.out, HM.out, HKE.out, EE2.out, EE1.out] at hh
          unfold symL
          rw [if_neg H0.out]
          simpa only [List.append_assoc] using hh, hW, hK⟩)
        go_wp2
        go_end0
        exact HW.out
end Go.Proofs.YtcnlolocppbcjaaDoor

namespace Go.Proofs.YtcnlolocppbcjaaDoor
set_option linter.unusedVariables false
set_option linter.unusedSimpArgs false
open Go.Shelf Go.RowKit
set_option maxRecDepth 100000 in
set_option maxHeartbeats 4000000 in
theorem sigtext_any (A : Option Addr) (n c : Nat) (L : Sy) (w : World) (hn : n ≤ 1048576) (hA : Syms w A n L) :
    Calls Tryd.prog 15 #[.agg #[.slice A n c]] w fun e w' => e = .returned (.string ⟨(sigT n L).toArray⟩) ∧ Below w.heap.size w w' := by
  have hO := fun W (hb : Below w.heap.size w W) => sigok_any A n c L W (by omega) (hA.below hb)
  have q0 := bal (Below.refl w.heap.size w) (.cells #[.slice A n c] 24)
  have b0 : (w.alloc (.cells #[.slice A n c] 24)).cell? ⟨w.heap.size, 0, none⟩ = some (.slice A n c) := by simp [go_sem]
  cases hs : sigB n L
  · rw [hs] at hO
    have e : sigT n L = [] := by unfold sigT; rw [hs]; rfl
    rw [e]
    clear hs e hA
    go_enter Tryd.func15, Tryd.ntmps15
    go_wp2_with fail
    refine (hO _ q0).mono ?_
    rintro e w1 ⟨rfl, hq⟩
    clear hO
    go_wp2
    go_ret
    exact ⟨rfl, btr q0 hq⟩
  · rw [hs] at hO
    obtain ⟨h7, hsy, _⟩ := sigB_iff.1 hs
    have e : sigT n L = sigL L n := by unfold sigT; rw [hs]; rfl
    rw [e]
    have HS := hid hsy
    clear hs e hsy
    go_enter Tryd.func15, Tryd.ntmps15
    go_wp2_with fail
    refine (hO _ q0).mono ?_
    rintro e w1 ⟨rfl, hq⟩
    clear hO
    have hW1 := btr q0 hq
    have c0 := carryA (.cells #[.pointer none, .slice none 0 0] 55) (carry hq b0)
    have hB := bld_new w1
    have hW2 := bal (Below.refl w1.heap.size w1) (.cells #[.pointer none, .slice none 0 0] 55)
    have HB := hid hB; clear hB b0 hq
    go_wp2_with fail
    clear c0
    go_loopw [12] (fun i wr => ∃ k : Nat, k ≤ n ∧ i = .int .i64 k ∧ ISB w1.heap.size w1.heap.size (sigL L k) wr ∧ Below w1.heap.size w1 wr) (fun i _ => n - (intOf i).toNat)
    case atStart => exact ⟨0, Nat.zero_le _, rfl, .inl HB.out, hW2⟩
    case round =>
      clear HB hW2
      obtain ⟨k, hk, rfl, hI, hW⟩ := hrel
      have HI := hid hI
      have hbk := isb_lt hI
      have hlen := sigL_len (L := L) (k := k) (fun j hj => HS.out j (by omega))
      clear hI
      by_cases hlt : k < n
      · rcases hA with h0 | ⟨g, off, rfl, hg, hcA⟩
        · omega
        obtain ⟨a, ca, a0, a1, a2, _, hNk, hJ⟩ := hcA k hlt
        have hwr := hW1.trans (hW.mono hW1.size)
        have gg : g < wr.heap.size := Nat.lt_of_lt_of_le hg hwr.size
        replace a0 := carry hwr a0
        replace a1 := carry hwr a1
        replace a2 := carry hwr a2
        have hJ1 := hJ.below hW1
        clear hcA hJ hwr
        have al := bal (Below.refl wr.heap.size wr) (.cells #[.string (L.Nm k), .slice a (L.N k) ca, .int .i64 (L.S k)] 34)
        have hC := wsym_any w1 w1.heap.size (L.Nm k) a (L.N k) ca (L.Z k) (L.S k) (sigL L k) (wr.alloc (.cells #[.string (L.Nm k), .slice a (L.N k) ca, .int .i64 (L.S k)] 34)) (HS.out k hlt) hJ1 (bal hW _) (isb_below HI.out al) (by omega)
        clear hJ1 al
        go_wp2_with fail
        refine hC.mono ?_
        rintro e w3 ⟨rfl, hB3, hb3, _⟩
        have HB := hid hB3; clear hB3 hC
        go_wp2
        go_roundw
        case rel => exact ⟨k + 1, by omega, by go_num, .inr HB.out, hb3⟩
        case measure => simp [intOf]; omega
      · have hke : k = n := by omega
        subst hke
        have d0 : decide ((k : Int) < (k : Int)) = false := by simp
        go_wp2_with fail
        refine (Tryd.Builder_String_any w1.heap.size w1.heap.size (sigL L k) wr HI.out hW.size).mono ?_
        rintro e w4 ⟨rfl, hb4⟩
        go_wp2
        go_ret
        exact ⟨rfl, hW1.trans ((hW.trans hb4).mono hW1.size)⟩
end Go.Proofs.YtcnlolocppbcjaaDoor

namespace Go.Proofs.YtcnlolocppbcjaaDoor
set_option linter.unusedVariables false
set_option linter.unusedSimpArgs false
open Go.RowKit
theorem str_appW (a b : List UInt8) : (⟨a.toArray⟩ : ByteArray) ++ ⟨b.toArray⟩ = ⟨(a ++ b).toArray⟩ := by
  apply ByteArray.ext
  rw [ByteArray.data_append]
  show a.toArray ++ b.toArray = _
  rw [List.append_toArray]
theorem str_of (a : ByteArray) : a = ⟨(a.data.toList).toArray⟩ := by
  apply ByteArray.ext
  show a.data = a.data.toList.toArray
  simp
theorem str_ne {l : List UInt8} (h : l ≠ []) : ((⟨l.toArray⟩ : ByteArray).toList == (⟨#[]⟩ : ByteArray).toList) = false := by
  rw [ByteArray.toList_eq, ByteArray.toList_eq]
  show (l.toArray.toList == (#[] : Array UInt8).toList) = false
  simpa using h
theorem str_nil : ((⟨#[]⟩ : ByteArray).toList == (⟨#[]⟩ : ByteArray).toList) = true := by simp
set_option maxRecDepth 100000 in
set_option maxHeartbeats 4000000 in
theorem line_any (nm : ByteArray) (A : Option Addr) (n c : Nat) (Z : Nat → Int) (s : Int) (w : World) (hv : symB nm n Z s = true) (hA : Ints w A n Z) :
    Calls Tryd.prog 22 #[.agg #[.string nm, .slice A n c, .int .i64 s]] w fun e w' => e = .returned (.string ⟨(symL nm n Z s).toArray⟩) ∧ Below w.heap.size w w' := by
  obtain ⟨v1, v2, v3, v4⟩ := symB_iff.1 hv
  have hnm := nm_2 v1
  have H3 := hid v3; have H4 := hid v4; clear hv v1 v3 v4
  obtain ⟨b0, b1, b2⟩ := new3 w (.string nm) (.slice A n c) (.int .i64 s) 34
  have q0 := bal (Below.refl w.heap.size w) (.cells #[.string nm, .slice A n c, .int .i64 s] 34)
  have hA2 := hA.below q0
  clear hA
  go_enter Tryd.func22, Tryd.ntmps22
  go_wp2
  generalize w.alloc (.cells #[.string nm, .slice A n c, .int .i64 s] 34) = W0 at *
  go_loopw [3, 4] (fun o i wr => ∃ (k : Nat) (M : List UInt8), k ≤ n ∧ i = .int .i64 k ∧ o = .string ⟨M.toArray⟩ ∧ M = joinA Z k ∧ Below W0.heap.size W0 wr) (fun _ i _ => n - (intOf i).toNat)
  case atStart => exact ⟨0, [], Nat.zero_le _, rfl, rfl, rfl, Below.refl _ _⟩
  case round =>
    obtain ⟨k, M, hk, rfl, rfl, hM, hb⟩ := hrel
    have zM0 : M.length = k := by rw [hM, joinA_len]
    have zM : ByteArray.size ⟨M.toArray⟩ ≤ 2 := by show M.length ≤ 2; omega
    have HM := hid hM; clear hM
    have g0 := carry hb b0
    have g1 := carry hb b1
    have g2 := carry hb b2
    have gs : w.heap.size < wr.heap.size := cell_lt g1
    clear b0 b1 b2
    by_cases hlt : k < n
    · rcases hA2 with h0 | ⟨g, off, rfl, hg, hcA⟩
      · omega
      have a0 := carry hb (hcA k hlt)
      have gg : g < wr.heap.size := Nat.lt_of_lt_of_le hg hb.size
      have hC := dec01 (H3.out k hlt) wr
      clear hcA zM0
      have zd : ByteArray.size ⟨[dgB (Z k)].toArray⟩ ≤ 1 := Nat.le_refl 1
      generalize hd : dgB (Z k) = dd at hC zd
      have HD := hid hd; clear hd
      go_wp2_with (go_at_call 33; refine hC.mono ?_; rintro e w1 ⟨rfl, hq⟩)
      go_roundw
      case rel =>
        refine ⟨k + 1, M ++ [dd], by omega, by go_num, ?_, by rw [joinA, ← HM.out, HD.out], btr hb hq⟩
        show Value.string ((⟨M.toArray⟩ : ByteArray) ++ ⟨[dd].toArray⟩) = _
        rw [str_appW]
      case measure => simp [intOf]; omega
    · have hke : k = n := by omega
      have HK := hid hke
      have d0 : decide ((k : Int) < (n : Int)) = false := by simp; omega
      have gc := @gro_cell wr
      have hC := fun (X : Gro wr) => dec01 H4.out (gro wr X)
      have zd : ByteArray.size ⟨[dgB s].toArray⟩ ≤ 1 := Nat.le_refl 1
      by_cases h0 : n = 0
      · have hM0 : M = [] := List.eq_nil_of_length_eq_zero (by omega)
        subst hM0
        have HZ := hid h0
        have d1 : (ByteArray.toList { data := #[] } == ByteArray.toList { data := #[] }) = true := str_nil
        clear hke h0 zM0
        generalize hd : dgB s = dd at hC zd
        have HD := hid hd; clear hd
        go_upto_region 8 with fail
        refine wp_region_grow_lit (by kernel_rfl) (by kernel_rfl) ?_
        repeat (go_big_quiet_step ((go_at_call 33; exact grow_call _ (hC _))))
        refine wpQuiet_nil ?_
        rintro _ ⟨X, rfl⟩
        go_wp2
        go_ret
        refine ⟨?_, btr q0 (btr hb X.h)⟩
        have e : symL nm n Z s = nm.data.toList ++ [32] ++ [45] ++ [32] ++ [dd] ++ [10] := by unfold symL; rw [if_pos HZ.out, HD.out]
        rw [e]
        show Ending.returned (Value.string (nm ++ ⟨[(32 : UInt8)].toArray⟩ ++ ⟨[(45 : UInt8)].toArray⟩ ++ ⟨[(32 : UInt8)].toArray⟩ ++ ⟨[dd].toArray⟩ ++ ⟨[(10 : UInt8)].toArray⟩)) = _
        rw [show nm ++ (⟨[(32 : UInt8)].toArray⟩ : ByteArray) = ⟨(nm.data.toList ++ [32]).toArray⟩ from (congrArg (· ++ _) (str_of nm)).trans (str_appW _ _), str_appW, str_appW, str_appW, str_appW]
      · have hM0 : M ≠ [] := fun h => by rw [h] at zM0; simp at zM0; omega
        have d1 : M.isEmpty = false := by simpa using hM0
        have d3 := str_ne hM0
        have HZ := hid h0
        clear hke h0 zM0 hM0
        generalize hd : dgB s = dd at hC zd
        have HD := hid hd; clear hd
        have d2 := d3
        generalize hsM : (⟨M.toArray⟩ : ByteArray) = sM at zM d3 d2 ⊢
        have HSM := hid hsM; clear hsM d1
        rw [ByteArray.toList_eq] at d2
        have d4 : sM.toList.isEmpty = false := by
          cases he : sM.toList with
          | nil => rw [he] at d3; simp at d3
          | cons x y => rfl
        clear d2
        go_upto_region 8 with fail
        refine wp_region_grow_lit (by kernel_rfl) (by kernel_rfl) ?_
        repeat (go_big_quiet_step ((go_at_call 33; exact grow_call _ (hC _))))
        refine wpQuiet_nil ?_
        rintro _ ⟨X, rfl⟩
        go_wp2
        go_ret
        refine ⟨?_, btr q0 (btr hb X.h)⟩
        have e : symL nm n Z s = nm.data.toList ++ [32] ++ M ++ [32] ++ [dd] ++ [10] := by unfold symL; rw [if_neg HZ.out, HD.out, HM.out, HK.out]
        rw [e]
        show Ending.returned (Value.string (nm ++ ⟨[(32 : UInt8)].toArray⟩ ++ sM ++ ⟨[(32 : UInt8)].toArray⟩ ++ ⟨[dd].toArray⟩ ++ ⟨[(10 : UInt8)].toArray⟩)) = _
        rw [← HSM.out, show nm ++ (⟨[(32 : UInt8)].toArray⟩ : ByteArray) = ⟨(nm.data.toList ++ [32]).toArray⟩ from (congrArg (· ++ _) (str_of nm)).trans (str_appW _ _), str_appW, str_appW, str_appW, str_appW]
set_option maxRecDepth 100000 in
set_option maxHeartbeats 4000000 in
theorem ssigtext_any (A : Option Addr) (n c : Nat) (L : Sy) (w : World) (hn : n ≤ 1048576) (hA : Syms w A n L) (hN : SmY n L) :
    Calls Tryd.prog 12 #[.agg #[.slice A n c]] w fun e w' => e = .returned (.string ⟨(sigT n L).toArray⟩) ∧ Below w.heap.size w w' := by
  have hO := hid (fun W (hb : Below w.heap.size w W) => ssigok_any A n c L W (by omega) (hA.below hb) hN)
  have q0 := bal (Below.refl w.heap.size w) (.cells #[.slice A n c] 24)
  have b0 : (w.alloc (.cells #[.slice A n c] 24)).cell? ⟨w.heap.size, 0, none⟩ = some (.slice A n c) := by simp [go_sem]
  generalize hr : sigT n L = res
  have HR := hid hr; clear hr
  go_enter Tryd.func12, Tryd.ntmps12
  go_wp2
  generalize w.alloc (.cells #[.slice A n c] 24) = W0 at *
  go_loopw [3, 4] (fun o i wr => ∃ (k : Nat) (M : List UInt8), k ≤ n ∧ i = .int .i64 k ∧ o = .string ⟨M.toArray⟩ ∧ M = sigL L k ∧ (k = 0 ∨ sigB n L = true) ∧ Below W0.heap.size W0 wr) (fun _ i _ => n - (intOf i).toNat)
  case atStart => exact ⟨0, [], Nat.zero_le _, rfl, rfl, rfl, .inl rfl, Below.refl _ _⟩
  case round =>
    obtain ⟨k, M, hk, rfl, rfl, hM, hB, hb⟩ := hrel
    have g0 := carry hb b0
    have gs : w.heap.size < wr.heap.size := cell_lt g0
    have HM := hid hM; clear hM b0
    have hwr := btr q0 hb
    have hC := hO.out wr hwr
    by_cases hlt : k < n
    · have d0 : decide ((k : Int) < (n : Int)) = true := by simp; omega
      cases hs : sigB n L
      · rw [hs] at hC
        have HE := hid (show M = res by
          rcases hB with h | h
          · rw [HM.out, h, ← HR.out]; unfold sigT; rw [hs]; rfl
          · rw [hs] at h; cases h)
        clear hB hs
        go_wp2_with (go_at_call 11; refine hC.mono ?_; rintro e w1 ⟨rfl, hq⟩)
        go_ret
        exact ⟨by rw [HE.out]; rfl, btr hwr (by assumption)⟩
      · rw [hs] at hC
        have HSB := hid hs
        have hsy := (sigB_iff.1 hs).2.1
        have h7 := (sigB_iff.1 hs).1
        have zM0 : M.length ≤ 56 := by have := sigL_len (L := L) (k := k) (fun j hj => hsy j (by omega)); rw [HM.out]; omega
        have zM : ByteArray.size ⟨M.toArray⟩ ≤ 56 := zM0
        have zt0 := symL_len (hsy k hlt)
        rcases hA with h0 | ⟨g, off, rfl, hg, hcA⟩
        · omega
        obtain ⟨a, ca, a0, a1, a2, _, hNk, hJ⟩ := hcA k hlt
        have gg : g < wr.heap.size := Nat.lt_of_lt_of_le hg hwr.size
        replace a0 := carry hwr a0
        replace a1 := carry hwr a1
        replace a2 := carry hwr a2
        have hLn := fun W (hq : Below wr.heap.size wr W) => line_any (L.Nm k) a (L.N k) ca (L.Z k) (L.S k) W (hsy k hlt) ((hJ.below hwr).below hq)
        have hst : sigL L (k + 1) = sigL L k ++ symL (L.Nm k) (L.N k) (L.Z k) (L.S k) := rfl
        have HST := hid hst
        clear hcA hJ hB hs hsy hst zM0
        generalize symL (L.Nm k) (L.N k) (L.Z k) (L.S k) = T at hLn zt0 HST
        have zT : ByteArray.size ⟨T.toArray⟩ ≤ 8 := zt0
        go_wp2_with fail
        refine hC.mono ?_
        rintro e w1 ⟨rfl, hq⟩
        replace g0 := carry hq g0
        replace a0 := carry hq a0
        replace a1 := carry hq a1
        replace a2 := carry hq a2
        have gg1 : g < w1.heap.size := Nat.lt_of_lt_of_le gg hq.size
        go_wp2_with fail
        refine (hLn _ hq).mono ?_
        rintro e w2 ⟨rfl, hq2⟩
        go_wp2
        go_roundw
        case rel =>
          refine ⟨k + 1, M ++ T, by omega, by go_num, ?_, by rw [HST.out, HM.out], .inr trivial, btr (btr hb hq) hq2⟩
          show Value.string ((⟨M.toArray⟩ : ByteArray) ++ ⟨T.toArray⟩) = _
          rw [str_appW]
        case measure => simp [intOf]; omega
    · have hke : k = n := by omega
      have HE := hid (show M = res by
        rw [HM.out, ← HR.out]
        unfold sigT
        by_cases hs : sigB n L = true
        · rw [if_pos hs, hke]
        · rw [if_neg hs]
          rcases hB with h | h
          · rw [h]; rfl
          · exact absurd h hs)
      have d0 : decide ((k : Int) < (n : Int)) = false := by simp; omega
      clear hB hke hC
      go_wp2
      go_ret
      exact ⟨by rw [HE.out]; rfl, hwr⟩
end Go.Proofs.YtcnlolocppbcjaaDoor
