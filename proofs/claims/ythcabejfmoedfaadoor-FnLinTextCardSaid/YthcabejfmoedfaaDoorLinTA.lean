/- The text of a constraint: contract of the program's LinText. -/
import Derived.Test.YthcabejfmoedfaaDoorLinTZ
import Derived.Test.YthcabejfmoedfaaDoorDec
import Derived.Test.YthcabejfmoedfaaDoorBldK
namespace Go.Proofs.YthcabejfmoedfaaDoor
set_option linter.unusedVariables false
set_option linter.unusedSimpArgs false
open Go.Shelf Go.RowKit Go.Joins
/-- the text of the first k coefficients -/
def coefT (Z : Nat → Int) : Nat → List UInt8
  | 0 => []
  | k + 1 => coefT Z k ++ Lib.itoa (Z k) ++ [32]
def sgnT (s : Bool) : List UInt8 := if s = true then [60] else [60, 61]
def linT (Z : Nat → Int) (b : Int) (s : Bool) : List UInt8 := coefT Z 4 ++ sgnT s ++ [32] ++ Lib.itoa b
def linTxt (n : Nat) (Z : Nat → Int) (b : Int) (s : Bool) : List UInt8 := if okL n Z b = true then linT Z b s else []
theorem itoa_len20 {n : Int} (h : -1000000000 ≤ n ∧ n ≤ 1000000000) : (Lib.itoa n).length ≤ 20 := by
  by_cases h0 : n < 0
  · rw [itoa_neg h0, List.length_cons]; have := dec_len (u := n.natAbs) (by omega); omega
  · obtain ⟨m, rfl⟩ : ∃ m : Nat, n = (m : Int) := ⟨n.toNat, by omega⟩
    rw [itoa_nat]; have := dec_len (u := m) (by omega); omega
theorem coefT_len {Z : Nat → Int} : ∀ {k}, (∀ j, j < k → -1000000 ≤ Z j ∧ Z j ≤ 1000000) → (coefT Z k).length ≤ 21 * k
  | 0, _ => by simp [coefT]
  | k + 1, h => by
    have ih := coefT_len (k := k) (fun j hj => h j (by omega))
    have h1 := itoa_len20 (n := Z k) (by have := h k (by omega); omega)
    rw [coefT, List.length_append, List.length_append]
    simp only [List.length_cons, List.length_nil]
    omega
theorem okL_z {n : Nat} {Z : Nat → Int} {b : Int} (h : okL n Z b = true) : ∀ j, j < 4 → -1000000 ≤ Z j ∧ Z j ≤ 1000000 := fun j hj => by
  obtain ⟨b0, b1, b2, b3, _⟩ := okL_bd4 h
  rcases lt4 hj with rfl | rfl | rfl | rfl <;> assumption
theorem linT_len {n : Nat} {Z : Nat → Int} {b : Int} {s : Bool} (h : okL n Z b = true) : (linT Z b s).length ≤ 120 := by
  have h1 := coefT_len (k := 4) (okL_z h)
  have h2 := itoa_len20 (n := b) (by have := (okL_bd4 h).2.2.2.2; omega)
  have h3 : (sgnT s).length ≤ 2 := by cases s <;> decide
  unfold linT
  rw [List.length_append, List.length_append, List.length_append]
  simp only [List.length_cons, List.length_nil]
  omega
theorem fmt_at (n : Int) (h : -1000000000 ≤ n ∧ n ≤ 1000000000) (w : World) (htab : Lib.TabIs Tryd.prog w "internal/strconv.uint64pow10" .u64 Lib.pow10Tab) :
    Calls Tryd.prog 63 #[.int .i64 n, .int .i64 10] w fun e w' => e = .returned (.string ⟨(Lib.itoa n).toArray⟩) ∧ Below w.heap.size w w' := by
  refine (Tryd.strconv_FormatInt_10 n (by omega) (by omega) w htab).mono ?_
  rintro e w' ⟨rfl, k, os, rfl⟩
  exact ⟨rfl, Lib.below_grow _ _ (Nat.le_refl _) _ _⟩
set_option maxRecDepth 100000 in
theorem sign_any (z0 z1 z2 z3 b : Int) (s : Bool) (w : World) :
    Calls Tryd.prog 64 #[.agg #[.int .i64 z0, .int .i64 z1, .int .i64 z2, .int .i64 z3, .int .i64 b, .bool s]] w fun e w' => e = .returned (.string ⟨(sgnT s).toArray⟩) ∧ Below w.heap.size w w' := by
  cases s <;>
  · go_enter Tryd.func64, Tryd.ntmps64
    go_wp2
    go_ret
    exact ⟨rfl, bal (Below.refl _ _) _⟩
set_option maxRecDepth 100000 in
set_option maxHeartbeats 4000000 in
theorem lintext_any (A : Option Addr) (n c : Nat) (Z : Nat → Int) (b : Int) (s : Bool) (w : World) (hn : n ≤ 9223372036854775807) (hA : Ints w A n Z) (htab : Lib.TabIs Tryd.prog w "internal/strconv.uint64pow10" .u64 Lib.pow10Tab) :
    Calls Tryd.prog 22 #[.agg #[.slice A n c, .int .i64 b, .bool s]] w fun e w' => e = .returned (.string ⟨(linTxt n Z b s).toArray⟩) ∧ Below w.heap.size w w' := by
  cases hv : okL n Z b
  · unfold linTxt; rw [if_neg (by simp [hv])]
    exact lintext_bad hn hA hv
  unfold linTxt; rw [if_pos hv]
  have hW := wide_far (c := c) hn hA hv (wide_v4 (s := s) hv)
  have hz := okL_z hv
  have hlen := linT_len (s := s) hv
  have hb4 := (okL_bd4 hv).2.2.2.2
  have hT := hid (fun W (hb : Below w.heap.size w W) => tab_keep htab hb)
  have hcl := fun k (hk : k ≤ 4) => coefT_len (Z := Z) (k := k) (fun j hj => hz j (by omega))
  clear hA hn htab hv
  have al := bal (Below.refl w.heap.size w) (.cells #[.slice A n c, .int .i64 b, .bool s] 39)
  go_enter Tryd.func22, Tryd.ntmps22
  go_wp2_with fail
  refine (hW _ al).mono ?_
  rintro e w1 ⟨rfl, hq⟩
  clear hW
  have q0 := btr al hq
  clear hq al
  obtain ⟨c0, c1, c2, c3, c4, c5⟩ : (w1.alloc (.cells #[.int .i64 (Z 0), .int .i64 (Z 1), .int .i64 (Z 2), .int .i64 (Z 3), .int .i64 b, .bool s] 91)).cell? ⟨w1.heap.size, 0, none⟩ = some (.int .i64 (Z 0)) ∧ _ ∧ _ ∧ _ ∧ _ ∧ _ := ⟨by simp [go_sem], (by simp [go_sem] : (w1.alloc (.cells #[.int .i64 (Z 0), .int .i64 (Z 1), .int .i64 (Z 2), .int .i64 (Z 3), .int .i64 b, .bool s] 91)).cell? ⟨w1.heap.size, 1, none⟩ = some (.int .i64 (Z 1))), (by simp [go_sem] : (w1.alloc (.cells #[.int .i64 (Z 0), .int .i64 (Z 1), .int .i64 (Z 2), .int .i64 (Z 3), .int .i64 b, .bool s] 91)).cell? ⟨w1.heap.size, 2, none⟩ = some (.int .i64 (Z 2))), (by simp [go_sem] : (w1.alloc (.cells #[.int .i64 (Z 0), .int .i64 (Z 1), .int .i64 (Z 2), .int .i64 (Z 3), .int .i64 b, .bool s] 91)).cell? ⟨w1.heap.size, 3, none⟩ = some (.int .i64 (Z 3))), (by simp [go_sem] : (w1.alloc (.cells #[.int .i64 (Z 0), .int .i64 (Z 1), .int .i64 (Z 2), .int .i64 (Z 3), .int .i64 b, .bool s] 91)).cell? ⟨w1.heap.size, 4, none⟩ = some (.int .i64 b)), (by simp [go_sem] : (w1.alloc (.cells #[.int .i64 (Z 0), .int .i64 (Z 1), .int .i64 (Z 2), .int .i64 (Z 3), .int .i64 b, .bool s] 91)).cell? ⟨w1.heap.size, 5, none⟩ = some (.bool s))⟩
  replace q0 := bal q0 (.cells #[.int .i64 (Z 0), .int .i64 (Z 1), .int .i64 (Z 2), .int .i64 (Z 3), .int .i64 b, .bool s] 91)
  go_upto_region 4 with fail
  have hx1 := cell_lt c0
  generalize w1.alloc (.cells #[.int .i64 (Z 0), .int .i64 (Z 1), .int .i64 (Z 2), .int .i64 (Z 3), .int .i64 b, .bool s] 91) = w2 at *
  generalize w1.heap.size = wb at *
  have hB := bld_new w2
  have hW2 := bal (Below.refl w2.heap.size w2) (.cells #[.pointer none, .slice none 0 0] 79)
  have HB := hid hB; clear hB
  have a0 := carryA (.cells #[.pointer none, .slice none 0 0] 79) c0
  have a1 := carryA (.cells #[.pointer none, .slice none 0 0] 79) c1
  have a2 := carryA (.cells #[.pointer none, .slice none 0 0] 79) c2
  have a3 := carryA (.cells #[.pointer none, .slice none 0 0] 79) c3
  go_wp2_with fail
  clear a0 a1 a2 a3
  go_loopw [17] (fun i wr => ∃ k : Nat, k ≤ 4 ∧ i = .int .i64 k ∧ ISB w2.heap.size w2.heap.size (coefT Z k) wr ∧ Below w2.heap.size w2 wr) (fun i _ => 4 - (intOf i).toNat)
  case atStart => exact ⟨0, Nat.zero_le _, rfl, .inl HB.out, hW2⟩
  case round =>
    clear HB hW2
    obtain ⟨k, hk, rfl, hI, hW⟩ := hrel
    have HI := hid hI
    have hbk := isb_lt hI
    have hlk := hcl k hk
    clear hI
    by_cases hlt : k < 4
    · have ik : ∀ W, (Instr.index 89 (.agg #[.int .i64 (Z 0), .int .i64 (Z 1), .int .i64 (Z 2), .int .i64 (Z 3)]) (.int .i64 (k : Int))).run Tryd.prog W = .ok (.int .i64 (Z k)) W := by
        intro W
        rcases lt4 hlt with rfl | rfl | rfl | rfl
        · exact idx0 _ _ _ _ W
        · exact idx1 _ _ _ _ W
        · exact idx2 _ _ _ _ W
        · exact idx3 _ _ _ _ W
      have hzk := hz k hlt
      have hi20 := itoa_len20 (n := Z k) (by omega)
      have hwr := q0.trans (hW.mono q0.size)
      have hF := fmt_at (Z k) (by omega) wr (hT.out wr hwr)
      have hst : coefT Z (k + 1) = coefT Z k ++ Lib.itoa (Z k) ++ [32] := rfl
      have HST := hid hst
      clear hst hwr hcl hlen
      go_wp2_with fail
      refine hF.mono ?_
      rintro e w3 ⟨rfl, hq⟩
      clear hF
      replace hW : Below w2.heap.size w2 w3 := hW.trans (hq.mono hW.size)
      have HI3 := hid (isb_below HI.out hq)
      clear HI hq
      go_wp2_with fail
      refine (wstr_any w2.heap.size w2.heap.size (Lib.byteCells (coefT Z k)) ⟨(Lib.itoa (Z k)).toArray⟩ w3 (HI3.out) (by rw [Lib.byteCells_length]; show _ + (Lib.itoa (Z k)).length ≤ _; omega) hW.size).mono ?_
      rintro e w4 ⟨rfl, hB_, hb_, _⟩
      replace hB_ := bld_to (l := coefT Z k ++ Lib.itoa (Z k)) hB_ (by rw [Lib.strCells_toArray, Lib.byteCells_append])
      replace hW := hW.trans hb_
      clear hb_
      obtain ⟨l1, E_l1⟩ : ∃ x, x = coefT Z k ++ Lib.itoa (Z k) := ⟨_, rfl⟩
      rw [← E_l1] at hB_
      have z_l1 : l1.length = (coefT Z k ++ Lib.itoa (Z k)).length := by rw [E_l1]
      simp only [List.length_append, List.length_cons, List.length_nil] at z_l1
      have EE_l1 := hid E_l1; clear E_l1
      have HB := hid hB_; clear hB_
      go_wp2_with fail
      refine (wbyte_any w2.heap.size w2.heap.size (Lib.byteCells l1) 32 w4 (.inr HB.out) (by rw [Lib.byteCells_length]; omega) hW.size).mono ?_
      rintro e w5 ⟨rfl, hB_, hb_, _⟩
      replace hB_ := bld_to (l := l1 ++ [32]) hB_ (byteCells_snoc _ 32)
      replace hW := hW.trans hb_
      clear hb_ HB
      have HB := hid hB_; clear hB_
      go_wp2
      go_roundw
      case rel => exact ⟨k + 1, by omega, by go_num, by rw [HST.out, ← EE_l1.out]; exact .inr HB.out, hW⟩
      case measure => simp [intOf]; omega
    · have hke : k = 4 := by omega
      subst hke
      have hwr := q0.trans (hW.mono q0.size)
      have d0 := (hW.cell (p := ⟨wb, 0, none⟩) hx1).trans c0
      have d1 := (hW.cell (p := ⟨wb, 1, none⟩) hx1).trans c1
      have d2 := (hW.cell (p := ⟨wb, 2, none⟩) hx1).trans c2
      have d3 := (hW.cell (p := ⟨wb, 3, none⟩) hx1).trans c3
      have d4 := (hW.cell (p := ⟨wb, 4, none⟩) hx1).trans c4
      have d5 := (hW.cell (p := ⟨wb, 5, none⟩) hx1).trans c5
      have hS := sign_any (Z 0) (Z 1) (Z 2) (Z 3) b s wr
      have hi20 := itoa_len20 (n := b) (by omega)
      have h3 : (sgnT s).length ≤ 2 := by cases s <;> decide
      have hlin : linT Z b s = coefT Z 4 ++ sgnT s ++ [32] ++ Lib.itoa b := rfl
      have HL := hid hlin
      clear hlin hwr hcl c0 c1 c2 c3
      generalize sgnT s = sg at hS h3 HL
      generalize coefT Z 4 = cf at hlk HL HI
      have hwb : wb < wr.heap.size := cell_lt d0
      go_wp2_with fail
      refine hS.mono ?_
      rintro e w3 ⟨rfl, hq⟩
      clear hS d0 d1 d2 d3 d4 d5
      replace hW : Below w2.heap.size w2 w3 := hW.trans (hq.mono hW.size)
      have HI3 := hid (isb_below HI.out hq)
      clear HI hq
      go_wp2_with fail
      refine (wstr_any w2.heap.size w2.heap.size (Lib.byteCells (cf)) ⟨(sg).toArray⟩ w3 (HI3.out) (by rw [Lib.byteCells_length]; show _ + (sg).length ≤ _; omega) hW.size).mono ?_
      rintro e w4 ⟨rfl, hB_, hb_, _⟩
      replace hB_ := bld_to (l := cf ++ sg) hB_ (by rw [Lib.strCells_toArray, Lib.byteCells_append])
      replace hW := hW.trans hb_
      clear hb_
      obtain ⟨l1, E_l1⟩ : ∃ x, x = cf ++ sg := ⟨_, rfl⟩
      rw [← E_l1] at hB_
      have z_l1 : l1.length = (cf ++ sg).length := by rw [E_l1]
      simp only [List.length_append, List.length_cons, List.length_nil] at z_l1
      have EE_l1 := hid E_l1; clear E_l1
      have HB := hid hB_; clear hB_
      go_wp2_with fail
      refine (wbyte_any w2.heap.size w2.heap.size (Lib.byteCells l1) 32 w4 (.inr HB.out) (by rw [Lib.byteCells_length]; omega) hW.size).mono ?_
      rintro e w5 ⟨rfl, hB_, hb_, _⟩
      replace hB_ := bld_to (l := l1 ++ [32]) hB_ (byteCells_snoc _ 32)
      replace hW := hW.trans hb_
      clear hb_ HB
      obtain ⟨l2, E_l2⟩ : ∃ x, x = l1 ++ [32] := ⟨_, rfl⟩
      rw [← E_l2] at hB_
      have z_l2 : l2.length = (l1 ++ [32]).length := by rw [E_l2]
      simp only [List.length_append, List.length_cons, List.length_nil] at z_l2
      have EE_l2 := hid E_l2; clear E_l2
      have HB := hid hB_; clear hB_
      have d4 := (hW.cell (p := ⟨wb, 4, none⟩) hx1).trans c4
      have hwb5 : wb < w5.heap.size := cell_lt d4
      have hwr := q0.trans (hW.mono q0.size)
      have hF := fmt_at b (by omega) w5 (hT.out w5 hwr)
      clear hwr
      go_wp2_with fail
      refine hF.mono ?_
      rintro e w6 ⟨rfl, hq⟩
      clear hF d4
      replace hW : Below w2.heap.size w2 w6 := hW.trans (hq.mono hW.size)
      have HI6 := hid (isb_below (.inr HB.out) hq)
      clear HB hq
      go_wp2_with fail
      refine (wstr_any w2.heap.size w2.heap.size (Lib.byteCells (l2)) ⟨(Lib.itoa b).toArray⟩ w6 (HI6.out) (by rw [Lib.byteCells_length]; show _ + (Lib.itoa b).length ≤ _; omega) hW.size).mono ?_
      rintro e w7 ⟨rfl, hB_, hb_, _⟩
      replace hB_ := bld_to (l := l2 ++ Lib.itoa b) hB_ (by rw [Lib.strCells_toArray, Lib.byteCells_append])
      replace hW := hW.trans hb_
      clear hb_
      have HB := hid hB_; clear hB_
      go_wp2_with fail
      refine (Tryd.Builder_String_any w2.heap.size w2.heap.size (l2 ++ Lib.itoa b) w7 (.inr HB.out) hW.size).mono ?_
      rintro e w8 ⟨rfl, hb8⟩
      go_wp2
      go_ret
      exact ⟨by (show Ending.returned (Value.string ⟨(l2 ++ Lib.itoa b).toArray⟩) = Ending.returned (Value.string ⟨(linT Z b s).toArray⟩)); rw [HL.out, EE_l2.out, EE_l1.out], q0.trans ((hW.trans hb8).mono q0.size)⟩
end Go.Proofs.YthcabejfmoedfaaDoor
