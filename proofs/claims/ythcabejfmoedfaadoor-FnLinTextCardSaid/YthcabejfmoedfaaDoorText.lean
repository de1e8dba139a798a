/- Contract of the program's RatText: the text of a fraction. -/
import Derived.Test.YthcabejfmoedfaaDoorBuild
import Derived.Test.YthcabejfmoedfaaDoorBR
import Derived.Test.YthcabejfmoedfaaDoorLawK
import Derived.Lib.LaidTab
import Derived.Lib.SmallJoins
import Derived.Lib.AppendIntMem
namespace Go.Proofs.YthcabejfmoedfaaDoor
set_option linter.unusedVariables false
set_option linter.unusedSimpArgs false
open Go.Shelf Go.RowKit Go.Joins
def ratTxt (n d : Int) : List UInt8 := if okB n d = true then Lib.itoa n ++ (if d = 1 then [] else 47 :: Lib.itoa d) else []
theorem nDigits_le : ∀ u : Nat, Lib.nDigits u ≤ u + 1 := by
  intro u
  induction u using Nat.strongRecOn with
  | _ u ih =>
    rw [Lib.nDigits]
    split
    · omega
    · have := ih (u / 10) (by omega); omega
theorem itoa_len {n : Int} (h : -1000000000 ≤ n ∧ n ≤ 1000000000) : (Lib.itoa n).length ≤ 1000000002 := by
  unfold Lib.itoa
  split
  · rw [List.length_cons, Lib.decDigits_length]; have := nDigits_le n.natAbs; omega
  · rw [Lib.decDigits_length]; have := nDigits_le n.toNat; omega
theorem itoa_at (n : Int) (h : -1000000000 ≤ n ∧ n ≤ 1000000000) (w : World) (htab : Lib.TabIs Tryd.prog w "internal/strconv.uint64pow10" .u64 Lib.pow10Tab) :
    Calls Tryd.prog 52 #[.int .i64 n] w fun e w' => e = .returned (.string ⟨(Lib.itoa n).toArray⟩) ∧ Below w.heap.size w w' := by
  refine (Tryd.strconv_Itoa n (by omega) (by omega) w htab).mono ?_
  rintro e w' ⟨rfl, k, os, rfl⟩
  exact ⟨rfl, Lib.below_grow _ _ (Nat.le_refl _) _ _⟩
theorem gPow : Tryd.prog.globalNamed "internal/strconv.uint64pow10" = some 3 := by kernel_rfl
theorem tab_keep {w w' : World} (h : Lib.TabIs Tryd.prog w "internal/strconv.uint64pow10" .u64 Lib.pow10Tab) (hb : Below w.heap.size w w') : Lib.TabIs Tryd.prog w' "internal/strconv.uint64pow10" .u64 Lib.pow10Tab :=
  tab_stays gPow h hb (Nat.le_refl _)
theorem b_below {T e : TypeId} {B b : Nat} {p : Value} {bs : List Value} {W W' : World} (h : Lib.BuilderAt T e B b p bs W) (hb : Below W.heap.size W W') : Lib.BuilderAt T e B b p bs W' := by
  have hlt := h.lt
  obtain ⟨hB, v, hv, hown, hne⟩ := h
  exact ⟨hB, v, (hb.block b hlt).trans hv, hown.kept (row := none) ⟨hb.os, hb.tape, hb.output, hb.size, fun k hk _ => hb.block k hk⟩ (Classical.em _), hne⟩
theorem b_new (w : World) : Lib.BuilderAt 79 5 w.heap.size w.heap.size (.pointer none) [] (w.alloc (.cells #[.pointer none, .slice none 0 0] 79)) := by
  refine ⟨Nat.le_refl _, .slice none 0 0, ?_, ⟨by simp, .inl ⟨rfl, rfl⟩⟩, by simp [Value.ownBlock]⟩
  show (w.heap.push _)[w.heap.size]? = _
  simp
theorem carryB {w w1 : World} {B b o : Nat} {v : Value} (hq : Below B w w1) (hb : b < B) (h : w.cell? ⟨b, o, none⟩ = some v) : w1.cell? ⟨b, o, none⟩ = some v :=
  (hq.cell (p := ⟨b, o, none⟩) hb).trans h
set_option maxHeartbeats 4000000 in
theorem rattext_any (n d : Int) (w : World) (htab : Lib.TabIs Tryd.prog w "internal/strconv.uint64pow10" .u64 Lib.pow10Tab) :
    Calls Tryd.prog 14 #[.agg #[.int .i64 n, .int .i64 d]] w fun e w' => e = .returned (.string ⟨(ratTxt n d).toArray⟩) ∧ Below w.heap.size w w' := by
  cases hv : okB n d
  · have e : ratTxt n d = [] := by unfold ratTxt; rw [if_neg (by simp [hv])]
    rw [e]
    have HT := hid htab; clear htab
    go_enter Tryd.func14, Tryd.ntmps14
    go_wp2_with fail
    refine (valid_at n d _ hv).mono ?_
    rintro e w1 ⟨rfl, hb⟩
    go_wp2_with fail
    go_ret
    exact ⟨rfl, btr (bal (Below.refl _ _) _) hb⟩
  · obtain ⟨n1, n2, d1, d2⟩ := ok_b hv
    have ln := itoa_len ⟨n1, n2⟩
    have ld := itoa_len (n := d) (by omega)
    obtain ⟨c0, c1⟩ := pair_new w (.int .i64 n) (.int .i64 d) 23
    have HT := hid htab; clear htab
    go_enter Tryd.func14, Tryd.ntmps14
    go_wp2_with fail
    refine (valid_at n d _ hv).mono ?_
    rintro e w1 ⟨rfl, hb⟩
    have hW := btr (bal (Below.refl w.heap.size w) _) hb
    replace c0 := carryA (.cells #[.pointer none, .slice none 0 0] 79) (carry hb c0)
    replace c1 := carryA (.cells #[.pointer none, .slice none 0 0] 79) (carry hb c1)
    have hs1 := hb.size
    have hs : w.heap.size < w1.heap.size := by simp at hs1; omega
    clear hb hs1
    have hN := b_new w1
    replace hW := bal hW (.cells #[.pointer none, .slice none 0 0] 79)
    have HB := hid hN; clear hN
    have HW := hid hW; clear hW
    go_wp2_with fail
    refine (itoa_at n ⟨n1, n2⟩ _ (tab_keep HT.out HW.out)).mono ?_
    rintro e w2 ⟨rfl, hb⟩
    replace c0 := carry hb c0
    replace c1 := carry hb c1
    have hB2 := b_below HB.out hb
    have hW2 := btr HW.out hb
    have hs2 : w1.heap.size < w2.heap.size := by have := hb.size; simp at this; omega
    clear HB HW hb
    have HB := hid hB2; clear hB2
    have HW := hid hW2; clear hW2
    go_wp2_with fail
    refine (wstr_any w1.heap.size w1.heap.size [] ⟨(Lib.itoa n).toArray⟩ w2 (.inl HB.out) (by show 0 + (Lib.itoa n).length ≤ _; omega) (by omega)).mono ?_
    rintro e w3 ⟨rfl, hB3, hb, _⟩
    replace c0 := carryB hb hs c0
    replace c1 := carryB hb hs c1
    have hW3 := HW.out.trans (hb.mono (show w.heap.size ≤ w1.heap.size by omega))
    have hs3 : w1.heap.size < w3.heap.size := by have := hb.size; omega
    rw [List.nil_append, Lib.strCells_toArray] at hB3
    clear HB HW hb
    have HB := hid hB3; clear hB3
    have HW := hid hW3; clear hW3
    by_cases hd : d = 1
    · have e : ratTxt n d = Lib.itoa n := by unfold ratTxt; rw [if_pos hv, if_pos hd, List.append_nil]
      have E := hid e; clear e
      subst hd
      go_wp2_with fail
      refine (Tryd.Builder_String_any w1.heap.size w1.heap.size (Lib.itoa n) w3 (.inr HB.out) (by omega)).mono ?_
      rintro e w4 ⟨rfl, hb⟩
      go_wp2_with fail
      go_ret
      exact ⟨by rw [E.out]; rfl, HW.out.trans (hb.mono (show w.heap.size ≤ w1.heap.size by omega))⟩
    · have e : ratTxt n d = Lib.itoa n ++ 47 :: Lib.itoa d := by unfold ratTxt; rw [if_pos hv, if_neg hd]
      have E := hid e; clear e
      have hd' : (d == 1) = false := by simpa using hd
      have hd2 : (d != 1) = true := by simpa using hd
      go_wp2_with fail
      refine (wbyte_any w1.heap.size w1.heap.size (Lib.byteCells (Lib.itoa n)) 47 w3 (.inr HB.out) (by rw [Lib.byteCells_length]; omega) (by omega)).mono ?_
      rintro e w4 ⟨rfl, hB4, hb, _⟩
      replace c0 := carryB hb hs c0
      replace c1 := carryB hb hs c1
      have hW4 := HW.out.trans (hb.mono (show w.heap.size ≤ w1.heap.size by omega))
      have hs4 : w1.heap.size < w4.heap.size := by have := hb.size; omega
      clear HB HW hb
      have HB := hid hB4; clear hB4
      have HW := hid hW4; clear hW4
      go_wp2_with fail
      refine (itoa_at d (by omega) w4 (tab_keep HT.out HW.out)).mono ?_
      rintro e w5 ⟨rfl, hb⟩
      have hB5 := b_below HB.out hb
      have hW5 := btr HW.out hb
      have hs5 : w1.heap.size < w5.heap.size := by have := hb.size; omega
      clear HB HW hb
      have HB := hid hB5; clear hB5
      have HW := hid hW5; clear hW5
      go_wp2_with fail
      refine (wstr_any w1.heap.size w1.heap.size (Lib.byteCells (Lib.itoa n) ++ [.int .u8 47]) ⟨(Lib.itoa d).toArray⟩ w5 (.inr HB.out) (by rw [List.length_append, Lib.byteCells_length]; show (Lib.itoa n).length + 1 + (Lib.itoa d).length ≤ _; omega) (by omega)).mono ?_
      rintro e w6 ⟨rfl, hB6, hb, _⟩
      have hW6 := HW.out.trans (hb.mono (show w.heap.size ≤ w1.heap.size by omega))
      have hs6 : w1.heap.size < w6.heap.size := by have := hb.size; omega
      have hl : Lib.byteCells (Lib.itoa n) ++ [Value.int .u8 47] ++ Lib.strCells ⟨(Lib.itoa d).toArray⟩ = Lib.byteCells (Lib.itoa n ++ 47 :: Lib.itoa d) := by
        rw [Lib.strCells_toArray, Lib.byteCells_append, List.append_assoc]; rfl
      rw [hl] at hB6
      clear HB HW hb hl
      have HB := hid hB6; clear hB6
      have HW := hid hW6; clear hW6
      go_wp2_with fail
      refine (Tryd.Builder_String_any w1.heap.size w1.heap.size (Lib.itoa n ++ 47 :: Lib.itoa d) w6 (.inr HB.out) (by omega)).mono ?_
      rintro e w7 ⟨rfl, hb⟩
      go_wp2_with fail
      go_ret
      exact ⟨by rw [E.out]; rfl, HW.out.trans (hb.mono (show w.heap.size ≤ w1.heap.size by omega))⟩
end Go.Proofs.YthcabejfmoedfaaDoor
