/- Contract of the kit's l16Num: it reads a number of at most 17 digits, as it is written. -/
import Derived.Test.YthcabejfmoedfaaDoorDec
namespace Go.Proofs.YthcabejfmoedfaaDoor
set_option linter.unusedVariables false
set_option linter.unusedSimpArgs false
open Go.Shelf Go.RowKit Go.Joins
/-- the digits of a text, read on from a number -/
def digs (a : Nat) : List UInt8 → Option Nat
  | [] => some a
  | c :: r => if 48 ≤ c.toNat ∧ c.toNat ≤ 57 then digs (a * 10 + (c.toNat - 48)) r else none
/-- what l16Num answers after the digits -/
def numV (neg : Bool) : Option Nat → Value
  | some n => .tuple #[.int .i64 (if neg then -(n : Int) else n), .bool true]
  | none => .tuple #[.int .i64 0, .bool false]
theorem seq0 {s : ByteArray} (hne : 0 < s.size) : ((s.size : Int) == 0) = false := by
  cases h : ((s.size : Int) == 0)
  · rfl
  · exact absurd (beq_iff_eq.1 h) (by omega)
theorem drop_at {s : ByteArray} {k : Nat} (h : k < s.size) : s.data.toList.drop k = s[k] :: s.data.toList.drop (k + 1) := by
  have h' : k < s.data.toList.length := by simpa using h
  rw [List.drop_eq_getElem_cons h']
  rfl
theorem digs_ok {a : Nat} {c : UInt8} {r : List UInt8} (h : 48 ≤ c.toNat ∧ c.toNat ≤ 57) : digs a (c :: r) = digs (a * 10 + (c.toNat - 48)) r := by
  rw [digs, if_pos h]
theorem digs_bad {a : Nat} {c : UInt8} {r : List UInt8} (h : ¬ (48 ≤ c.toNat ∧ c.toNat ≤ 57)) : digs a (c :: r) = none := by
  rw [digs, if_neg h]
theorem sne {s : ByteArray} (hne : 0 < s.size) : ¬ s = ByteArray.empty := by rintro rfl; simp at hne
theorem s17 {s : ByteArray} (h : s.size ≤ 17) : decide (17 < (s.size : Int)) = false := decide_eq_false (by omega)
theorem c45 {c : UInt8} (h : c.toNat ≠ 45) : ((c.toNat : Int) == 45) = false := by simp; omega
set_option maxRecDepth 100000 in
set_option maxHeartbeats 4000000 in
theorem num_pos (s : ByteArray) (hne : 0 < s.size) (h17 : s.size ≤ 17) (hm : (s[0]'hne).toNat ≠ 45) (hz : (s[0]'hne).toNat = 48 → s.size = 1) (w : World) :
    Calls Tryd.prog 45 #[.string s] w fun e w' => e = .returned (numV false (digs 0 s.data.toList)) ∧ Below w.heap.size w w' := by
  generalize hr : numV false (digs 0 s.data.toList) = res
  have HR := hid hr; clear hr
  generalize hc : s[0]'hne = c at hm hz
  have e0 := seq0 hne
  have e1 := sne hne
  have e2 := s17 h17
  have e3 := c45 hm
  go_enter Tryd.func45, Tryd.ntmps45
  by_cases h48 : c.toNat = 48
  · have hz1 := hz h48
    have e4 : decide (1 < (s.size : Int)) = false := decide_eq_false (by omega)
    have e5 : ((c.toNat : Int) == 48) = true := by simp; omega
    go_wp2
    go_loopw [5, 6] (fun n i wr => ∃ (k m : Nat), k ≤ s.size ∧ n = .int .i64 m ∧ i = .int .i64 k ∧ m < 10 ^ k ∧ numV false (digs m (s.data.toList.drop k)) = res ∧ Below w.heap.size w wr) (fun _ i _ => s.size - (intOf i).toNat)
    case atStart => exact ⟨0, 0, Nat.zero_le _, rfl, rfl, by decide, HR.out, Below.refl _ _⟩
    case round =>
      obtain ⟨k, m, hk, rfl, rfl, hmk, hd, hb⟩ := hrel
      have HD := hid hd; clear hd
      have HB := hid hb; clear hb
      have hm16 : k < s.size → m < 10000000000000000 := fun h => Nat.lt_of_lt_of_le hmk (Nat.pow_le_pow_right (n := 10) (i := k) (j := 16) (by omega) (by omega))
      have HM := hid hmk; clear hmk
      by_cases hks : k < s.size
      · have hm2 := hm16 hks
        clear hm16
        have hdr := drop_at hks
        generalize hcc : s[k]'hks = c2 at hdr
        by_cases hdig : 48 ≤ c2.toNat ∧ c2.toNat ≤ 57
        · obtain ⟨g1, g2⟩ := hdig
          go_wp2
          refine ⟨⟨k + 1, m * 10 + (c2.toNat - 48), by omega, ?_, rfl, ?_, ?_, HB.out⟩, ?_⟩
          · rw [show ((m : Int) * 10 + ((c2.toNat : Int) - 48)) = ((m * 10 + (c2.toNat - 48) : Nat) : Int) by omega]
          · have := HM.out; rw [Nat.pow_succ]; omega
          · rw [← HD.out, hdr, digs_ok ⟨g1, g2⟩]
          · show s.size - ((k : Int) + 1).toNat < s.size - (k : Int).toNat
            omega
        · have hfin : numV false (digs m (s.data.toList.drop k)) = .tuple #[.int .i64 0, .bool false] := by rw [hdr, digs_bad hdig]; rfl
          have hres := HD.out.symm.trans hfin
          go_wp2
          all_goals
            refine bodyPost_ret (v := .tuple #[.int .i64 0, .bool false]) (by simp [results, Tryd.results45, go_sem]) rfl ⟨?_, HB.out⟩
            first | rfl | rw [hres]
      · clear hm16
        have hke : k = s.size := by omega
        have hfin : numV false (digs m (s.data.toList.drop k)) = .tuple #[.int .i64 m, .bool true] := by
          rw [hke, List.drop_eq_nil_of_le (by simp)]
          rfl
        have hres := HD.out.symm.trans hfin
        clear hfin
        go_wp2
        refine bodyPost_ret (v := .tuple #[.int .i64 m, .bool true]) (by simp [results, Tryd.results45, go_sem]) rfl ⟨?_, HB.out⟩
        first | rfl | rw [hres]
  · have e5 : ((c.toNat : Int) == 48) = false := by simp; omega
    go_wp2
    go_loopw [5, 6] (fun n i wr => ∃ (k m : Nat), k ≤ s.size ∧ n = .int .i64 m ∧ i = .int .i64 k ∧ m < 10 ^ k ∧ numV false (digs m (s.data.toList.drop k)) = res ∧ Below w.heap.size w wr) (fun _ i _ => s.size - (intOf i).toNat)
    case atStart => exact ⟨0, 0, Nat.zero_le _, rfl, rfl, by decide, HR.out, Below.refl _ _⟩
    case round =>
      obtain ⟨k, m, hk, rfl, rfl, hmk, hd, hb⟩ := hrel
      have HD := hid hd; clear hd
      have HB := hid hb; clear hb
      have hm16 : k < s.size → m < 10000000000000000 := fun h => Nat.lt_of_lt_of_le hmk (Nat.pow_le_pow_right (n := 10) (i := k) (j := 16) (by omega) (by omega))
      have HM := hid hmk; clear hmk
      by_cases hks : k < s.size
      · have hm2 := hm16 hks
        clear hm16
        have hdr := drop_at hks
        generalize hcc : s[k]'hks = c2 at hdr
        by_cases hdig : 48 ≤ c2.toNat ∧ c2.toNat ≤ 57
        · obtain ⟨g1, g2⟩ := hdig
          go_wp2
          refine ⟨⟨k + 1, m * 10 + (c2.toNat - 48), by omega, ?_, rfl, ?_, ?_, HB.out⟩, ?_⟩
          · rw [show ((m : Int) * 10 + ((c2.toNat : Int) - 48)) = ((m * 10 + (c2.toNat - 48) : Nat) : Int) by omega]
          · have := HM.out; rw [Nat.pow_succ]; omega
          · rw [← HD.out, hdr, digs_ok ⟨g1, g2⟩]
          · show s.size - ((k : Int) + 1).toNat < s.size - (k : Int).toNat
            omega
        · have hfin : numV false (digs m (s.data.toList.drop k)) = .tuple #[.int .i64 0, .bool false] := by rw [hdr, digs_bad hdig]; rfl
          have hres := HD.out.symm.trans hfin
          go_wp2
          all_goals
            refine bodyPost_ret (v := .tuple #[.int .i64 0, .bool false]) (by simp [results, Tryd.results45, go_sem]) rfl ⟨?_, HB.out⟩
            first | rfl | rw [hres]
      · clear hm16
        have hke : k = s.size := by omega
        have hfin : numV false (digs m (s.data.toList.drop k)) = .tuple #[.int .i64 m, .bool true] := by
          rw [hke, List.drop_eq_nil_of_le (by simp)]
          rfl
        have hres := HD.out.symm.trans hfin
        clear hfin
        go_wp2
        refine bodyPost_ret (v := .tuple #[.int .i64 m, .bool true]) (by simp [results, Tryd.results45, go_sem]) rfl ⟨?_, HB.out⟩
        first | rfl | rw [hres]
end Go.Proofs.YthcabejfmoedfaaDoor
