/- Contract of the kit's l16Num: with a sign. -/
import Derived.Test.YthcabejfmoedfaaDoorNum
namespace Go.Proofs.YthcabejfmoedfaaDoor
set_option linter.unusedVariables false
set_option linter.unusedSimpArgs false
open Go.Shelf Go.RowKit Go.Joins
set_option maxRecDepth 100000 in
set_option maxHeartbeats 4000000 in
theorem num_neg (t s : ByteArray) (ht : t.size = s.size + 1) (h0 : (t[0]'(by omega)) = 45) (hx : t.extract 1 (s.size + 1) = s) (hne : 0 < s.size) (h17 : s.size ≤ 17) (hz : (s[0]'hne).toNat ≠ 48) (w : World) :
    Calls Tryd.prog 45 #[.string t] w fun e w' => e = .returned (numV true (digs 0 s.data.toList)) ∧ Below w.heap.size w w' := by
  generalize hr : numV true (digs 0 s.data.toList) = res
  have HR := hid hr; clear hr
  generalize hc : s[0]'hne = c at hz
  have e0 := seq0 hne
  have e1 := sne hne
  have e2 := s17 h17
  have f0 : 0 < t.size := by omega
  have f1 := seq0 f0
  have f2 := sne f0
  have e5 : ((c.toNat : Int) == 48) = false := by simp; omega
  go_enter Tryd.func45, Tryd.ntmps45
  go_wp2
  go_loopw [5, 6] (fun n i wr => ∃ (k m : Nat), k ≤ s.size ∧ n = .int .i64 m ∧ i = .int .i64 k ∧ m < 10 ^ k ∧ numV true (digs m (s.data.toList.drop k)) = res ∧ Below w.heap.size w wr) (fun _ i _ => s.size - (intOf i).toNat)
  case atStart => exact ⟨0, 0, Nat.zero_le _, rfl, rfl, by decide, HR.out, Below.refl _ _⟩
  case round =>
    obtain ⟨k, m, hk, rfl, rfl, hmk, hd, hb⟩ := hrel
    have HD := hid hd; clear hd
    have HB := hid hb; clear hb
    have hm16 : k < s.size → m < 10000000000000000 := fun h => Nat.lt_of_lt_of_le hmk (Nat.pow_le_pow_right (n := 10) (i := k) (j := 16) (by omega) (by omega))
    have HM := hid hmk; clear hmk
    by_cases hks : k < s.size
    · have hm2 := hm16 hks
      clear hm16
      have hdr := drop_at hks
      generalize hcc : s[k]'hks = c2 at hdr
      by_cases hdig : 48 ≤ c2.toNat ∧ c2.toNat ≤ 57
      · obtain ⟨g1, g2⟩ := hdig
        go_wp2
        refine ⟨⟨k + 1, m * 10 + (c2.toNat - 48), by omega, ?_, rfl, ?_, ?_, HB.out⟩, ?_⟩
        · rw [show ((m : Int) * 10 + ((c2.toNat : Int) - 48)) = ((m * 10 + (c2.toNat - 48) : Nat) : Int) by omega]
        · have := HM.out; rw [Nat.pow_succ]; omega
        · rw [← HD.out, hdr, digs_ok ⟨g1, g2⟩]
        · show s.size - ((k : Int) + 1).toNat < s.size - (k : Int).toNat
          omega
      · have hfin : numV true (digs m (s.data.toList.drop k)) = .tuple #[.int .i64 0, .bool false] := by rw [hdr, digs_bad hdig]; rfl
        have hres := HD.out.symm.trans hfin
        go_wp2
        all_goals
          refine bodyPost_ret (v := .tuple #[.int .i64 0, .bool false]) (by simp [results, Tryd.results45, go_sem]) rfl ⟨?_, HB.out⟩
          first | rfl | rw [hres]
    · clear hm16
      have hm17 : m < 100000000000000000 := Nat.lt_of_lt_of_le HM.out (Nat.pow_le_pow_right (n := 10) (i := k) (j := 17) (by omega) (by omega))
      have hke : k = s.size := by omega
      have hfin : numV true (digs m (s.data.toList.drop k)) = .tuple #[.int .i64 (-(m : Int)), .bool true] := by
        rw [hke, List.drop_eq_nil_of_le (by simp)]
        rfl
      have hres := HD.out.symm.trans hfin
      clear hfin
      go_wp2
      refine bodyPost_ret (v := .tuple #[.int .i64 (-(m : Int)), .bool true]) (by simp [results, Tryd.results45, go_sem]) rfl ⟨?_, HB.out⟩
      first | rfl | rw [hres]
end Go.Proofs.YthcabejfmoedfaaDoor
