/- Several texts in one: Num, NumB, NumC, NumD, RdM, RdN. -/
import Derived.Test.YtcnlolocppbcjaaDoorDec
import Derived.Test.YtcnlolocppbcjaaDoorCutA
import Derived.Lib.AtoiAll
import Derived.Lib.IndexMore
namespace Go.Proofs.YtcnlolocppbcjaaDoor
set_option linter.unusedVariables false
set_option linter.unusedSimpArgs false
open Go.Shelf Go.RowKit Go.Joins
/-- the digits of a text, read on from a number -/
def digs (a : Nat) : List UInt8 → Option Nat
  | [] => some a
  | c :: r => if 48 ≤ c.toNat ∧ c.toNat ≤ 57 then digs (a * 10 + (c.toNat - 48)) r else none
/-- what l16Num answers after the digits -/
def numV (neg : Bool) : Option Nat → Value
  | some n => .tuple #[.int .i64 (if neg then -(n : Int) else n), .bool true]
  | none => .tuple #[.int .i64 0, .bool false]
theorem seq0 {s : ByteArray} (hne : 0 < s.size) : ((s.size : Int) == 0) = false := by
  cases h : ((s.size : Int) == 0)
  · rfl
  · exact absurd (beq_iff_eq.1 h) (by omega)
theorem drop_at {s : ByteArray} {k : Nat} (h : k < s.size) : s.data.toList.drop k = s[k] :: s.data.toList.drop (k + 1) := by
  have h' : k < s.data.toList.length := by simpa using h
  rw [List.drop_eq_getElem_cons h']
  rfl
theorem digs_ok {a : Nat} {c : UInt8} {r : List UInt8} (h : 48 ≤ c.toNat ∧ c.toNat ≤ 57) : digs a (c :: r) = digs (a * 10 + (c.toNat - 48)) r := by
  rw [digs, if_pos h]
theorem digs_bad {a : Nat} {c : UInt8} {r : List UInt8} (h : ¬ (48 ≤ c.toNat ∧ c.toNat ≤ 57)) : digs a (c :: r) = none := by
  rw [digs, if_neg h]
theorem sne {s : ByteArray} (hne : 0 < s.size) : ¬ s = ByteArray.empty := by rintro rfl; simp at hne
theorem s17 {s : ByteArray} (h : s.size ≤ 17) : decide (17 < (s.size : Int)) = false := decide_eq_false (by omega)
theorem c45 {c : UInt8} (h : c.toNat ≠ 45) : ((c.toNat : Int) == 45) = false := by simp; omega
set_option maxRecDepth 100000 in
set_option maxHeartbeats 4000000 in
theorem num_pos (s : ByteArray) (hne : 0 < s.size) (h17 : s.size ≤ 17) (hm : (s[0]'hne).toNat ≠ 45) (hz : (s[0]'hne).toNat = 48 → s.size = 1) (w : World) :
    Calls Tryd.prog 19 #[.string s] w fun e w' => e = .returned (numV false (digs 0 s.data.toList)) ∧ Below w.heap.size w w' := by
  generalize hr : numV false (digs 0 s.data.toList) = res
  have HR := hid hr; clear hr
  generalize hc : s[0]'hne = c at hm hz
  have e0 := seq0 hne
  have e1 := sne hne
  have e2 := s17 h17
  have e3 := c45 hm
  go_enter Tryd.func19, Tryd.ntmps19
  by_cases h48 : c.toNat = 48
  · have hz1 := hz h48
    have e4 : decide (1 < (s.size : Int)) = false := decide_eq_false (by omega)
    have e5 : ((c.toNat : Int) == 48) = true := by simp; omega
    go_wp2
    go_loopw [5, 6] (fun n i wr => ∃ (k m : Nat), k ≤ s.size ∧ n = .int .i64 m ∧ i = .int .i64 k ∧ m < 10 ^ k ∧ numV false (digs m (s.data.toList.drop k)) = res ∧ Below w.heap.size w wr) (fun _ i _ => s.size - (intOf i).toNat)
    case atStart => exact ⟨0, 0, Nat.zero_le _, rfl, rfl, by decide, HR.out, Below.refl _ _⟩
    case round =>
      obtain ⟨k, m, hk, rfl, rfl, hmk, hd, hb⟩ := hrel
      have HD := hid hd; clear hd
      have HB := hid hb; clear hb
      have hm16 : k < s.size → m < 10000000000000000 := fun h => Nat.lt_of_lt_of_le hmk (Nat.pow_le_pow_right (n := 10) (i := k) (j := 16) (by omega) (by omega))
      have HM := hid hmk; clear hmk
      by_cases hks : k < s.size
      · have hm2 := hm16 hks
        clear hm16
        have hdr := drop_at hks
        generalize hcc : s[k]'hks = c2 at hdr
        by_cases hdig : 48 ≤ c2.toNat ∧ c2.toNat ≤ 57
        · obtain ⟨g1, g2⟩ := hdig
          go_wp2
          refine ⟨⟨k + 1, m * 10 + (c2.toNat - 48), by omega, ?_, rfl, ?_, ?_, HB.out⟩, ?_⟩
          · rw [show ((m : Int) * 10 + ((c2.toNat : Int) - 48)) = ((m * 10 + (c2.toNat - 48) : Nat) : Int) by omega]
          · have := HM.out; rw [Nat.pow_succ]; omega
          · rw [← HD.out, hdr, digs_ok ⟨g1, g2⟩]
          · show s.size - ((k : Int) + 1).toNat < s.size - (k : Int).toNat
            omega
        · have hfin : numV false (digs m (s.data.toList.drop k)) = .tuple #[.int .i64 0, .bool false] := by rw [hdr, digs_bad hdig]; rfl
          have hres := HD.out.symm.trans hfin
          go_wp2
          all_goals
            refine bodyPost_ret (v := .tuple #[.int .i64 0, .bool false]) (by simp [results, Tryd.results19, go_sem]) rfl ⟨?_, HB.out⟩
            first | rfl | rw [hres]
      · clear hm16
        have hke : k = s.size := by omega
        have hfin : numV false (digs m (s.data.toList.drop k)) = .tuple #[.int .i64 m, .bool true] := by
          rw [hke, List.drop_eq_nil_of_le (by simp)]
          rfl
        have hres := HD.out.symm.trans hfin
        clear hfin
        go_wp2
        refine bodyPost_ret (v := .tuple #[.int .i64 m, .bool true]) (by simp [results, Tryd.results19, go_sem]) rfl ⟨?_, HB.out⟩
        first | rfl | rw [hres]
  · have e5 : ((c.toNat : Int) == 48) = false := by simp; omega
    go_wp2
    go_loopw [5, 6] (fun n i wr => ∃ (k m : Nat), k ≤ s.size ∧ n = .int .i64 m ∧ i = .int .i64 k ∧ m < 10 ^ k ∧ numV false (digs m (s.data.toList.drop k)) = res ∧ Below w.heap.size w wr) (fun _ i _ => s.size - (intOf i).toNat)
    case atStart => exact ⟨0, 0, Nat.zero_le _, rfl, rfl, by decide, HR.out, Below.refl _ _⟩
    case round =>
      obtain ⟨k, m, hk, rfl, rfl, hmk, hd, hb⟩ := hrel
      have HD := hid hd; clear hd
      have HB := hid hb; clear hb
      have hm16 : k < s.size → m < 10000000000000000 := fun h => Nat.lt_of_lt_of_le hmk (Nat.pow_le_pow_right (n := 10) (i := k) (j := 16) (by omega) (by omega))
      have HM := hid hmk; clear hmk
      by_cases hks : k < s.size
      · have hm2 := hm16 hks
        clear hm16
        have hdr := drop_at hks
        generalize hcc : s[k]'hks = c2 at hdr
        by_cases hdig : 48 ≤ c2.toNat ∧ c2.toNat ≤ 57
        · obtain ⟨g1, g2⟩ := hdig
          go_wp2
          refine ⟨⟨k + 1, m * 10 + (c2.toNat - 48), by omega, ?_, rfl, ?_, ?_, HB.out⟩, ?_⟩
          · rw [show ((m : Int) * 10 + ((c2.toNat : Int) - 48)) = ((m * 10 + (c2.toNat - 48) : Nat) : Int) by omega]
          · have := HM.out; rw [Nat.pow_succ]; omega
          · rw [← HD.out, hdr, digs_ok ⟨g1, g2⟩]
          · show s.size - ((k : Int) + 1).toNat < s.size - (k : Int).toNat
            omega
        · have hfin : numV false (digs m (s.data.toList.drop k)) = .tuple #[.int .i64 0, .bool false] := by rw [hdr, digs_bad hdig]; rfl
          have hres := HD.out.symm.trans hfin
          go_wp2
          all_goals
            refine bodyPost_ret (v := .tuple #[.int .i64 0, .bool false]) (by simp [results, Tryd.results19, go_sem]) rfl ⟨?_, HB.out⟩
            first | rfl | rw [hres]
      · clear hm16
        have hke : k = s.size := by omega
        have hfin : numV false (digs m (s.data.toList.drop k)) = .tuple #[.int .i64 m, .bool true] := by
          rw [hke, List.drop_eq_nil_of_le (by simp)]
          rfl
        have hres := HD.out.symm.trans hfin
        clear hfin
        go_wp2
        refine bodyPost_ret (v := .tuple #[.int .i64 m, .bool true]) (by simp [results, Tryd.results19, go_sem]) rfl ⟨?_, HB.out⟩
        first | rfl | rw [hres]
end Go.Proofs.YtcnlolocppbcjaaDoor

namespace Go.Proofs.YtcnlolocppbcjaaDoor
set_option linter.unusedVariables false
set_option linter.unusedSimpArgs false
open Go.Shelf Go.RowKit Go.Joins
set_option maxRecDepth 100000 in
set_option maxHeartbeats 4000000 in
theorem num_neg (t s : ByteArray) (ht : t.size = s.size + 1) (h0 : (t[0]'(by omega)) = 45) (hx : t.extract 1 (s.size + 1) = s) (hne : 0 < s.size) (h17 : s.size ≤ 17) (hz : (s[0]'hne).toNat ≠ 48) (w : World) :
    Calls Tryd.prog 19 #[.string t] w fun e w' => e = .returned (numV true (digs 0 s.data.toList)) ∧ Below w.heap.size w w' := by
  generalize hr : numV true (digs 0 s.data.toList) = res
  have HR := hid hr; clear hr
  generalize hc : s[0]'hne = c at hz
  have e0 := seq0 hne
  have e1 := sne hne
  have e2 := s17 h17
  have f0 : 0 < t.size := by omega
  have f1 := seq0 f0
  have f2 := sne f0
  have e5 : ((c.toNat : Int) == 48) = false := by simp; omega
  go_enter Tryd.func19, Tryd.ntmps19
  go_wp2
  go_loopw [5, 6] (fun n i wr => ∃ (k m : Nat), k ≤ s.size ∧ n = .int .i64 m ∧ i = .int .i64 k ∧ m < 10 ^ k ∧ numV true (digs m (s.data.toList.drop k)) = res ∧ Below w.heap.size w wr) (fun _ i _ => s.size - (intOf i).toNat)
  case atStart => exact ⟨0, 0, Nat.zero_le _, rfl, rfl, by decide, HR.out, Below.refl _ _⟩
  case round =>
    obtain ⟨k, m, hk, rfl, rfl, hmk, hd, hb⟩ := hrel
    have HD := hid hd; clear hd
    have HB := hid hb; clear hb
    have hm16 : k < s.size → m < 10000000000000000 := fun h => Nat.lt_of_lt_of_le hmk (Nat.pow_le_pow_right (n := 10) (i := k) (j := 16) (by omega) (by omega))
    have HM := hid hmk; clear hmk
    by_cases hks : k < s.size
    · have hm2 := hm16 hks
      clear hm16
      have hdr := drop_at hks
      generalize hcc : s[k]'hks = c2 at hdr
      by_cases hdig : 48 ≤ c2.toNat ∧ c2.toNat ≤ 57
      · obtain ⟨g1, g2⟩ := hdig
        go_wp2
        refine ⟨⟨k + 1, m * 10 + (c2.toNat - 48), by omega, ?_, rfl, ?_, ?_, HB.out⟩, ?_⟩
        · rw [show ((m : Int) * 10 + ((c2.toNat : Int) - 48)) = ((m * 10 + (c2.toNat - 48) : Nat) : Int) by omega]
        · have := HM.out; rw [Nat.pow_succ]; omega
        · rw [← HD.out, hdr, digs_ok ⟨g1, g2⟩]
        · show s.size - ((k : Int) + 1).toNat < s.size - (k : Int).toNat
          omega
      · have hfin : numV true (digs m (s.data.toList.drop k)) = .tuple #[.int .i64 0, .bool false] := by rw [hdr, digs_bad hdig]; rfl
        have hres := HD.out.symm.trans hfin
        go_wp2
        all_goals
          refine bodyPost_ret (v := .tuple #[.int .i64 0, .bool false]) (by simp [results, Tryd.results19, go_sem]) rfl ⟨?_, HB.out⟩
          first | rfl | rw [hres]
    · clear hm16
      have hm17 : m < 100000000000000000 := Nat.lt_of_lt_of_le HM.out (Nat.pow_le_pow_right (n := 10) (i := k) (j := 17) (by omega) (by omega))
      have hke : k = s.size := by omega
      have hfin : numV true (digs m (s.data.toList.drop k)) = .tuple #[.int .i64 (-(m : Int)), .bool true] := by
        rw [hke, List.drop_eq_nil_of_le (by simp)]
        rfl
      have hres := HD.out.symm.trans hfin
      clear hfin
      go_wp2
      refine bodyPost_ret (v := .tuple #[.int .i64 (-(m : Int)), .bool true]) (by simp [results, Tryd.results19, go_sem]) rfl ⟨?_, HB.out⟩
      first | rfl | rw [hres]
end Go.Proofs.YtcnlolocppbcjaaDoor

namespace Go.Proofs.YtcnlolocppbcjaaDoor
set_option linter.unusedVariables false
set_option linter.unusedSimpArgs false
open Go.Shelf Go.RowKit Go.Joins
def LNumPost (w : World) (e : Ending) (w' : World) : Prop := ∃ (v : Int) (b : Bool), e = .returned (.tuple #[.int .i64 v, .bool b]) ∧ Below w.heap.size w w'
theorem numV_some (neg : Bool) (o : Option Nat) : ∃ (v : Int) (b : Bool), numV neg o = .tuple #[.int .i64 v, .bool b] := by
  cases o with
  | none => exact ⟨0, false, rfl⟩
  | some n => exact ⟨_, true, rfl⟩
theorem lnum_no {w w' : World} {e : Ending} (he : e = .returned (.tuple #[.int .i64 0, .bool false])) (hb : Below w.heap.size w w') : LNumPost w e w' := ⟨0, false, he, hb⟩
set_option maxRecDepth 100000 in
set_option maxHeartbeats 4000000 in
theorem lnum_any (s : ByteArray) (hs : s.size ≤ 1048576) (w : World) :
    Calls Tryd.prog 19 #[.string s] w (LNumPost w) := by
  by_cases hne : 0 < s.size
  · have g0 := seq0 hne
    have g1 := sne hne
    by_cases hm : (s[0]'hne).toNat = 45
    · have hm' : (s[0]'hne) = 45 := by apply UInt8.toNat_inj.1; exact hm
      have hsz : (s.extract 1 s.size).size = s.size - 1 := by simp
      generalize hr : s.extract 1 s.size = r at hsz
      have hz : s.size = r.size + 1 := by omega
      rw [hz] at hr
      clear hsz hm
      by_cases r0 : 0 < r.size
      · by_cases r17 : r.size ≤ 17
        · by_cases rz : (r[0]'r0).toNat = 48
          · have e0 := seq0 r0
            have e1 := sne r0
            have e2 := s17 r17
            generalize hc : r[0]'r0 = c at rz
            have e5 : ((c.toNat : Int) == 48) = true := by simp; omega
            go_enter Tryd.func19, Tryd.ntmps19
            go_wp2
            all_goals
              exact bodyPost_ret (v := .tuple #[.int .i64 0, .bool false]) (by simp [results, Tryd.results19, go_sem]) rfl (lnum_no rfl (Below.refl _ _))
          · refine (num_neg s r hz hm' hr r0 r17 rz w).mono ?_
            rintro e w' ⟨rfl, hb⟩
            obtain ⟨v, b, h⟩ := numV_some true (digs 0 r.data.toList)
            exact ⟨v, b, by rw [h], hb⟩
        · have e0 := seq0 r0
          have e1 := sne r0
          have e2 : decide (17 < (r.size : Int)) = true := decide_eq_true (by omega)
          go_enter Tryd.func19, Tryd.ntmps19
          go_wp2
          all_goals
            exact bodyPost_ret (v := .tuple #[.int .i64 0, .bool false]) (by simp [results, Tryd.results19, go_sem]) rfl (lnum_no rfl (Below.refl _ _))
      · have e0 : r = ByteArray.empty := by apply ByteArray.ext; apply Array.eq_empty_of_size_eq_zero; show r.size = 0; omega
        subst e0
        go_enter Tryd.func19, Tryd.ntmps19
        go_wp2
        all_goals
          exact bodyPost_ret (v := .tuple #[.int .i64 0, .bool false]) (by simp [results, Tryd.results19, go_sem]) rfl (lnum_no rfl (Below.refl _ _))
    · by_cases r17 : s.size ≤ 17
      · by_cases rz : (s[0]'hne).toNat = 48 ∧ 1 < s.size
        · obtain ⟨rz, r1⟩ := rz
          have e2 := s17 r17
          have e3 := c45 hm
          have e4 : decide (1 < (s.size : Int)) = true := decide_eq_true (by omega)
          generalize hc : s[0]'hne = c at rz hm e3
          have e5 : ((c.toNat : Int) == 48) = true := by simp; omega
          go_enter Tryd.func19, Tryd.ntmps19
          go_wp2
          all_goals
            exact bodyPost_ret (v := .tuple #[.int .i64 0, .bool false]) (by simp [results, Tryd.results19, go_sem]) rfl (lnum_no rfl (Below.refl _ _))
        · refine (num_pos s hne r17 hm (fun h => by have : ¬ 1 < s.size := fun h1 => rz ⟨h, h1⟩; omega) w).mono ?_
          rintro e w' ⟨rfl, hb⟩
          obtain ⟨v, b, h⟩ := numV_some false (digs 0 s.data.toList)
          exact ⟨v, b, by rw [h], hb⟩
      · have e2 : decide (17 < (s.size : Int)) = true := decide_eq_true (by omega)
        have e3 := c45 hm
        generalize hc : s[0]'hne = c at hm e3
        go_enter Tryd.func19, Tryd.ntmps19
        go_wp2
        all_goals
          exact bodyPost_ret (v := .tuple #[.int .i64 0, .bool false]) (by simp [results, Tryd.results19, go_sem]) rfl (lnum_no rfl (Below.refl _ _))
  · have e0 : s = ByteArray.empty := by apply ByteArray.ext; apply Array.eq_empty_of_size_eq_zero; show s.size = 0; omega
    subst e0
    go_enter Tryd.func19, Tryd.ntmps19
    go_wp2
    all_goals
      exact bodyPost_ret (v := .tuple #[.int .i64 0, .bool false]) (by simp [results, Tryd.results19, go_sem]) rfl (lnum_no rfl (Below.refl _ _))
end Go.Proofs.YtcnlolocppbcjaaDoor

namespace Go.Proofs.YtcnlolocppbcjaaDoor
set_option linter.unusedVariables false
set_option linter.unusedSimpArgs false
open Go.Shelf Go.RowKit Go.Joins
theorem digs_snoc (l : List UInt8) (c : UInt8) (hc : 48 ≤ c.toNat ∧ c.toNat ≤ 57) : ∀ (a m : Nat), digs a l = some m → digs a (l ++ [c]) = some (m * 10 + (c.toNat - 48)) := by
  induction l with
  | nil =>
    intro a m h
    have : a = m := by simpa [digs] using h
    subst this
    show digs a (c :: []) = _
    rw [digs_ok hc]
    rfl
  | cons b r ih =>
    intro a m h
    by_cases hb : 48 ≤ b.toNat ∧ b.toNat ≤ 57
    · rw [digs_ok hb] at h
      show digs a (b :: (r ++ [c])) = _
      rw [digs_ok hb]
      exact ih _ _ h
    · rw [digs_bad hb] at h
      cases h
theorem dig_val {m : Nat} (h : m < 10) : (UInt8.ofNat (48 + m)).toNat = 48 + m := by rw [UInt8.toNat_ofNat']; omega
theorem digs_dec : ∀ n : Nat, digs 0 (Lib.decDigits n) = some n := by
  intro n
  induction n using Nat.strongRecOn with
  | _ n ih =>
    by_cases h : n < 10
    · rw [dec_small h, digs_ok (by rw [dig_val h]; omega), dig_val h]
      show some (0 * 10 + (48 + n - 48)) = some n
      congr 1; omega
    · have hm : n % 10 < 10 := Nat.mod_lt _ (by omega)
      rw [dec_big h, digs_snoc _ _ (by rw [dig_val hm]; omega) _ _ (ih (n / 10) (by omega)), dig_val hm]
      congr 1; omega
theorem dec_head : ∀ n : Nat, ∃ c r, Lib.decDigits n = c :: r ∧ c.toNat ≠ 45 ∧ (c.toNat = 48 → r = []) ∧ (0 < n → c.toNat ≠ 48) := by
  intro n
  induction n using Nat.strongRecOn with
  | _ n ih =>
    by_cases h : n < 10
    · refine ⟨UInt8.ofNat (48 + n), [], dec_small h, ?_, fun _ => rfl, ?_⟩
      · rw [dig_val h]; omega
      · intro h0; rw [dig_val h]; omega
    · obtain ⟨c, r, e, h1, h2, h3⟩ := ih (n / 10) (by omega)
      refine ⟨c, r ++ [UInt8.ofNat (48 + n % 10)], by rw [dec_big h, e]; rfl, h1, fun h4 => absurd h4 (h3 (by omega)), fun _ => h3 (by omega)⟩
theorem dec_len17 {n : Nat} (h : n ≤ 1000000000) : (Lib.decDigits n).length ≤ 17 := by
  rw [Lib.decDigits_length]; exact nDigits_lt 16 n (by omega)
theorem lnum_nat (n : Nat) (w : World) (h : n ≤ 1000000000) :
    Calls Tryd.prog 19 #[.string ⟨(Lib.decDigits n).toArray⟩] w fun e w' => e = .returned (.tuple #[.int .i64 n, .bool true]) ∧ Below w.heap.size w w' := by
  obtain ⟨c, r, e, h1, h2, h3⟩ := dec_head n
  have hl := dec_len17 h
  have hd := digs_dec n
  rw [e] at hl hd ⊢
  refine (num_pos ⟨(c :: r).toArray⟩ (Nat.succ_pos _) hl h1 (fun h4 => by rw [h2 h4]; rfl) w).mono ?_
  rintro e w' ⟨rfl, hb⟩
  refine ⟨?_, hb⟩
  show Ending.returned (numV false (digs 0 (c :: r))) = _
  rw [hd]
  rfl
theorem lnum_itoa (n : Int) (w : World) (h : -1000000000 ≤ n ∧ n ≤ 1000000000) :
    Calls Tryd.prog 19 #[.string ⟨(Lib.itoa n).toArray⟩] w fun e w' => e = .returned (.tuple #[.int .i64 n, .bool true]) ∧ Below w.heap.size w w' := by
  by_cases h0 : n < 0
  · obtain ⟨m, rfl⟩ : ∃ m : Nat, n = -(m : Int) := ⟨n.natAbs, by omega⟩
    obtain ⟨c, r, e, h1, h2, h3⟩ := dec_head m
    have hl := dec_len17 (n := m) (by omega)
    have hd := digs_dec m
    rw [itoa_neg h0, show (-(m : Int)).natAbs = m by omega]
    rw [e] at hl hd ⊢
    refine (num_neg ⟨(45 :: c :: r).toArray⟩ ⟨(c :: r).toArray⟩ rfl rfl ?_ (Nat.succ_pos _) hl (h3 (by omega)) w).mono ?_
    · apply ByteArray.ext
      rw [ByteArray.data_extract, show (ByteArray.size ⟨(c :: r).toArray⟩) + 1 = (45 :: c :: r : List UInt8).length from rfl]
      simp
    · rintro e w' ⟨rfl, hb⟩
      refine ⟨?_, hb⟩
      show Ending.returned (numV true (digs 0 (c :: r))) = _
      rw [hd]
      rfl
  · obtain ⟨m, rfl⟩ : ∃ m : Nat, n = (m : Int) := ⟨n.toNat, by omega⟩
    rw [itoa_nat]
    exact lnum_nat m w (by omega)
end Go.Proofs.YtcnlolocppbcjaaDoor

namespace Go.Proofs.YtcnlolocppbcjaaDoor
set_option linter.unusedVariables false
set_option linter.unusedSimpArgs false
open Go.Shelf Go.RowKit Go.Joins
/-- the pieces of a list between signs c -/
def splitL (c : UInt8) : List UInt8 → List (List UInt8)
  | [] => [[]]
  | x :: l => if x = c then [] :: splitL c l else (x :: (splitL c l).headD []) :: (splitL c l).tail
theorem split_ne (c : UInt8) : ∀ l, splitL c l ≠ []
  | [] => by simp [splitL]
  | x :: l => by unfold splitL; split <;> simp
theorem split_no {c : UInt8} : ∀ {u : List UInt8}, c ∉ u → splitL c u = [u]
  | [], _ => rfl
  | x :: u, h => by
    have hx : ¬ x = c := fun e => h (by simp [e])
    rw [splitL, if_neg hx, split_no (u := u) (fun hm => h (by simp [hm]))]
    rfl
theorem split_at {c : UInt8} (v : List UInt8) : ∀ {u : List UInt8}, c ∉ u → splitL c (u ++ c :: v) = u :: splitL c v
  | [], _ => by show splitL c (c :: v) = _; rw [splitL, if_pos rfl]
  | x :: u, h => by
    have hx : ¬ x = c := fun e => h (by simp [e])
    show splitL c (x :: (u ++ c :: v)) = _
    rw [splitL, if_neg hx, split_at v (u := u) (fun hm => h (by simp [hm]))]
    rfl
theorem bytes_list {l : List UInt8} : (⟨l.toArray⟩ : ByteArray).data.toList = l := by simp
theorem list_bytes (s : ByteArray) : (⟨s.data.toList.toArray⟩ : ByteArray) = s := by cases s; simp
theorem ba_ext {s t : ByteArray} (h : s.data.toList = t.data.toList) : s = t := by rw [← list_bytes s, ← list_bytes t, h]
theorem ex_list (s : ByteArray) (a b : Nat) : (s.extract a b).data.toList = (s.data.toList.drop a).take (b - a) := by
  rw [ByteArray.data_extract, Array.toList_extract]
theorem cut_split (s : ByteArray) (c : UInt8) : ∀ k, k ≤ s.size → splitL c s.data.toList = (cutW s c.toNat k).1.map (fun t => t.data.toList) ++ splitL c (s.data.toList.drop (cutW s c.toNat k).2) ∧ (∀ j, (cutW s c.toNat k).2 ≤ j → j < k → s.data.toList[j]? ≠ some c)
  | 0, _ => ⟨by simp [cutW], fun j h1 h2 => absurd h2 (by omega)⟩
  | k + 1, hk => by
    obtain ⟨ih1, ih2⟩ := cut_split s c k (by omega)
    have hle := (cutW_le s c.toNat k).1
    have hk2 : k < s.size := by omega
    have hkl : k < s.data.toList.length := by simpa using hk2
    have hg : s.data.toList[k]? = some (s[k]'hk2) := by rw [List.getElem?_eq_getElem hkl]; rfl
    by_cases hc : s[k]'hk2 = c
    · have hy : k = s.size ∨ ((s[k]!).toNat : Int) = c.toNat := .inr (by rw [get_bang hk2, hc])
      rw [cutW_yes hy]
      refine ⟨?_, fun j h1 h2 => absurd h2 (by show ¬ j < k + 1; have : k + 1 ≤ j := h1; omega)⟩
      rw [ih1]
      show _ = List.map _ ((cutW s c.toNat k).1 ++ [s.extract (cutW s c.toNat k).2 k]) ++ splitL c (s.data.toList.drop (k + 1))
      rw [List.map_append, List.append_assoc]
      congr 1
      have hd : s.data.toList.drop (cutW s c.toNat k).2 = (s.data.toList.drop (cutW s c.toNat k).2).take (k - (cutW s c.toNat k).2) ++ c :: s.data.toList.drop (k + 1) := by
        conv => lhs; rw [← List.take_append_drop (k - (cutW s c.toNat k).2) (s.data.toList.drop (cutW s c.toNat k).2)]
        congr 1
        rw [List.drop_drop, show (cutW s c.toNat k).2 + (k - (cutW s c.toNat k).2) = k by omega, List.drop_eq_getElem_cons hkl]
        congr 1
      rw [hd, split_at]
      · simp [ex_list]
      · intro hm
        obtain ⟨j, hj⟩ := List.mem_iff_getElem?.1 hm
        rw [List.getElem?_take] at hj
        split at hj
        · rw [List.getElem?_drop] at hj
          exact ih2 _ (by omega) (by omega) hj
        · cases hj
    · have hn : ¬ (k = s.size ∨ ((s[k]!).toNat : Int) = c.toNat) := by
        rw [get_bang hk2]
        rintro (h | h)
        · omega
        · exact hc (UInt8.toNat_inj.1 (by omega))
      rw [cutW_no hn]
      refine ⟨ih1, fun j h1 h2 => ?_⟩
      by_cases hj : j = k
      · subst hj; rw [hg]; intro e; exact hc (Option.some.inj e)
      · exact ih2 j h1 (by omega)
theorem cut_all (s : ByteArray) (c : UInt8) : (cutW s c.toNat (s.size + 1)).1.map (fun t => t.data.toList) = splitL c s.data.toList := by
  obtain ⟨h1, h2⟩ := cut_split s c s.size (Nat.le_refl _)
  have hle := (cutW_le s c.toNat s.size).1
  rw [cutW_yes (.inl rfl), h1, List.map_append]
  congr 1
  rw [split_no]
  · show [(s.extract (cutW s c.toNat s.size).2 s.size).data.toList] = _
    rw [ex_list, List.take_of_length_le (by rw [List.length_drop]; simp)]
  · intro hm
    obtain ⟨j, hj⟩ := List.mem_iff_getElem?.1 hm
    rw [List.getElem?_drop] at hj
    have : (cutW s c.toNat s.size).2 + j < s.data.toList.length := (List.getElem?_eq_some_iff.1 hj).1
    exact h2 _ (by omega) (by simpa using this) hj
/-- the pieces as texts -/
theorem cut_texts (s : ByteArray) (c : UInt8) : (cutW s c.toNat (s.size + 1)).1 = (splitL c s.data.toList).map (fun l => ⟨l.toArray⟩) := by
  rw [← cut_all, List.map_map]
  conv => lhs; rw [← List.map_id (cutW s c.toNat (s.size + 1)).1]
  apply List.map_congr_left
  intro t _
  exact (list_bytes t).symm
theorem index_one (c : UInt8) (v : List UInt8) : ∀ {u : List UInt8}, c ∉ u → Lib.index (u ++ c :: v) [c] = u.length
  | [], _ => by show Lib.index (c :: v) [c] = 0; unfold Lib.index; simp
  | x :: u, h => by
    have hx : ¬ c = x := fun e => h (by simp [e])
    have ih := index_one c v (u := u) (fun hm => h (by simp [hm]))
    show Lib.index (x :: (u ++ c :: v)) [c] = _
    unfold Lib.index
    have hp : List.isPrefixOf [c] (x :: (u ++ c :: v)) = false := by simp [List.isPrefixOf, hx]
    rw [hp, ih]
    simp
theorem index_none (c : UInt8) : ∀ {u : List UInt8}, c ∉ u → Lib.index u [c] = -1
  | [], _ => rfl
  | x :: u, h => by
    have hx : ¬ c = x := fun e => h (by simp [e])
    have ih := index_none c (u := u) (fun hm => h (by simp [hm]))
    unfold Lib.index
    have hp : List.isPrefixOf [c] (x :: u) = false := by simp [List.isPrefixOf, hx]
    rw [hp, ih]
    rfl
theorem cut_one {c : UInt8} {u v : List UInt8} (h : c ∉ u) : Lib.cut (u ++ c :: v) [c] = (u, v, true) := by
  unfold Lib.cut
  rw [index_one c v h, if_pos (by omega)]
  simp
theorem cut_none {c : UInt8} {u : List UInt8} (h : c ∉ u) : Lib.cut u [c] = (u, [], false) := by
  unfold Lib.cut
  rw [index_none c h, if_neg (by omega)]
theorem mem_itoa {n : Int} {c : UInt8} (h : c ∈ Lib.itoa n) : c.toNat = 45 ∨ 48 ≤ c.toNat ∧ c.toNat ≤ 57 := by
  have hd : ∀ (m : Nat), c ∈ Lib.decDigits m → 48 ≤ c.toNat ∧ c.toNat ≤ 57 := by
    intro m
    induction m using Nat.strongRecOn with
    | _ m ih =>
      intro hm
      by_cases h10 : m < 10
      · rw [dec_small h10] at hm
        simp only [List.mem_singleton] at hm
        subst hm
        rw [dig_val h10]; omega
      · rw [dec_big h10, List.mem_append] at hm
        rcases hm with hm | hm
        · exact ih (m / 10) (by omega) hm
        · simp only [List.mem_singleton] at hm
          subst hm
          rw [dig_val (Nat.mod_lt _ (by omega))]
          have := Nat.mod_lt m (show 0 < 10 by omega)
          omega
  by_cases h0 : n < 0
  · rw [itoa_neg h0] at h
    rcases List.mem_cons.1 h with h | h
    · left; rw [h]; rfl
    · right; exact hd _ h
  · obtain ⟨m, rfl⟩ : ∃ m : Nat, n = (m : Int) := ⟨n.toNat, by omega⟩
    rw [itoa_nat] at h
    right; exact hd _ h
theorem itoa_no {n : Int} {c : UInt8} (h : c.toNat ≠ 45 ∧ (c.toNat < 48 ∨ 57 < c.toNat)) : c ∉ Lib.itoa n := fun hm => by have := mem_itoa hm; omega
theorem digs_le : ∀ (l : List UInt8) (a m : Nat), digs a l = some m → a ≤ m
  | [], a, m, h => by simp only [digs, Option.some.injEq] at h; omega
  | c :: r, a, m, h => by
    by_cases hc : 48 ≤ c.toNat ∧ c.toNat ≤ 57
    · rw [digs_ok hc] at h
      have := digs_le r _ _ h
      omega
    · rw [digs_bad hc] at h; cases h
theorem parse_digs : ∀ (l : List UInt8) (a m : Nat), digs a l = some m → m ≤ 1000000000000000000 → Lib.parseUint10 a l = .ok m
  | [], a, m, h, _ => by simp only [digs, Option.some.injEq] at h; rw [h]; rfl
  | c :: r, a, m, h, hm => by
    by_cases hc : 48 ≤ c.toNat ∧ c.toNat ≤ 57
    · rw [digs_ok hc] at h
      have hle := digs_le r _ _ h
      unfold Lib.parseUint10
      rw [if_pos hc, if_neg (by omega), if_neg (by omega)]
      exact parse_digs r _ _ h hm
    · rw [digs_bad hc] at h; cases h
theorem atoi_itoa (n : Int) (h : -1000000000000000000 ≤ n ∧ n ≤ 1000000000000000000) : Lib.atoiAll (Lib.itoa n) = .ok n := by
  by_cases h0 : n < 0
  · rw [itoa_neg h0]
    obtain ⟨c, r, e, _⟩ := dec_head n.natAbs
    have hp : Lib.parseMag (Lib.decDigits n.natAbs) = .ok n.natAbs := by
      unfold Lib.parseMag
      rw [if_neg (by rw [e]; simp)]
      exact parse_digs _ _ _ (digs_dec _) (by omega)
    unfold Lib.atoiAll
    show (match Lib.parseMag (if (45 : UInt8).toNat = 43 ∨ (45 : UInt8).toNat = 45 then Lib.decDigits n.natAbs else _) with | .syntax => _ | .range => _ | .ok u => _) = _
    rw [if_pos (by decide), hp]
    show (if ¬ (45 : UInt8).toNat = 45 ∧ _ then _ else _) = _
    rw [if_neg (by simp), if_neg (by simp; omega), if_pos (by decide)]
    congr 1; omega
  · obtain ⟨m, rfl⟩ : ∃ m : Nat, n = (m : Int) := ⟨n.toNat, by omega⟩
    rw [itoa_nat]
    have hd := digs_dec m
    obtain ⟨c, r, e, h1, _⟩ := dec_head m
    have hp : Lib.parseMag (Lib.decDigits m) = .ok m := by
      unfold Lib.parseMag
      rw [if_neg (by rw [e]; simp)]
      exact parse_digs _ _ _ hd (by omega)
    rw [e] at hd hp ⊢
    have hc : 48 ≤ c.toNat ∧ c.toNat ≤ 57 := by
      by_cases hc : 48 ≤ c.toNat ∧ c.toNat ≤ 57
      · exact hc
      · rw [digs_bad hc] at hd; cases hd
    unfold Lib.atoiAll
    show (match Lib.parseMag (if c.toNat = 43 ∨ c.toNat = 45 then r else c :: r) with | .syntax => _ | .range => _ | .ok u => _) = _
    rw [if_neg (by omega), hp]
    show (if ¬ c.toNat = 45 ∧ 9223372036854775808 ≤ m then _ else if c.toNat = 45 ∧ 9223372036854775808 < m then _ else Lib.NumEnd.ok (if c.toNat = 45 then -(m : Int) else m)) = _
    rw [if_neg (by omega), if_neg (by omega), if_neg h1]
/-- the text is that of the fraction n/d -/
def RdOk (s : ByteArray) (n d : Int) : Prop := okB n d = true ∧ s = ⟨(ratTxt n d).toArray⟩
theorem no47 (n : Int) : (47 : UInt8) ∉ Lib.itoa n := itoa_no (by decide)
theorem rd_split {s : ByteArray} {n d : Int} (h : RdOk s n d) : (d = 1 ∧ s.data.toList = Lib.itoa n) ∨ (d ≠ 1 ∧ s.data.toList = Lib.itoa n ++ 47 :: Lib.itoa d) := by
  obtain ⟨h1, rfl⟩ := h
  by_cases hd : d = 1
  · left; refine ⟨hd, ?_⟩; rw [bytes_list]; unfold ratTxt; rw [if_pos h1, if_pos hd, List.append_nil]
  · right; refine ⟨hd, ?_⟩; rw [bytes_list]; unfold ratTxt; rw [if_pos h1, if_neg hd]
theorem itoa_inj {a b : Int} (ha : -1000000000000000000 ≤ a ∧ a ≤ 1000000000000000000) (hb : -1000000000000000000 ≤ b ∧ b ≤ 1000000000000000000) (h : Lib.itoa a = Lib.itoa b) : a = b := by
  have h1 := atoi_itoa a ha
  rw [h, atoi_itoa b hb] at h1
  injection h1 with h1
  exact h1.symm
theorem rd_inj {s : ByteArray} {n d n' d' : Int} (h : RdOk s n d) (h' : RdOk s n' d') : n = n' ∧ d = d' := by
  have b1 := ok_b h.1; have b2 := ok_b h'.1
  rcases rd_split h with ⟨e1, f1⟩ | ⟨e1, f1⟩ <;> rcases rd_split h' with ⟨e2, f2⟩ | ⟨e2, f2⟩
  · rw [f1] at f2; exact ⟨itoa_inj (by omega) (by omega) f2, by omega⟩
  · have c1 := cut_none (no47 n); have c2 := cut_one (v := Lib.itoa d') (no47 n')
    rw [← f1] at c1; rw [← f2, c1] at c2; injection c2 with _ c2; injection c2 with _ c2; cases c2
  · have c1 := cut_none (no47 n'); have c2 := cut_one (v := Lib.itoa d) (no47 n)
    rw [← f2] at c1; rw [← f1, c1] at c2; injection c2 with _ c2; injection c2 with _ c2; cases c2
  · have c1 := cut_one (v := Lib.itoa d) (no47 n); have c2 := cut_one (v := Lib.itoa d') (no47 n')
    rw [← f1] at c1; rw [← f2, c1] at c2; injection c2 with c2 c3; injection c3 with c3 _
    exact ⟨itoa_inj (by omega) (by omega) c2, itoa_inj (by omega) (by omega) c3⟩
/-- what RatRead answers -/
def RdP (s : ByteArray) (e : Ending) : Prop := (∃ n d, RdOk s n d ∧ e = .returned (.tuple #[.agg #[.int .i64 n, .int .i64 d], .bool true])) ∨ ((∀ n d, ¬ RdOk s n d) ∧ e = .returned (.tuple #[.agg #[.int .i64 0, .int .i64 0], .bool false]))
end Go.Proofs.YtcnlolocppbcjaaDoor

namespace Go.Proofs.YtcnlolocppbcjaaDoor
set_option linter.unusedVariables false
set_option linter.unusedSimpArgs false
open Go.Shelf Go.RowKit Go.Joins
set_option maxRecDepth 100000 in
set_option maxHeartbeats 4000000 in
theorem lnum_fix (s : ByteArray) (hs : s.size ≤ 1048576) :
    ∃ (v : Int) (b : Bool), ∀ w, Calls Tryd.prog 19 #[.string s] w fun e w' => e = .returned (.tuple #[.int .i64 v, .bool b]) ∧ Below w.heap.size w w' := by
  by_cases hne : 0 < s.size
  · have g0 := seq0 hne
    have g1 := sne hne
    by_cases hm : (s[0]'hne).toNat = 45
    · have hm' : (s[0]'hne) = 45 := by apply UInt8.toNat_inj.1; exact hm
      have hsz : (s.extract 1 s.size).size = s.size - 1 := by simp
      generalize hr : s.extract 1 s.size = r at hsz
      have hz : s.size = r.size + 1 := by omega
      rw [hz] at hr
      clear hsz hm
      by_cases r0 : 0 < r.size
      · by_cases r17 : r.size ≤ 17
        · by_cases rz : (r[0]'r0).toNat = 48
          · refine ⟨0, false, fun w => ?_⟩
            have e0 := seq0 r0
            have e1 := sne r0
            have e2 := s17 r17
            generalize hc : r[0]'r0 = c at rz
            have e5 : ((c.toNat : Int) == 48) = true := by simp; omega
            go_enter Tryd.func19, Tryd.ntmps19
            go_wp2
            all_goals
              exact bodyPost_ret (v := .tuple #[.int .i64 0, .bool false]) (by simp [results, Tryd.results19, go_sem]) rfl ⟨rfl, Below.refl _ _⟩
          · obtain ⟨v, b, h⟩ := numV_some true (digs 0 r.data.toList)
            refine ⟨v, b, fun w => (num_neg s r hz hm' hr r0 r17 rz w).mono ?_⟩
            rintro e w' ⟨rfl, hb⟩
            exact ⟨by rw [h], hb⟩
        · refine ⟨0, false, fun w => ?_⟩
          have e0 := seq0 r0
          have e1 := sne r0
          have e2 : decide (17 < (r.size : Int)) = true := decide_eq_true (by omega)
          go_enter Tryd.func19, Tryd.ntmps19
          go_wp2
          all_goals
            exact bodyPost_ret (v := .tuple #[.int .i64 0, .bool false]) (by simp [results, Tryd.results19, go_sem]) rfl ⟨rfl, Below.refl _ _⟩
      · have e0 : r = ByteArray.empty := by apply ByteArray.ext; apply Array.eq_empty_of_size_eq_zero; show r.size = 0; omega
        subst e0
        refine ⟨0, false, fun w => ?_⟩
        go_enter Tryd.func19, Tryd.ntmps19
        go_wp2
        all_goals
          exact bodyPost_ret (v := .tuple #[.int .i64 0, .bool false]) (by simp [results, Tryd.results19, go_sem]) rfl ⟨rfl, Below.refl _ _⟩
    · by_cases r17 : s.size ≤ 17
      · by_cases rz : (s[0]'hne).toNat = 48 ∧ 1 < s.size
        · refine ⟨0, false, fun w => ?_⟩
          obtain ⟨rz, r1⟩ := rz
          have e2 := s17 r17
          have e3 := c45 hm
          have e4 : decide (1 < (s.size : Int)) = true := decide_eq_true (by omega)
          generalize hc : s[0]'hne = c at rz hm e3
          have e5 : ((c.toNat : Int) == 48) = true := by simp; omega
          go_enter Tryd.func19, Tryd.ntmps19
          go_wp2
          all_goals
            exact bodyPost_ret (v := .tuple #[.int .i64 0, .bool false]) (by simp [results, Tryd.results19, go_sem]) rfl ⟨rfl, Below.refl _ _⟩
        · obtain ⟨v, b, h⟩ := numV_some false (digs 0 s.data.toList)
          refine ⟨v, b, fun w => (num_pos s hne r17 hm (fun h => by have : ¬ 1 < s.size := fun h1 => rz ⟨h, h1⟩; omega) w).mono ?_⟩
          rintro e w' ⟨rfl, hb⟩
          exact ⟨by rw [h], hb⟩
      · refine ⟨0, false, fun w => ?_⟩
        have e2 : decide (17 < (s.size : Int)) = true := decide_eq_true (by omega)
        have e3 := c45 hm
        generalize hc : s[0]'hne = c at hm e3
        go_enter Tryd.func19, Tryd.ntmps19
        go_wp2
        all_goals
          exact bodyPost_ret (v := .tuple #[.int .i64 0, .bool false]) (by simp [results, Tryd.results19, go_sem]) rfl ⟨rfl, Below.refl _ _⟩
  · have e0 : s = ByteArray.empty := by apply ByteArray.ext; apply Array.eq_empty_of_size_eq_zero; show s.size = 0; omega
    subst e0
    refine ⟨0, false, fun w => ?_⟩
    go_enter Tryd.func19, Tryd.ntmps19
    go_wp2
    all_goals
      exact bodyPost_ret (v := .tuple #[.int .i64 0, .bool false]) (by simp [results, Tryd.results19, go_sem]) rfl ⟨rfl, Below.refl _ _⟩
/-- the kit reads a text, and of a number's text that number -/
theorem lnum_val (s : ByteArray) (hs : s.size ≤ 1048576) :
    ∃ (v : Int) (b : Bool), (∀ n : Int, -1000000000 ≤ n ∧ n ≤ 1000000000 → s.data.toList = Lib.itoa n → v = n) ∧ ∀ w, Calls Tryd.prog 19 #[.string s] w fun e w' => e = .returned (.tuple #[.int .i64 v, .bool b]) ∧ Below w.heap.size w w' := by
  by_cases h : ∃ n : Int, (-1000000000 ≤ n ∧ n ≤ 1000000000) ∧ s.data.toList = Lib.itoa n
  · obtain ⟨n, hn, he⟩ := h
    refine ⟨n, true, fun m hm e => itoa_inj (by omega) (by omega) (he.symm.trans e), fun w => ?_⟩
    rw [← list_bytes s, he]
    exact lnum_itoa n w hn
  · obtain ⟨v, b, hc⟩ := lnum_fix s hs
    exact ⟨v, b, fun m hm e => absurd ⟨m, hm, e⟩ h, hc⟩
end Go.Proofs.YtcnlolocppbcjaaDoor
