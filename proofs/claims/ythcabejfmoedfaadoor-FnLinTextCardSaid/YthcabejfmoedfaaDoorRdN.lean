/- Contract of the kit's l16Num with its value told: of the text of a number, that number. -/
import Derived.Test.YthcabejfmoedfaaDoorRdM
import Derived.Test.YthcabejfmoedfaaDoorNumC
namespace Go.Proofs.YthcabejfmoedfaaDoor
set_option linter.unusedVariables false
set_option linter.unusedSimpArgs false
open Go.Shelf Go.RowKit Go.Joins
set_option maxRecDepth 100000 in
set_option maxHeartbeats 4000000 in
theorem lnum_fix (s : ByteArray) (hs : s.size ≤ 1048576) :
    ∃ (v : Int) (b : Bool), ∀ w, Calls Tryd.prog 45 #[.string s] w fun e w' => e = .returned (.tuple #[.int .i64 v, .bool b]) ∧ Below w.heap.size w w' := by
  by_cases hne : 0 < s.size
  · have g0 := seq0 hne
    have g1 := sne hne
    by_cases hm : (s[0]'hne).toNat = 45
    · have hm' : (s[0]'hne) = 45 := by apply UInt8.toNat_inj.1; exact hm
      have hsz : (s.extract 1 s.size).size = s.size - 1 := by simp
      generalize hr : s.extract 1 s.size = r at hsz
      have hz : s.size = r.size + 1 := by omega
      rw [hz] at hr
      clear hsz hm
      by_cases r0 : 0 < r.size
      · by_cases r17 : r.size ≤ 17
        · by_cases rz : (r[0]'r0).toNat = 48
          · refine ⟨0, false, fun w => ?_⟩
            have e0 := seq0 r0
            have e1 := sne r0
            have e2 := s17 r17
            generalize hc : r[0]'r0 = c at rz
            have e5 : ((c.toNat : Int) == 48) = true := by simp; omega
            go_enter Tryd.func45, Tryd.ntmps45
            go_wp2
            all_goals
              exact bodyPost_ret (v := .tuple #[.int .i64 0, .bool false]) (by simp [results, Tryd.results45, go_sem]) rfl ⟨rfl, Below.refl _ _⟩
          · obtain ⟨v, b, h⟩ := numV_some true (digs 0 r.data.toList)
            refine ⟨v, b, fun w => (num_neg s r hz hm' hr r0 r17 rz w).mono ?_⟩
            rintro e w' ⟨rfl, hb⟩
            exact ⟨by rw [h], hb⟩
        · refine ⟨0, false, fun w => ?_⟩
          have e0 := seq0 r0
          have e1 := sne r0
          have e2 : decide (17 < (r.size : Int)) = true := decide_eq_true (by omega)
          go_enter Tryd.func45, Tryd.ntmps45
          go_wp2
          all_goals
            exact bodyPost_ret (v := .tuple #[.int .i64 0, .bool false]) (by simp [results, Tryd.results45, go_sem]) rfl ⟨rfl, Below.refl _ _⟩
      · have e0 : r = ByteArray.empty := by apply ByteArray.ext; apply Array.eq_empty_of_size_eq_zero; show r.size = 0; omega
        subst e0
        refine ⟨0, false, fun w => ?_⟩
        go_enter Tryd.func45, Tryd.ntmps45
        go_wp2
        all_goals
          exact bodyPost_ret (v := .tuple #[.int .i64 0, .bool false]) (by simp [results, Tryd.results45, go_sem]) rfl ⟨rfl, Below.refl _ _⟩
    · by_cases r17 : s.size ≤ 17
      · by_cases rz : (s[0]'hne).toNat = 48 ∧ 1 < s.size
        · refine ⟨0, false, fun w => ?_⟩
          obtain ⟨rz, r1⟩ := rz
          have e2 := s17 r17
          have e3 := c45 hm
          have e4 : decide (1 < (s.size : Int)) = true := decide_eq_true (by omega)
          generalize hc : s[0]'hne = c at rz hm e3
          have e5 : ((c.toNat : Int) == 48) = true := by simp; omega
          go_enter Tryd.func45, Tryd.ntmps45
          go_wp2
          all_goals
            exact bodyPost_ret (v := .tuple #[.int .i64 0, .bool false]) (by simp [results, Tryd.results45, go_sem]) rfl ⟨rfl, Below.refl _ _⟩
        · obtain ⟨v, b, h⟩ := numV_some false (digs 0 s.data.toList)
          refine ⟨v, b, fun w => (num_pos s hne r17 hm (fun h => by have : ¬ 1 < s.size := fun h1 => rz ⟨h, h1⟩; omega) w).mono ?_⟩
          rintro e w' ⟨rfl, hb⟩
          exact ⟨by rw [h], hb⟩
      · refine ⟨0, false, fun w => ?_⟩
        have e2 : decide (17 < (s.size : Int)) = true := decide_eq_true (by omega)
        have e3 := c45 hm
        generalize hc : s[0]'hne = c at hm e3
        go_enter Tryd.func45, Tryd.ntmps45
        go_wp2
        all_goals
          exact bodyPost_ret (v := .tuple #[.int .i64 0, .bool false]) (by simp [results, Tryd.results45, go_sem]) rfl ⟨rfl, Below.refl _ _⟩
  · have e0 : s = ByteArray.empty := by apply ByteArray.ext; apply Array.eq_empty_of_size_eq_zero; show s.size = 0; omega
    subst e0
    refine ⟨0, false, fun w => ?_⟩
    go_enter Tryd.func45, Tryd.ntmps45
    go_wp2
    all_goals
      exact bodyPost_ret (v := .tuple #[.int .i64 0, .bool false]) (by simp [results, Tryd.results45, go_sem]) rfl ⟨rfl, Below.refl _ _⟩
/-- the kit reads a text, and of a number's text that number -/
theorem lnum_val (s : ByteArray) (hs : s.size ≤ 1048576) :
    ∃ (v : Int) (b : Bool), (∀ n : Int, -1000000000 ≤ n ∧ n ≤ 1000000000 → s.data.toList = Lib.itoa n → v = n) ∧ ∀ w, Calls Tryd.prog 45 #[.string s] w fun e w' => e = .returned (.tuple #[.int .i64 v, .bool b]) ∧ Below w.heap.size w w' := by
  by_cases h : ∃ n : Int, (-1000000000 ≤ n ∧ n ≤ 1000000000) ∧ s.data.toList = Lib.itoa n
  · obtain ⟨n, hn, he⟩ := h
    refine ⟨n, true, fun m hm e => itoa_inj (by omega) (by omega) (he.symm.trans e), fun w => ?_⟩
    rw [← list_bytes s, he]
    exact lnum_itoa n w hn
  · obtain ⟨v, b, hc⟩ := lnum_fix s hs
    exact ⟨v, b, fun m hm e => absurd ⟨m, hm, e⟩ h, hc⟩
end Go.Proofs.YthcabejfmoedfaaDoor
