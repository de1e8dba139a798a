/- Contract of the kit's l16Num at every text: it answers some number. -/
import Derived.Test.YthcabejfmoedfaaDoorNumB
namespace Go.Proofs.YthcabejfmoedfaaDoor
set_option linter.unusedVariables false
set_option linter.unusedSimpArgs false
open Go.Shelf Go.RowKit Go.Joins
def LNumPost (w : World) (e : Ending) (w' : World) : Prop := ∃ (v : Int) (b : Bool), e = .returned (.tuple #[.int .i64 v, .bool b]) ∧ Below w.heap.size w w'
theorem numV_some (neg : Bool) (o : Option Nat) : ∃ (v : Int) (b : Bool), numV neg o = .tuple #[.int .i64 v, .bool b] := by
  cases o with
  | none => exact ⟨0, false, rfl⟩
  | some n => exact ⟨_, true, rfl⟩
theorem lnum_no {w w' : World} {e : Ending} (he : e = .returned (.tuple #[.int .i64 0, .bool false])) (hb : Below w.heap.size w w') : LNumPost w e w' := ⟨0, false, he, hb⟩
set_option maxRecDepth 100000 in
set_option maxHeartbeats 4000000 in
theorem lnum_any (s : ByteArray) (hs : s.size ≤ 1048576) (w : World) :
    Calls Tryd.prog 45 #[.string s] w (LNumPost w) := by
  by_cases hne : 0 < s.size
  · have g0 := seq0 hne
    have g1 := sne hne
    by_cases hm : (s[0]'hne).toNat = 45
    · have hm' : (s[0]'hne) = 45 := by apply UInt8.toNat_inj.1; exact hm
      have hsz : (s.extract 1 s.size).size = s.size - 1 := by simp
      generalize hr : s.extract 1 s.size = r at hsz
      have hz : s.size = r.size + 1 := by omega
      rw [hz] at hr
      clear hsz hm
      by_cases r0 : 0 < r.size
      · by_cases r17 : r.size ≤ 17
        · by_cases rz : (r[0]'r0).toNat = 48
          · have e0 := seq0 r0
            have e1 := sne r0
            have e2 := s17 r17
            generalize hc : r[0]'r0 = c at rz
            have e5 : ((c.toNat : Int) == 48) = true := by simp; omega
            go_enter Tryd.func45, Tryd.ntmps45
            go_wp2
            all_goals
              exact bodyPost_ret (v := .tuple #[.int .i64 0, .bool false]) (by simp [results, Tryd.results45, go_sem]) rfl (lnum_no rfl (Below.refl _ _))
          · refine (num_neg s r hz hm' hr r0 r17 rz w).mono ?_
            rintro e w' ⟨rfl, hb⟩
            obtain ⟨v, b, h⟩ := numV_some true (digs 0 r.data.toList)
            exact ⟨v, b, by rw [h], hb⟩
        · have e0 := seq0 r0
          have e1 := sne r0
          have e2 : decide (17 < (r.size : Int)) = true := decide_eq_true (by omega)
          go_enter Tryd.func45, Tryd.ntmps45
          go_wp2
          all_goals
            exact bodyPost_ret (v := .tuple #[.int .i64 0, .bool false]) (by simp [results, Tryd.results45, go_sem]) rfl (lnum_no rfl (Below.refl _ _))
      · have e0 : r = ByteArray.empty := by apply ByteArray.ext; apply Array.eq_empty_of_size_eq_zero; show r.size = 0; omega
        subst e0
        go_enter Tryd.func45, Tryd.ntmps45
        go_wp2
        all_goals
          exact bodyPost_ret (v := .tuple #[.int .i64 0, .bool false]) (by simp [results, Tryd.results45, go_sem]) rfl (lnum_no rfl (Below.refl _ _))
    · by_cases r17 : s.size ≤ 17
      · by_cases rz : (s[0]'hne).toNat = 48 ∧ 1 < s.size
        · obtain ⟨rz, r1⟩ := rz
          have e2 := s17 r17
          have e3 := c45 hm
          have e4 : decide (1 < (s.size : Int)) = true := decide_eq_true (by omega)
          generalize hc : s[0]'hne = c at rz hm e3
          have e5 : ((c.toNat : Int) == 48) = true := by simp; omega
          go_enter Tryd.func45, Tryd.ntmps45
          go_wp2
          all_goals
            exact bodyPost_ret (v := .tuple #[.int .i64 0, .bool false]) (by simp [results, Tryd.results45, go_sem]) rfl (lnum_no rfl (Below.refl _ _))
        · refine (num_pos s hne r17 hm (fun h => by have : ¬ 1 < s.size := fun h1 => rz ⟨h, h1⟩; omega) w).mono ?_
          rintro e w' ⟨rfl, hb⟩
          obtain ⟨v, b, h⟩ := numV_some false (digs 0 s.data.toList)
          exact ⟨v, b, by rw [h], hb⟩
      · have e2 : decide (17 < (s.size : Int)) = true := decide_eq_true (by omega)
        have e3 := c45 hm
        generalize hc : s[0]'hne = c at hm e3
        go_enter Tryd.func45, Tryd.ntmps45
        go_wp2
        all_goals
          exact bodyPost_ret (v := .tuple #[.int .i64 0, .bool false]) (by simp [results, Tryd.results45, go_sem]) rfl (lnum_no rfl (Below.refl _ _))
  · have e0 : s = ByteArray.empty := by apply ByteArray.ext; apply Array.eq_empty_of_size_eq_zero; show s.size = 0; omega
    subst e0
    go_enter Tryd.func45, Tryd.ntmps45
    go_wp2
    all_goals
      exact bodyPost_ret (v := .tuple #[.int .i64 0, .bool false]) (by simp [results, Tryd.results45, go_sem]) rfl (lnum_no rfl (Below.refl _ _))
end Go.Proofs.YthcabejfmoedfaaDoor
