/- Contracts of NameOk, of the program and of the model. -/
import Derived.Test.YtbhagobkkobgfaaBase
namespace Go.Proofs.Ytbhagobkkobgfaa
set_option linter.unusedVariables false
set_option linter.unusedSimpArgs false
open Go.RowKit
def letB (c : UInt8) : Bool := decide (97 ≤ (c.toNat : Int) ∧ (c.toNat : Int) ≤ 122)
/-- a name: one or two small letters -/
def nameB (s : ByteArray) : Bool := decide (1 ≤ s.size ∧ s.size ≤ 2 ∧ ∀ k, k < s.size → letB s[k]! = true)
theorem nameB_iff {s : ByteArray} : nameB s = true ↔ 1 ≤ s.size ∧ s.size ≤ 2 ∧ ∀ k, k < s.size → letB s[k]! = true := by unfold nameB; exact decide_eq_true_iff
theorem nameB_at {s : ByteArray} {k : Nat} (hk : k < s.size) (h : letB s[k]! = false) : nameB s = false := by
  cases e : nameB s
  · rfl
  · have := (nameB_iff.1 e).2.2 k hk; rw [h] at this; cases this
theorem nameB_len {s : ByteArray} (h : s.size = 0 ∨ 2 < s.size) : nameB s = false := by
  cases e : nameB s
  · rfl
  · have := nameB_iff.1 e; omega
theorem let_at {s : ByteArray} {k : Nat} (hk : k < s.size) : s[k]! = s[k] := getElem!_pos s k hk
theorem letB_lo {c : UInt8} (h : (c.toNat : Int) < 97) : letB c = false := by unfold letB; simp; omega
theorem letB_hi {c : UInt8} (h : 122 < (c.toNat : Int)) : letB c = false := by unfold letB; simp; omega
theorem letB_yes {c : UInt8} (h1 : ¬ (c.toNat : Int) < 97) (h2 : ¬ 122 < (c.toNat : Int)) : letB c = true := by unfold letB; simp; omega
set_option maxHeartbeats 1000000 in
theorem snameok_any (s : ByteArray) (w : World) (hs : s.size ≤ 9223372036854775807) :
    Calls Try.prog 14 #[.string s] w fun e w' => e = .returned (.bool (nameB s)) ∧ w = w' := by
  generalize hr : nameB s = res
  have HR := hid hr; clear hr
  go_enter Try.func14, Try.ntmps14
  go_wp2
  go_loop [3] (fun i => ∃ k : Nat, k ≤ s.size ∧ i = .int .i64 k ∧ ∀ j, j < k → letB s[j]! = true) (fun i => s.size - (intOf i).toNat)
  case atStart => exact ⟨0, Nat.zero_le _, rfl, fun j hj => by omega⟩
  case round =>
    obtain ⟨k, hk, rfl, he⟩ := hrel
    have HE := hid he; clear he
    by_cases hlt : k < s.size
    · have HL := hid (let_at hlt)
      by_cases h1 : (s[k].toNat : Int) < 97
      · have HF := hid (nameB_at hlt (by rw [HL.out]; exact letB_lo h1))
        go_wp2
        go_ret
        exact ⟨ret_bool (HF.out.symm.trans HR.out), rfl⟩
      · by_cases h2 : 122 < (s[k].toNat : Int)
        · have HF := hid (nameB_at hlt (by rw [HL.out]; exact letB_hi h2))
          have d1 : decide ((s[k].toNat : Int) < 97) = false := by simpa using h1
          go_wp2
          go_ret
          exact ⟨ret_bool (HF.out.symm.trans HR.out), rfl⟩
        · have HY := hid (letB_yes h1 h2)
          have d1 : decide ((s[k].toNat : Int) < 97) = false := by simpa using h1
          have d2 : decide (122 < (s[k].toNat : Int)) = false := by simpa using h2
          go_wp2
          go_round
          case rel =>
            refine ⟨k + 1, by omega, by go_num, fun j hj => ?_⟩
            by_cases e : j = k
            · subst e; rw [HL.out]; exact HY.out
            · exact HE.out j (by omega)
          case measure => simp [intOf]; omega
    · have hke : k = s.size := by omega
      by_cases h0 : 1 ≤ s.size
      · by_cases h2 : s.size ≤ 2
        · have HT := hid (nameB_iff.2 ⟨h0, h2, fun j hj => HE.out j (by omega)⟩)
          have HK := hid hke; clear hke
          have d3 : decide ((s.size : Int) ≤ 2) = true := by simp; omega
          go_wp2
          go_ret
          exact ⟨ret_bool (HT.out.symm.trans HR.out), rfl⟩
        · have HF := hid (nameB_len (s := s) (by omega))
          have d3 : decide ((s.size : Int) ≤ 2) = false := by simp; omega
          have HK := hid hke; clear hke
          go_wp2
          go_ret
          exact ⟨ret_bool (HF.out.symm.trans HR.out), rfl⟩
      · have HF := hid (nameB_len (s := s) (by omega))
        have HK := hid hke; clear hke
        go_wp2
        go_ret
        exact ⟨ret_bool (HF.out.symm.trans HR.out), rfl⟩
set_option maxHeartbeats 1000000 in
theorem nameok_go (s : ByteArray) (w : World) (hs : s.size ≤ 9223372036854775807) (res : Bool) (HR : Hid (nameB s = res)) (h1 : 1 ≤ s.size) (h2 : s.size ≤ 2) (d1 : ((s.size : Int) != 1) = false ∨ ((s.size : Int) != 1) = true ∧ ((s.size : Int) != 2) = false) :
    Calls Try.prog 7 #[.string s] w fun e w' => e = .returned (.bool res) ∧ w = w' := by
  rcases d1 with d1 | ⟨d1, d2⟩
  all_goals
    go_enter Try.func7, Try.ntmps7
    go_wp2
    go_loop [14] (fun i => ∃ k : Nat, k ≤ s.size ∧ i = .int .i64 k ∧ ∀ j, j < k → letB s[j]! = true) (fun i => s.size - (intOf i).toNat)
    case atStart => exact ⟨0, Nat.zero_le _, rfl, fun j hj => by omega⟩
    case round =>
      obtain ⟨k, hk, rfl, he⟩ := hrel
      have HE := hid he; clear he
      by_cases hlt : k < s.size
      · have HL := hid (let_at hlt)
        by_cases g1 : (s[k].toNat : Int) < 97
        · have HF := hid (nameB_at hlt (by rw [HL.out]; exact letB_lo g1))
          go_wp2
          go_ret
          exact ⟨ret_bool (HF.out.symm.trans HR.out), rfl⟩
        · by_cases g2 : 122 < (s[k].toNat : Int)
          · have HF := hid (nameB_at hlt (by rw [HL.out]; exact letB_hi g2))
            have d1 : decide ((s[k].toNat : Int) < 97) = false := by simpa using g1
            go_wp2
            go_ret
            exact ⟨ret_bool (HF.out.symm.trans HR.out), rfl⟩
          · have HY := hid (letB_yes g1 g2)
            have d1 : decide ((s[k].toNat : Int) < 97) = false := by simpa using g1
            have d2 : decide (122 < (s[k].toNat : Int)) = false := by simpa using g2
            go_wp2
            go_round
            case rel =>
              refine ⟨k + 1, by omega, by go_num, fun j hj => ?_⟩
              by_cases e : j = k
              · subst e; rw [HL.out]; exact HY.out
              · exact HE.out j (by omega)
            case measure => simp [intOf]; omega
      · have hke : k = s.size := by omega
        have HT := hid (nameB_iff.2 ⟨h1, h2, fun j hj => HE.out j (by omega)⟩)
        have HK := hid hke; clear hke
        go_wp2
        go_ret
        exact ⟨ret_bool (HT.out.symm.trans HR.out), rfl⟩
set_option maxHeartbeats 1000000 in
theorem nameok_any (s : ByteArray) (w : World) (hs : s.size ≤ 9223372036854775807) :
    Calls Try.prog 7 #[.string s] w fun e w' => e = .returned (.bool (nameB s)) ∧ w = w' := by
  generalize hr : nameB s = res
  have HR := hid hr; clear hr
  by_cases h1 : 1 ≤ s.size
  · by_cases h2 : s.size ≤ 2
    · exact nameok_go s w hs res HR h1 h2 (by by_cases e : s.size = 1; exact .inl (by simp [e]); exact .inr ⟨by simp; omega, by simp; omega⟩)
    · have HF := hid (nameB_len (s := s) (by omega))
      have d1 : ((s.size : Int) != 1) = true := by simp; omega
      have d2 : ((s.size : Int) != 2) = true := by simp; omega
      go_enter Try.func7, Try.ntmps7
      go_wp2
      go_ret
      exact ⟨ret_bool (HF.out.symm.trans HR.out), rfl⟩
  · have HF := hid (nameB_len (s := s) (by omega))
    have d1 : ((s.size : Int) != 1) = true := by simp; omega
    have d2 : ((s.size : Int) != 2) = true := by simp; omega
    go_enter Try.func7, Try.ntmps7
    go_wp2
    go_ret
    exact ⟨ret_bool (HF.out.symm.trans HR.out), rfl⟩
end Go.Proofs.Ytbhagobkkobgfaa
