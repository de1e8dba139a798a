/- Contracts of the number functions under the fractions: both gcd, both absolute values, the range. -/
import Derived.Test.YtbdmofmoegmigaaBase
import Derived.Test.YtbdmofmoegmigaaMath
import Derived.WalkKit
import Derived.WalkLawsBesides
import Derived.WalkSpells
import Derived.RegionTactic
import Derived.Deep.QuietTactic
import Derived.BigQuiet
import Derived.LoopTactic
import Derived.Outline
namespace Go.Proofs.Ytbdmofmoegmigaa
set_option linter.unusedVariables false
set_option linter.unusedSimpArgs false
open Go.RowKit

theorem gcd_any (a b : Int) (w : World) (ha : 0 ≤ a) (ha' : a ≤ 4000000000000000000) (hb : 0 ≤ b) (hb' : b ≤ 4000000000000000000) :
    Calls Try.prog 145 #[.int .i64 a, .int .i64 b] w fun e w' => e = .returned (.int .i64 (Int.gcd a b)) ∧ ∃ n, w' = w.drewN n := by
  go_enter Try.func145, Try.ntmps145
  go_wp2
  go_loopw [0, 1] (fun x y wr => ∃ p q : Int, 0 ≤ p ∧ p ≤ 4000000000000000000 ∧ 0 ≤ q ∧ q ≤ 4000000000000000000 ∧ x = .int .i64 p ∧ y = .int .i64 q ∧ Int.gcd p q = Int.gcd a b ∧ ∃ n, wr = w.drewN n) (fun _ y _ => (intOf y).toNat)
  case atStart => exact ⟨a, b, ha, ha', hb, hb', rfl, rfl, rfl, 0, rfl⟩
  case round =>
    obtain ⟨p, q, hp, hp', hq, hq', rfl, rfl, hg, n, rfl⟩ := hrel
    have HG := hid hg
    clear hg
    by_cases hz : q = 0
    · subst hz
      go_wp2
      go_ret
      refine ⟨ret_int ?_, n, rfl⟩
      have := HG.out
      rw [Int.gcd_zero] at this
      omega
    · have hq0 : 0 < q := by omega
      go_wp2
      have hm0 := Int.emod_nonneg p (show q ≠ 0 by omega)
      have hm1 := Int.emod_lt_of_pos p hq0
      go_region
      all_goals
        go_roundw
        case rel => (repeat apply Exists.intro); exact ⟨⟨q, p % q, by omega, by omega, by omega, by omega, rfl, rfl, (gcd_emod' p q).trans HG.out, n + 1, rfl⟩, rfl⟩
        case measure => simp [intOf]; omega

theorem lgcd_any (a b : Int) (w : World) (ha : 0 ≤ a) (ha' : a ≤ 4000000000000000000) (hb : 0 ≤ b) (hb' : b ≤ 4000000000000000000) :
    Calls Try.prog 154 #[.int .i64 a, .int .i64 b] w fun e w' => e = .returned (.int .i64 (Int.gcd a b)) ∧ ∃ n, w' = w.drewN n := by
  go_enter Try.func154, Try.ntmps154
  go_wp2
  go_loopw [0, 1] (fun x y wr => ∃ p q : Int, 0 ≤ p ∧ p ≤ 4000000000000000000 ∧ 0 ≤ q ∧ q ≤ 4000000000000000000 ∧ x = .int .i64 p ∧ y = .int .i64 q ∧ Int.gcd p q = Int.gcd a b ∧ ∃ n, wr = w.drewN n) (fun _ y _ => (intOf y).toNat)
  case atStart => exact ⟨a, b, ha, ha', hb, hb', rfl, rfl, rfl, 0, rfl⟩
  case round =>
    obtain ⟨p, q, hp, hp', hq, hq', rfl, rfl, hg, n, rfl⟩ := hrel
    have HG := hid hg
    clear hg
    by_cases hz : q = 0
    · subst hz
      go_wp2
      go_ret
      refine ⟨ret_int ?_, n, rfl⟩
      have := HG.out
      rw [Int.gcd_zero] at this
      omega
    · have hq0 : 0 < q := by omega
      go_wp2
      have hm0 := Int.emod_nonneg p (show q ≠ 0 by omega)
      have hm1 := Int.emod_lt_of_pos p hq0
      go_region
      all_goals
        go_roundw
        case rel => (repeat apply Exists.intro); exact ⟨⟨q, p % q, by omega, by omega, by omega, by omega, rfl, rfl, (gcd_emod' p q).trans HG.out, n + 1, rfl⟩, rfl⟩
        case measure => simp [intOf]; omega

theorem abs_any (a : Int) (w : World) (ha : -4000000000000000000 ≤ a) (ha' : a ≤ 4000000000000000000) :
    Calls Try.prog 146 #[.int .i64 a] w fun e w' => e = .returned (.int .i64 (a.natAbs : Int)) ∧ w' = w := by
  by_cases h : a < 0
  · go_enter Try.func146, Try.ntmps146
    go_wp2
    go_ret
    exact ⟨ret_int (by omega), rfl⟩
  · go_enter Try.func146, Try.ntmps146
    go_wp2
    go_ret
    exact ⟨ret_int (by omega), rfl⟩

def inB (n : Int) : Bool := decide (-1000000000 ≤ n ∧ n ≤ 1000000000)
theorem range_any (n : Int) (w : World) :
    Calls Try.prog 144 #[.int .i64 n] w fun e w' => e = .returned (.bool (inB n)) ∧ w' = w := by
  by_cases h : -1000000000 ≤ n
  · by_cases h2 : n ≤ 1000000000
    · go_enter Try.func144, Try.ntmps144
      go_wp2
      go_ret
      exact ⟨ret_bool (by simp [inB]; omega), rfl⟩
    · go_enter Try.func144, Try.ntmps144
      go_wp2
      go_ret
      exact ⟨ret_bool (by simp [inB]; omega), rfl⟩
  · go_enter Try.func144, Try.ntmps144
    go_wp2
    go_ret
    exact ⟨ret_bool (by simp [inB]; omega), rfl⟩

def labs (n : Int) : Int := if n < -1000000000 ∨ n > 1000000000 then 1000000001 else n.natAbs
theorem labs_any (n : Int) (w : World) :
    Calls Try.prog 147 #[.int .i64 n] w fun e w' => e = .returned (.int .i64 (labs n)) ∧ w' = w := by
  by_cases h : n < -1000000000
  · go_enter Try.func147, Try.ntmps147
    go_wp2
    go_ret
    exact ⟨ret_int (by simp [labs]; omega), rfl⟩
  · by_cases h2 : n > 1000000000
    · go_enter Try.func147, Try.ntmps147
      go_wp2
      go_ret
      exact ⟨ret_int (by simp [labs]; omega), rfl⟩
    · by_cases h3 : n < 0
      · go_enter Try.func147, Try.ntmps147
        go_wp2
        go_ret
        exact ⟨ret_int (by simp [labs]; omega), rfl⟩
      · go_enter Try.func147, Try.ntmps147
        go_wp2
        go_ret
        exact ⟨ret_int (by simp [labs]; omega), rfl⟩
end Go.Proofs.Ytbdmofmoegmigaa
