/- Several texts in one: LinI, LinJ. -/
import Derived.Test.YtoechhdahokoiaaBL
namespace Go.Proofs.Ytoechhdahokoiaa
set_option linter.unusedVariables false
set_option linter.unusedSimpArgs false
open Go.RowKit
def e4 (z0 z1 z2 z3 : Int) : Bool := decide (z0 = 0 ∧ z1 = 0 ∧ z2 = 0 ∧ z3 = 0)
end Go.Proofs.Ytoechhdahokoiaa

namespace Go.Proofs.Ytoechhdahokoiaa
set_option linter.unusedVariables false
set_option linter.unusedSimpArgs false
open Go.RowKit
set_option maxHeartbeats 1000000 in
theorem sleq_any (A B : Option Addr) (n m c d : Nat) (Z Y : Nat → Int) (w : World) (hn : n ≤ 9223372036854775807) (hm : m ≤ 9223372036854775807) (hA : Ints w A n Z) (hB : Ints w B m Y) :
    Calls Try.prog 39 #[.slice A n c, .slice B m d] w fun e w' => e = .returned (.bool (eqI n Z m Y)) ∧ Below w.heap.size w w' := by
  by_cases hnm : n = m
  · subst hnm
    generalize hr : eqI n Z n Y = res
    have HR := hid hr; clear hr
    go_enter Try.func39, Try.ntmps39
    go_wp2
    go_loopw [13] (fun i wr => ∃ k : Nat, k ≤ n ∧ i = .int .i64 k ∧ Below w.heap.size w wr ∧ ∀ j, j < k → Z j = Y j) (fun i _ => n - (intOf i).toNat)
    case atStart => exact ⟨0, Nat.zero_le _, rfl, Below.refl _ _, fun j hj => by omega⟩
    case round =>
      obtain ⟨k, hk, rfl, hb, he⟩ := hrel
      have HE := hid he; clear he
      by_cases hlt : k < n
      · rcases hA with h0 | ⟨g, off, rfl, hg, hcA⟩
        · omega
        rcases hB with h0 | ⟨g2, off2, rfl, hg2, hcB⟩
        · omega
        have c1 : wr.cell? ⟨g, off + k, none⟩ = some (.int .i64 (Z k)) := (hb.cell (p := ⟨g, off + k, none⟩) hg).trans (hcA k hlt)
        have c2 : wr.cell? ⟨g2, off2 + k, none⟩ = some (.int .i64 (Y k)) := (hb.cell (p := ⟨g2, off2 + k, none⟩) hg2).trans (hcB k hlt)
        clear hcA hcB
        by_cases heq : Z k = Y k
        · have e1 : (Z k == Y k) = true := by simpa using heq
          have e2 : (Z k != Y k) = false := by simpa using heq
          have HQ := hid heq; clear heq
          go_wp2
          go_region
          all_goals
            go_wp2
            go_roundw
            case rel =>
              refine ⟨k + 1, by omega, by go_num, hb.drew, fun j hj => ?_⟩
              by_cases e : j = k
              · subst e; exact HQ.out
              · exact HE.out j (by omega)
            case measure => simp [intOf]; omega
        · have e1 : (Z k == Y k) = false := by simpa using heq
          have e2 : (Z k != Y k) = true := by simpa using heq
          have HF := hid (eqI_at (m := n) hlt heq); clear heq
          go_wp2
          go_region
          all_goals
            go_wp2
            go_ret
            exact ⟨ret_bool (by rw [← HR.out, HF.out]), hb.drew⟩
      · have hke : k = n := by omega
        subst hke
        have HT := hid (eqI_iff.2 ⟨rfl, HE.out⟩)
        go_wp2
        go_ret
        exact ⟨ret_bool (by rw [← HR.out, HT.out]), hb⟩
  · rw [eqI_len hnm]
    have e1 : ((n : Int) == m) = false := by simp; omega
    have e2 : ((n : Int) != m) = true := by simp; omega
    go_enter Try.func39, Try.ntmps39
    go_wp2
    go_ret
    exact ⟨rfl, Below.refl _ _⟩
end Go.Proofs.Ytoechhdahokoiaa
