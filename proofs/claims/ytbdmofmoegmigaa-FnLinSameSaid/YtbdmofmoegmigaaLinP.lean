/- Contract of the model's LinSame. -/
import Derived.Test.YtbdmofmoegmigaaLinN
namespace Go.Proofs.Ytbdmofmoegmigaa
set_option linter.unusedVariables false
set_option linter.unusedSimpArgs false
open Go.RowKit
set_option maxHeartbeats 2000000 in
theorem slinsame_loop (A B : Option Addr) (n c d : Nat) (Z Y : Nat → Int) (b : Int) (s : Bool) (w : World) (hn : n ≤ 9223372036854775806) (hA : Ints w A n Z) (hB : Ints w B n Y) :
    Calls Try.prog 43 #[.agg #[.slice A n c, .int .i64 b, .bool s], .agg #[.slice B n d, .int .i64 b, .bool s]] w fun e w' => e = .returned (.bool (eqI n Z n Y)) ∧ Below w.heap.size w w' := by
  generalize hr : eqI n Z n Y = res
  have HR := hid hr; clear hr
  have d1 : (b != b) = false := by simp
  have d2 : (s != s) = false := by simp
  have d0 : ((n : Int) != n) = false := by simp
  obtain ⟨p0, _, _⟩ := new3x w (.slice A n c) (.int .i64 b) (.bool s) 25 (.cells #[.slice B n d, .int .i64 b, .bool s] 25)
  go_enter Try.func43, Try.ntmps43
  go_wp2
  go_loopw [5] (fun i wr => ∃ k : Nat, k ≤ n ∧ i = .int .i64 k ∧ Below (w.heap.size + 2) ((w.alloc (.cells #[.slice A n c, .int .i64 b, .bool s] 25)).alloc (.cells #[.slice B n d, .int .i64 b, .bool s] 25)) wr ∧ ∀ j, j < k → Z j = Y j) (fun i _ => n - (intOf i).toNat)
  case atStart => exact ⟨0, Nat.zero_le _, rfl, Below.refl _ _, fun j hj => by omega⟩
  case round =>
    obtain ⟨k, hk, rfl, hb, he⟩ := hrel
    have HE := hid he; clear he
    have y0 : wr.cell? ⟨w.heap.size, 0, none⟩ = some (.slice A n c) := (hb.cell (p := ⟨w.heap.size, 0, none⟩) (by simp)).trans p0
    have y1 : wr.cell? ⟨w.heap.size + 1, 0, none⟩ = some (.slice B n d) := (hb.cell (p := ⟨w.heap.size + 1, 0, none⟩) (by simp)).trans (by simp [go_sem])
    have qr : Below w.heap.size w wr := (bal (bal (Below.refl w.heap.size w) _) _).trans (hb.mono (by omega))
    by_cases hlt : k < n
    · rcases hA with h0 | ⟨g, off, rfl, hg, hcA⟩
      · omega
      rcases hB with h0 | ⟨g2, off2, rfl, hg2, hcB⟩
      · omega
      have c1 : wr.cell? ⟨g, off + k, none⟩ = some (.int .i64 (Z k)) := (qr.cell (p := ⟨g, off + k, none⟩) hg).trans (hcA k hlt)
      have c2 : wr.cell? ⟨g2, off2 + k, none⟩ = some (.int .i64 (Y k)) := (qr.cell (p := ⟨g2, off2 + k, none⟩) hg2).trans (hcB k hlt)
      clear hcA hcB p0
      by_cases heq : Z k = Y k
      · have e1 : (Z k == Y k) = true := by simpa using heq
        have e2 : (Z k != Y k) = false := by simpa using heq
        have HQ := hid heq; clear heq
        go_wp2
        go_quiet (fail)
        go_wp2
        go_roundw
        case rel =>
          refine ⟨k + 1, by omega, by go_num, bdnn hb _, fun j hj => ?_⟩
          by_cases e : j = k
          · subst e; exact HQ.out
          · exact HE.out j (by omega)
        case measure => simp [intOf]; omega
      · have e1 : (Z k == Y k) = false := by simpa using heq
        have e2 : (Z k != Y k) = true := by simpa using heq
        have HF := hid (eqI_at (m := n) hlt heq); clear heq
        go_wp2
        go_quiet (fail)
        go_wp2
        go_ret
        exact ⟨ret_bool (by rw [← HR.out, HF.out]), bdn qr _⟩
    · have hke : k = n := by omega
      subst hke
      have HT := hid (eqI_iff.2 ⟨rfl, HE.out⟩)
      go_wp2
      go_ret
      exact ⟨ret_bool (by rw [← HR.out, HT.out]), qr⟩
set_option maxHeartbeats 2000000 in
theorem slinsame_any (A B : Option Addr) (n m c d : Nat) (Z Y : Nat → Int) (b b2 : Int) (s s2 : Bool) (w : World) (hn : n ≤ 9223372036854775806) (hm : m ≤ 9223372036854775806) (hA : Ints w A n Z) (hB : Ints w B m Y) :
    Calls Try.prog 43 #[.agg #[.slice A n c, .int .i64 b, .bool s], .agg #[.slice B m d, .int .i64 b2, .bool s2]] w fun e w' => e = .returned (.bool (eqL n Z b s m Y b2 s2)) ∧ Below w.heap.size w w' := by
  unfold eqL
  by_cases hnm : n = m
  · by_cases hb : b = b2
    · by_cases hs : s = s2
      · subst hnm hb hs
        rw [show (eqI n Z n Y && decide (b = b) && decide (s = s)) = eqI n Z n Y by simp]
        exact slinsame_loop A B n c d Z Y b s w hn hA hB
      · subst hnm hb
        have d1 : (b != b) = false := by simp
        have d0 : ((n : Int) != n) = false := by simp
        cases s <;> cases s2 <;> first | exact absurd rfl hs | skip
        all_goals
          clear hA hB hs
          go_enter Try.func43, Try.ntmps43
          go_wp2
          go_ret
          exact ⟨ret_bool (by simp), bal (bal (Below.refl _ _) _) _⟩
    · subst hnm
      have d0 : ((n : Int) != n) = false := by simp
      have d1 : (b != b2) = true := by simpa using hb
      have H := hid hb; clear hb hA hB
      go_enter Try.func43, Try.ntmps43
      go_wp2
      go_ret
      exact ⟨ret_bool (by simp [H.out]), bal (bal (Below.refl _ _) _) _⟩
  · have d0 : ((n : Int) != m) = true := by simp; omega
    rw [eqI_len hnm]
    clear hA hB hnm
    go_enter Try.func43, Try.ntmps43
    go_wp2
    go_ret
    exact ⟨rfl, bal (bal (Below.refl _ _) _) _⟩
end Go.Proofs.Ytbdmofmoegmigaa
