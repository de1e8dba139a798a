/- Contract of the model's l3Ok: a list of not too many valid constraints. -/
import Derived.Test.YtplocljoanaoeaaFarA
import Derived.Test.YtplocljoanaoeaaBI
namespace Go.Proofs.Ytplocljoanaoeaa
set_option linter.unusedVariables false
set_option linter.unusedSimpArgs false
open Go.RowKit
/-- a system: not too many constraints, all valid -/
def okS (n : Nat) (L : Lst) : Bool := decide (n ≤ 20 ∧ ∀ k, k < n → okL (L.N k) (L.Z k) (L.B k) = true)
theorem okS_iff {n : Nat} {L : Lst} : okS n L = true ↔ n ≤ 20 ∧ ∀ k, k < n → okL (L.N k) (L.Z k) (L.B k) = true := by unfold okS; exact decide_eq_true_iff
theorem okS_at {n k : Nat} {L : Lst} (hk : k < n) (h : okL (L.N k) (L.Z k) (L.B k) = false) : okS n L = false := by
  cases e : okS n L
  · rfl
  · have := (okS_iff.1 e).2 k hk; rw [h] at this; cases this
theorem okS_len {n : Nat} {L : Lst} (h : 20 < n) : okS n L = false := by
  cases e : okS n L
  · rfl
  · have := (okS_iff.1 e).1; omega
set_option maxRecDepth 100000 in
set_option maxHeartbeats 1000000 in
theorem sl3ok_any (A : Option Addr) (n c : Nat) (L : Lst) (w : World) (hn : n ≤ 9223372036854775806) (hA : Lins w A n L) (hN : ∀ k, k < n → L.N k ≤ 1048576) :
    Calls Try.prog 43 #[.slice A n c] w fun e w' => e = .returned (.bool (okS n L)) ∧ Below w.heap.size w w' := by
  generalize hr : okS n L = res
  have HR := hid hr; clear hr
  have HNN := hid hN; clear hN
  go_enter Try.func43, Try.ntmps43
  go_wp2
  go_loopw [3] (fun i wr => ∃ k : Nat, k ≤ n ∧ i = .int .i64 k ∧ Below w.heap.size w wr ∧ ∀ j, j < k → okL (L.N j) (L.Z j) (L.B j) = true) (fun i _ => n - (intOf i).toNat)
  case atStart => exact ⟨0, Nat.zero_le _, rfl, Below.refl _ _, fun j hj => by omega⟩
  case round =>
    obtain ⟨k, hk, rfl, hb, he⟩ := hrel
    have HE := hid he; clear he
    by_cases hlt : k < n
    · rcases hA with h0 | ⟨g, off, rfl, hg, hcA⟩
      · omega
      obtain ⟨a, ca, a0, a1, a2, _, hI⟩ := hcA k hlt
      have hNk : L.N k ≤ 9223372036854775806 := Nat.le_trans (HNN.out k hlt) (by omega)
      have gg : g < wr.heap.size := Nat.lt_of_lt_of_le hg hb.size
      replace a0 := carry hb a0
      replace a1 := carry hb a1
      replace a2 := carry hb a2
      replace hI := hI.below hb
      clear hcA
      cases hv : okL (L.N k) (L.Z k) (L.B k)
      · have hO := fun W h => slinok_at (c := ca) (s := L.S k) hNk hI hv W h
        have HF := hid (okS_at (n := n) hlt hv); clear hv
        go_wp2_with (go_at_call 65; refine (hO _ (Below.refl _ _)).mono ?_; rintro e w1 ⟨rfl, hq⟩)
        go_ret
        exact ⟨ret_bool (HF.out.symm.trans HR.out), btr hb hq⟩
      · have hO := fun W h => slinok_at (c := ca) (s := L.S k) hNk hI hv W h
        have HV := hid hv; clear hv
        go_wp2_with (go_at_call 65; refine (hO _ (Below.refl _ _)).mono ?_; rintro e w1 ⟨rfl, hq⟩)
        go_roundw
        case rel =>
          refine ⟨k + 1, by omega, by go_num, btr hb hq, fun j hj => ?_⟩
          by_cases e : j = k
          · subst e; exact HV.out
          · exact HE.out j (by omega)
        case measure => simp [intOf]; omega
    · have hke : k = n := by omega
      subst hke
      by_cases h20 : k ≤ 20
      · have HT := hid (okS_iff.2 ⟨h20, HE.out⟩)
        have hd : decide ((k : Int) ≤ 20) = true := by simp; omega
        go_wp2
        go_ret
        exact ⟨ret_bool (HT.out.symm.trans HR.out), hb⟩
      · have HF := hid (okS_len (L := L) (show 20 < k by omega))
        have hd : decide ((k : Int) ≤ 20) = false := by simp; omega
        go_wp2
        go_ret
        exact ⟨ret_bool (HF.out.symm.trans HR.out), hb⟩
end Go.Proofs.Ytplocljoanaoeaa
