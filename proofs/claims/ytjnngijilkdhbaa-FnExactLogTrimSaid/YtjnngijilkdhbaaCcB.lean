/- Contracts of CnfOk, of the program and of the model. -/
import Derived.Test.YtjnngijilkdhbaaCcA
namespace Go.Proofs.Ytjnngijilkdhbaa
set_option linter.unusedVariables false
set_option linter.unusedSimpArgs false
open Go.RowKit
/-- a formula in conjunctive normal form of m variables -/
def cnB (n : Nat) (L : Lls) (m : Int) : Bool := decide (0 ≤ m ∧ m ≤ 60 ∧ n ≤ 400 ∧ ∀ k, k < n → okC (L.N k) (L.Z k) m = true)
theorem cnB_iff {n : Nat} {L : Lls} {m : Int} : cnB n L m = true ↔ 0 ≤ m ∧ m ≤ 60 ∧ n ≤ 400 ∧ ∀ k, k < n → okC (L.N k) (L.Z k) m = true := by unfold cnB; exact decide_eq_true_iff
theorem cnB_no {n : Nat} {L : Lls} {m : Int} (h : ¬ (0 ≤ m ∧ m ≤ 60 ∧ n ≤ 400 ∧ ∀ k, k < n → okC (L.N k) (L.Z k) m = true)) : cnB n L m = false := by
  cases e : cnB n L m
  · rfl
  · exact absurd (cnB_iff.1 e) h
theorem pure_below {w w' : World} {e v : Ending} (h : e = v ∧ w = w') : e = v ∧ Below w.heap.size w w' := ⟨h.1, h.2 ▸ Below.refl _ _⟩
set_option maxHeartbeats 2000000 in
theorem scnfok_any (A : Option Addr) (n c : Nat) (L : Lls) (m : Int) (w : World) (hn : n ≤ 9223372036854775807) (hA : IntSS w A n L) :
    Calls Try.prog 32 #[.agg #[.int .i64 m, .slice A n c]] w fun e w' => e = .returned (.bool (cnB n L m)) ∧ Below w.heap.size w w' := by
  have q0 := bal (Below.refl w.heap.size w) (.cells #[.int .i64 m, .slice A n c] 31)
  obtain ⟨b0, b1⟩ := pair_new w (.int .i64 m) (.slice A n c) 31
  generalize hr : cnB n L m = res
  have HR := hid hr; clear hr
  by_cases h1 : m < 0
  · have HF := hid (cnB_no (n := n) (L := L) (m := m) (fun h => by have := h.1; omega))
    have d1 : decide (m < 0) = true := by simpa using h1
    clear h1
    go_enter Try.func32, Try.ntmps32
    go_wp2
    go_ret
    exact ⟨ret_bool (HF.out.symm.trans HR.out), q0⟩
  have d1 : decide (m < 0) = false := by simpa using h1
  by_cases h2 : 60 < m
  · have HF := hid (cnB_no (n := n) (L := L) (m := m) (fun h => by have := h.2.1; omega))
    have d2 : decide (60 < m) = true := by simpa using h2
    clear h1 h2
    go_enter Try.func32, Try.ntmps32
    go_wp2
    go_ret
    exact ⟨ret_bool (HF.out.symm.trans HR.out), q0⟩
  have d2 : decide (60 < m) = false := by simpa using h2
  by_cases h3 : 400 < n
  · have HF := hid (cnB_no (n := n) (L := L) (m := m) (fun h => by have := h.2.2.1; omega))
    clear h1 h2
    go_enter Try.func32, Try.ntmps32
    go_wp2
    go_ret
    exact ⟨ret_bool (HF.out.symm.trans HR.out), q0⟩
  have h3' : n ≤ 400 := by omega
  have HM := hid (show 0 ≤ m ∧ m ≤ 60 from ⟨by omega, by omega⟩)
  clear h1 h2
  go_enter Try.func32, Try.ntmps32
  go_wp2
  go_loopw [3] (fun i wr => ∃ k : Nat, k ≤ n ∧ i = .int .i64 k ∧ Below (w.alloc (.cells #[.int .i64 m, .slice A n c] 31)).heap.size (w.alloc (.cells #[.int .i64 m, .slice A n c] 31)) wr ∧ ∀ j, j < k → okC (L.N j) (L.Z j) m = true) (fun i _ => n - (intOf i).toNat)
  case atStart => exact ⟨0, Nat.zero_le _, rfl, Below.refl _ _, fun j hj => by omega⟩
  case round =>
    obtain ⟨k, hk, rfl, hb, he⟩ := hrel
    have HE := hid he; clear he
    replace b0 := carry hb b0
    replace b1 := carry hb b1
    have q1 := btr q0 hb
    have l0 := cell_lt b0
    by_cases hlt : k < n
    · rcases hA with h0 | ⟨g, off, rfl, hg, hcA⟩
      · omega
      obtain ⟨a, ca, a0, hNk, hI⟩ := hcA k hlt
      have gg : g < wr.heap.size := Nat.lt_of_lt_of_le hg q1.size
      replace a0 := carry q1 a0
      replace hI := hI.below q1
      have hE := fun X : Gro wr => (sclauseok_any a (L.N k) ca (L.Z k) m (gro wr X) hNk (hI.below X.h)).mono fun e w' => pure_below
      clear hcA hI
      have gc := @gro_cell wr
      cases hv : okC (L.N k) (L.Z k) m
      · rw [hv] at hE
        have HF := hid (cnB_no (n := n) (L := L) (m := m) (fun h => by have := h.2.2.2 k hlt; rw [hv] at this; cases this)); clear hv
        go_upto_region 6 with fail
        refine wp_region_grow_lit (by kernel_rfl) (by kernel_rfl) ?_
        repeat (go_big_quiet_step ((go_at_call 45; exact grow_call _ (hE _))))
        refine wpQuiet_nil ?_
        rintro _ ⟨X, rfl⟩
        clear gc
        go_wp2
        go_ret
        exact ⟨ret_bool (HF.out.symm.trans HR.out), btr q1 X.h⟩
      · rw [hv] at hE
        have HQ := hid hv; clear hv
        go_upto_region 6 with fail
        refine wp_region_grow_lit (by kernel_rfl) (by kernel_rfl) ?_
        repeat (go_big_quiet_step ((go_at_call 45; exact grow_call _ (hE _))))
        refine wpQuiet_nil ?_
        rintro _ ⟨X, rfl⟩
        clear gc
        go_wp2
        go_roundw
        case rel =>
          refine ⟨k + 1, by omega, by go_num, btr hb X.h, fun j hj => ?_⟩
          by_cases e : j = k
          · subst e; exact HQ.out
          · exact HE.out j (by omega)
        case measure => simp [intOf]; omega
    · have hke : k = n := by omega
      subst hke
      have HT := hid (cnB_iff.2 ⟨HM.out.1, HM.out.2, h3', HE.out⟩)
      clear h3 h3'
      go_wp2
      go_ret
      exact ⟨ret_bool (HT.out.symm.trans HR.out), q1⟩
end Go.Proofs.Ytjnngijilkdhbaa
