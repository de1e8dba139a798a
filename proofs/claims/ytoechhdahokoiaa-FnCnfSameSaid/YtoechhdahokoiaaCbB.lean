/- Contracts of ClauseIs, of the program and of the model; walk of its exact law. -/
import Derived.Test.YtoechhdahokoiaaCbA
namespace Go.Proofs.Ytoechhdahokoiaa
set_option linter.unusedVariables false
set_option linter.unusedSimpArgs false
open Go.RowKit
/-- a clause that is true -/
def clB (n : Nat) (Z : Nat → Int) (N : Nat) (V : Nat → Bool) : Bool := decide (∃ k, k < n ∧ isC (Z k) N V = true)
theorem clB_iff {n N : Nat} {Z : Nat → Int} {V : Nat → Bool} : clB n Z N V = true ↔ ∃ k, k < n ∧ isC (Z k) N V = true := by unfold clB; exact decide_eq_true_iff
theorem clB_no {n N : Nat} {Z : Nat → Int} {V : Nat → Bool} (h : ∀ k, k < n → isC (Z k) N V = false) : clB n Z N V = false := by
  cases e : clB n Z N V
  · rfl
  · obtain ⟨k, hk, h1⟩ := clB_iff.1 e
    rw [h k hk] at h1
    cases h1
theorem isC_zero {N : Nat} {V : Nat → Bool} {x : Int} (h : x = 0) : isC x N V = false := isC_no (ofC_no (fun e => e.1 h))
set_option maxHeartbeats 1000000 in
theorem sclauseis_any (A B : Option Addr) (n c N cB : Nat) (Z : Nat → Int) (V : Nat → Bool) (w : World) (hn : n ≤ 9223372036854775807) (hN : N ≤ 9223372036854775807) (hA : Ints w A n Z) (hB : Bools w B N V) :
    Calls Try.prog 32 #[.slice A n c, .slice B N cB] w fun e w' => e = .returned (.bool (clB n Z N V)) ∧ w = w' := by
  have hS := fun x W (h : w = W) => sis_any x B N cB V W hN (h ▸ hB)
  clear hB
  generalize hr : clB n Z N V = res
  have HR := hid hr; clear hr
  go_enter Try.func32, Try.ntmps32
  go_wp2
  go_loop [5] (fun i => ∃ k : Nat, k ≤ n ∧ i = .int .i64 k ∧ ∀ j, j < k → isC (Z j) N V = false) (fun i => n - (intOf i).toNat)
  case atStart => exact ⟨0, Nat.zero_le _, rfl, fun j hj => by omega⟩
  case round =>
    obtain ⟨k, hk, rfl, he⟩ := hrel
    have HE := hid he; clear he
    by_cases hlt : k < n
    · rcases hA with h0 | ⟨g, off, rfl, hg, hcA⟩
      · omega
      have c1 := hcA k hlt
      clear hcA
      by_cases h0 : Z k = 0
      · have d1 : (Z k != 0) = false := by simpa using h0
        have HQ := hid (isC_zero (N := N) (V := V) h0)
        clear h0
        go_wp2
        go_round
        case rel =>
          refine ⟨k + 1, by omega, by go_num, fun j hj => ?_⟩
          by_cases e : j = k
          · subst e; exact HQ.out
          · exact HE.out j (by omega)
        case measure => simp [intOf]; omega
      · have d1 : (Z k != 0) = true := by simpa using h0
        clear h0
        have hS1 := hS (Z k)
        cases hv : isC (Z k) N V
        · rw [hv] at hS1
          have HQ := hid hv; clear hv
          go_wp2_with (go_at_call 55; refine (hS1 _ rfl).mono ?_; rintro e w1 ⟨rfl, rfl⟩)
          go_round
          case rel =>
            refine ⟨k + 1, by omega, by go_num, fun j hj => ?_⟩
            by_cases e : j = k
            · subst e; exact HQ.out
            · exact HE.out j (by omega)
          case measure => simp [intOf]; omega
        · rw [hv] at hS1
          have HT := hid (clB_iff.2 ⟨k, hlt, hv⟩); clear hv
          go_wp2_with (go_at_call 55; refine (hS1 _ rfl).mono ?_; rintro e w1 ⟨rfl, rfl⟩)
          go_ret
          exact ⟨ret_bool (HT.out.symm.trans HR.out), rfl⟩
    · have hke : k = n := by omega
      subst hke
      have HF := hid (clB_no HE.out)
      go_wp2
      go_ret
      exact ⟨ret_bool (HF.out.symm.trans HR.out), rfl⟩
theorem clis1_any (x : Int) (b : Nat) (B : Option Addr) (N cB : Nat) (V : Nat → Bool) (w : World) (hN : N ≤ 9223372036854775807) (hB : Bools w B N V) (hb : w.cell? ⟨b, 0, none⟩ = some (.slice B N cB)) (r : Bool) (hr : isC x N V = r) :
    Calls Try.prog 35 #[.int .i64 x, .pointer (some ⟨b, 0, none⟩)] w fun e w' => e = .returned (.bool r) ∧ w = w' := by
  have hI := is_any x B N cB V w hN hB
  rw [hr] at hI
  clear hB
  go_enter Try.func35, Try.ntmps35
  go_wp2_with (go_at_call 36; refine hI.mono ?_; rintro e w1 ⟨rfl, rfl⟩)
  go_ret
  exact ⟨rfl, rfl⟩
set_option maxHeartbeats 1000000 in
theorem ifi_any (A B : Option Addr) (n c N cB b : Nat) (Z : Nat → Int) (V : Nat → Bool) (w : World) (hn : n ≤ 9223372036854775807) (hN : N ≤ 9223372036854775807) (hA : Ints w A n Z) (hB : Bools w B N V) (hb : w.cell? ⟨b, 0, none⟩ = some (.slice B N cB)) :
    Calls Try.prog 56 #[.slice A n c, .func (.func 35) #[] #[.pointer (some ⟨b, 0, none⟩)]] w fun e w' => (∃ r : Int, e = .returned (.int .i64 r) ∧ decide (0 ≤ r) = clB n Z N V) ∧ w = w' := by
  have hS := fun x r (h : isC x N V = r) W (h2 : w = W) => clis1_any x b B N cB V W hN (h2 ▸ hB) (h2 ▸ hb) r h
  clear hB hb
  go_enter Try.func56, Try.ntmps56
  go_wp2
  go_loop [8] (fun i => ∃ k : Nat, k ≤ n ∧ i = .int .i64 k ∧ ∀ j, j < k → isC (Z j) N V = false) (fun i => n - (intOf i).toNat)
  case atStart => exact ⟨0, Nat.zero_le _, rfl, fun j hj => by omega⟩
  case round =>
    obtain ⟨k, hk, rfl, he⟩ := hrel
    have HE := hid he; clear he
    by_cases hlt : k < n
    · rcases hA with h0 | ⟨g, off, rfl, hg, hcA⟩
      · omega
      have c1 := hcA k hlt
      clear hcA
      cases hv : isC (Z k) N V
      · have hS1 := hS _ _ hv
        have HQ := hid hv; clear hv
        go_wp2_with (go_at_call 35; refine (hS1 _ rfl).mono ?_; rintro e w1 ⟨rfl, rfl⟩)
        go_round
        case rel =>
          refine ⟨k + 1, by omega, by go_num, fun j hj => ?_⟩
          by_cases e : j = k
          · subst e; exact HQ.out
          · exact HE.out j (by omega)
        case measure => simp [intOf]; omega
      · have hS1 := hS _ _ hv
        have HT := hid (clB_iff.2 ⟨k, hlt, hv⟩); clear hv
        go_wp2_with (go_at_call 35; refine (hS1 _ rfl).mono ?_; rintro e w1 ⟨rfl, rfl⟩)
        go_ret
        exact ⟨⟨k, rfl, by rw [HT.out]; simp⟩, rfl⟩
    · have hke : k = n := by omega
      subst hke
      have HF := hid (clB_no HE.out)
      go_wp2
      go_ret
      exact ⟨⟨-1, rfl, by rw [HF.out]; simp⟩, rfl⟩
theorem clauseis_any (A B : Option Addr) (n c N cB : Nat) (Z : Nat → Int) (V : Nat → Bool) (w : World) (hn : n ≤ 9223372036854775807) (hN : N ≤ 9223372036854775807) (hA : Ints w A n Z) (hB : Bools w B N V) :
    Calls Try.prog 14 #[.slice A n c, .slice B N cB] w fun e w' => e = .returned (.bool (clB n Z N V)) ∧ Below w.heap.size w w' := by
  have q0 := bal (Below.refl w.heap.size w) (.cells #[.slice B N cB] 26)
  have hb : (w.alloc (.cells #[.slice B N cB] 26)).cell? ⟨w.heap.size, 0, none⟩ = some (.slice B N cB) := by simp [go_sem]
  have hI := ifi_any A B n c N cB w.heap.size Z V _ hn hN (hA.below q0) (hB.below q0) hb
  have hC : Calls Try.prog 34 #[.slice A n c, .func (.func 35) #[] #[.pointer (some ⟨w.heap.size, 0, none⟩)]] (w.alloc (.cells #[.slice B N cB] 26)) fun e w' => e = .returned (.bool (clB n Z N V)) ∧ w.alloc (.cells #[.slice B N cB] 26) = w' := by
    clear hA hB hb
    go_enter Try.func34, Try.ntmps34
    go_wp2_with (go_at_call 56; refine hI.mono ?_; rintro e w1 ⟨⟨r, rfl, hr⟩, rfl⟩)
    go_ret
    exact ⟨rfl, rfl⟩
  clear hI hA hB hb
  go_enter Try.func14, Try.ntmps14
  go_wp2_with (go_at_call 34; refine hC.mono ?_; rintro e w1 ⟨rfl, rfl⟩)
  go_ret
  exact ⟨rfl, q0⟩
end Go.Proofs.Ytoechhdahokoiaa
