/- Contracts of ClauseOk, of the program and of the model. -/
import Derived.Test.YtjnngijilkdhbaaBL
namespace Go.Proofs.Ytjnngijilkdhbaa
set_option linter.unusedVariables false
set_option linter.unusedSimpArgs false
open Go.RowKit
/-- the variable of a literal, 61 if it is past the greatest -/
def ab6 (x : Int) : Int := if x < -60 ∨ 60 < x then 61 else if x < 0 then -x else x
def pv6 (Z : Nat → Int) : Nat → Int
  | 0 => 0
  | k + 1 => ab6 (Z k)
theorem ab6_in {x : Int} (h1 : -60 ≤ x) (h2 : x ≤ 60) : ab6 x = if x < 0 then -x else x := by unfold ab6; rw [if_neg (by omega)]
theorem ab6_out {x : Int} (h : x < -60 ∨ 60 < x) : ab6 x = 61 := by unfold ab6; rw [if_pos h]
theorem ab6_rng (x : Int) : 0 ≤ ab6 x ∧ ab6 x ≤ 61 := by unfold ab6; split <;> (try split) <;> omega
theorem ab6_le {x m : Int} (hm : m ≤ 60) (h : ab6 x ≤ m) : -m ≤ x ∧ x ≤ m ∧ -60 ≤ x ∧ x ≤ 60 := by
  unfold ab6 at h; split at h
  · omega
  · split at h <;> omega
/-- a clause of the variables 1 to m -/
def OkC (n : Nat) (Z : Nat → Int) (m : Int) : Prop := 0 ≤ m ∧ m ≤ 60 ∧ ∀ k, k < n → pv6 Z k < ab6 (Z k) ∧ ab6 (Z k) ≤ m
instance {n : Nat} {Z : Nat → Int} {m : Int} : Decidable (OkC n Z m) := by unfold OkC; infer_instance
def okC (n : Nat) (Z : Nat → Int) (m : Int) : Bool := decide (OkC n Z m)
theorem okC_iff {n : Nat} {Z : Nat → Int} {m : Int} : okC n Z m = true ↔ OkC n Z m := by unfold okC; exact decide_eq_true_iff
theorem okC_no {n : Nat} {Z : Nat → Int} {m : Int} (h : ¬ OkC n Z m) : okC n Z m = false := by
  cases e : okC n Z m
  · rfl
  · exact absurd (okC_iff.1 e) h
theorem okC_congr {n : Nat} {Z Y : Nat → Int} {m : Int} (h : ∀ k, k < n → Z k = Y k) : okC n Z m = okC n Y m := by
  have hp : ∀ k, k < n → pv6 Z k = pv6 Y k := fun k hk => by
    cases k with
    | zero => rfl
    | succ k => show ab6 _ = ab6 _; rw [h k (by omega)]
  unfold okC OkC
  congr 1
  refine propext ⟨fun ⟨a, b, c⟩ => ⟨a, b, fun k hk => ?_⟩, fun ⟨a, b, c⟩ => ⟨a, b, fun k hk => ?_⟩⟩
  · rw [← h k hk, ← hp k hk]; exact c k hk
  · rw [h k hk, hp k hk]; exact c k hk
set_option maxHeartbeats 1000000 in
theorem sabs_any (x : Int) (w : World) :
    Calls Try.prog 51 #[.int .i64 x] w fun e w' => e = .returned (.int .i64 (ab6 x)) ∧ w = w' := by
  by_cases h1 : x < -60
  · rw [ab6_out (.inl h1)]
    go_enter Try.func51, Try.ntmps51
    go_wp2
    go_ret
    exact ⟨rfl, rfl⟩
  · by_cases h2 : 60 < x
    · rw [ab6_out (.inr h2)]
      have d1 : decide (x < -60) = false := by simpa using h1
      go_enter Try.func51, Try.ntmps51
      go_wp2
      go_ret
      exact ⟨rfl, rfl⟩
    · have d1 : decide (x < -60) = false := by simpa using h1
      have d2 : decide (60 < x) = false := by simpa using h2
      by_cases h3 : x < 0
      · rw [(ab6_in (x := x) (by omega) (by omega)).trans (if_pos h3)]
        go_enter Try.func51, Try.ntmps51
        go_wp2
        go_ret
        exact ⟨rfl, rfl⟩
      · rw [(ab6_in (x := x) (by omega) (by omega)).trans (if_neg h3)]
        go_enter Try.func51, Try.ntmps51
        go_wp2
        go_ret
        exact ⟨rfl, rfl⟩
/-- a literal of the variables 1 to m -/
def ofC (x m : Int) : Bool := decide (x ≠ 0 ∧ -m ≤ x ∧ x ≤ m)
theorem ofC_iff {x m : Int} : ofC x m = true ↔ x ≠ 0 ∧ -m ≤ x ∧ x ≤ m := by unfold ofC; exact decide_eq_true_iff
theorem ofC_no {x m : Int} (h : ¬ (x ≠ 0 ∧ -m ≤ x ∧ x ≤ m)) : ofC x m = false := by
  cases e : ofC x m
  · rfl
  · exact absurd (ofC_iff.1 e) h
set_option maxHeartbeats 1000000 in
theorem of_lit (x m : Int) (w : World) (hm : -9223372036854775807 ≤ m ∧ m ≤ 9223372036854775807) :
    Calls Try.prog 41 #[.int .i64 x, .int .i64 m] w fun e w' => e = .returned (.bool (ofC x m)) ∧ w = w' := by
  obtain ⟨m1, m2⟩ := hm
  generalize hr : ofC x m = res
  have HR := hid hr; clear hr
  by_cases h0 : x = 0
  · have HF := hid (ofC_no (x := x) (m := m) (fun h => h.1 h0))
    have d1 : (x != 0) = false := by simpa using h0
    clear h0
    go_enter Try.func41, Try.ntmps41
    go_wp2
    go_ret
    exact ⟨ret_bool (HF.out.symm.trans HR.out), rfl⟩
  · have d1 : (x != 0) = true := by simpa using h0
    by_cases h1 : -m ≤ x
    · have d2 : decide (-m ≤ x) = true := by simpa using h1
      by_cases h2 : x ≤ m
      · have HF := hid (ofC_iff.2 ⟨h0, h1, h2⟩)
        have d3 : decide (x ≤ m) = true := by simpa using h2
        clear h0 h1 h2
        go_enter Try.func41, Try.ntmps41
        go_wp2
        go_ret
        exact ⟨ret_bool (HF.out.symm.trans HR.out), rfl⟩
      · have HF := hid (ofC_no (x := x) (m := m) (fun h => h2 h.2.2))
        have d3 : decide (x ≤ m) = false := by simpa using h2
        clear h0 h1 h2
        go_enter Try.func41, Try.ntmps41
        go_wp2
        go_ret
        exact ⟨ret_bool (HF.out.symm.trans HR.out), rfl⟩
    · have HF := hid (ofC_no (x := x) (m := m) (fun h => h1 h.2.1))
      have d2 : decide (-m ≤ x) = false := by simpa using h1
      clear h0 h1
      go_enter Try.func41, Try.ntmps41
      go_wp2
      go_ret
      exact ⟨ret_bool (HF.out.symm.trans HR.out), rfl⟩
def vrC (x : Int) : Int := if x < 0 then -x else x
theorem vrC_of {x : Int} (h1 : -60 ≤ x) (h2 : x ≤ 60) : vrC x = ab6 x := (ab6_in h1 h2).symm
set_option maxHeartbeats 1000000 in
theorem variable_any (x : Int) (w : World) (hx : -9223372036854775807 ≤ x ∧ x ≤ 9223372036854775807) :
    Calls Try.prog 55 #[.int .i64 x] w fun e w' => e = .returned (.int .i64 (vrC x)) ∧ w = w' := by
  obtain ⟨x1, x2⟩ := hx
  by_cases h : x < 0
  · rw [show vrC x = -x from if_pos h]
    go_enter Try.func55, Try.ntmps55
    go_wp2
    go_ret
    exact ⟨rfl, rfl⟩
  · rw [show vrC x = x from if_neg h]
    go_enter Try.func55, Try.ntmps55
    go_wp2
    go_ret
    exact ⟨rfl, rfl⟩
theorem not_any (x : Int) (w : World) (hx : -9223372036854775807 ≤ x ∧ x ≤ 9223372036854775807) :
    Calls Try.prog 57 #[.int .i64 x] w fun e w' => e = .returned (.int .i64 (-x)) ∧ w = w' := by
  obtain ⟨x1, x2⟩ := hx
  go_enter Try.func57, Try.ntmps57
  go_wp2
  go_ret
  exact ⟨rfl, rfl⟩
set_option maxHeartbeats 1000000 in
theorem sclauseok_any (A : Option Addr) (n c : Nat) (Z : Nat → Int) (m : Int) (w : World) (hn : n ≤ 9223372036854775807) (hA : Ints w A n Z) :
    Calls Try.prog 45 #[.slice A n c, .int .i64 m] w fun e w' => e = .returned (.bool (okC n Z m)) ∧ w = w' := by
  generalize hr : okC n Z m = res
  have HR := hid hr; clear hr
  go_enter Try.func45, Try.ntmps45
  go_wp2
  go_loop [5, 6] (fun q i => ∃ k : Nat, k ≤ n ∧ i = .int .i64 k ∧ q = .int .i64 (pv6 Z k) ∧ ∀ j, j < k → pv6 Z j < ab6 (Z j) ∧ ab6 (Z j) ≤ m) (fun _ i => n - (intOf i).toNat)
  case atStart => exact ⟨0, Nat.zero_le _, rfl, rfl, fun j hj => by omega⟩
  case round =>
    obtain ⟨k, hk, rfl, rfl, he⟩ := hrel
    have HE := hid he; clear he
    by_cases hlt : k < n
    · rcases hA with h0 | ⟨g, off, rfl, hg, hcA⟩
      · omega
      have c1 := hcA k hlt
      clear hcA
      by_cases h1 : ab6 (Z k) ≤ pv6 Z k
      · have HF := hid (okC_no (n := n) (Z := Z) (m := m) (fun h => by have := (h.2.2 k hlt).1; omega))
        have d1 : decide (ab6 (Z k) ≤ pv6 Z k) = true := by simpa using h1
        clear h1
        go_wp2_with (go_at_call 51; refine (sabs_any _ _).mono ?_; rintro e w1 ⟨rfl, rfl⟩)
        go_ret
        exact ⟨ret_bool (HF.out.symm.trans HR.out), rfl⟩
      · have d1 : decide (ab6 (Z k) ≤ pv6 Z k) = false := by simpa using h1
        by_cases h2 : m < ab6 (Z k)
        · have HF := hid (okC_no (n := n) (Z := Z) (m := m) (fun h => by have := (h.2.2 k hlt).2; omega))
          have d2 : decide (m < ab6 (Z k)) = true := by simpa using h2
          clear h1 h2
          go_wp2_with (go_at_call 51; refine (sabs_any _ _).mono ?_; rintro e w1 ⟨rfl, rfl⟩)
          go_ret
          exact ⟨ret_bool (HF.out.symm.trans HR.out), rfl⟩
        · have d2 : decide (m < ab6 (Z k)) = false := by simpa using h2
          have HQ := hid (show pv6 Z k < ab6 (Z k) ∧ ab6 (Z k) ≤ m from ⟨by omega, by omega⟩)
          clear h1 h2
          go_wp2_with (go_at_call 51; refine (sabs_any _ _).mono ?_; rintro e w1 ⟨rfl, rfl⟩)
          go_round
          case rel =>
            refine ⟨k + 1, by omega, by go_num, rfl, fun j hj => ?_⟩
            by_cases e : j = k
            · subst e; exact HQ.out
            · exact HE.out j (by omega)
          case measure => simp [intOf]; omega
    · have hke : k = n := by omega
      subst hke
      by_cases h1 : 0 ≤ m
      · have d1 : decide (0 ≤ m) = true := by simpa using h1
        by_cases h2 : m ≤ 60
        · have d2 : decide (m ≤ 60) = true := by simpa using h2
          have HT := hid (okC_iff.2 ⟨h1, h2, HE.out⟩)
          clear h1 h2
          go_wp2
          go_ret
          exact ⟨ret_bool (HT.out.symm.trans HR.out), rfl⟩
        · have d2 : decide (m ≤ 60) = false := by simpa using h2
          have HF := hid (okC_no (n := k) (Z := Z) (m := m) (fun h => h2 h.2.1))
          clear h1 h2
          go_wp2
          go_ret
          exact ⟨ret_bool (HF.out.symm.trans HR.out), rfl⟩
      · have d1 : decide (0 ≤ m) = false := by simpa using h1
        have HF := hid (okC_no (n := k) (Z := Z) (m := m) (fun h => h1 h.1))
        clear h1
        go_wp2
        go_ret
        exact ⟨ret_bool (HF.out.symm.trans HR.out), rfl⟩
set_option maxHeartbeats 1000000 in
theorem clauseok_any (A : Option Addr) (n c : Nat) (Z : Nat → Int) (m : Int) (w : World) (hn : n ≤ 9223372036854775807) (hA : Ints w A n Z) :
    Calls Try.prog 47 #[.slice A n c, .int .i64 m] w fun e w' => e = .returned (.bool (okC n Z m)) ∧ w = w' := by
  generalize hr : okC n Z m = res
  have HR := hid hr; clear hr
  by_cases h1 : m < 0
  · have HF := hid (okC_no (n := n) (Z := Z) (m := m) (fun h => by have := h.1; omega))
    go_enter Try.func47, Try.ntmps47
    go_wp2
    go_ret
    exact ⟨ret_bool (HF.out.symm.trans HR.out), rfl⟩
  have d1 : decide (m < 0) = false := by simpa using h1
  by_cases h2 : 60 < m
  · have HF := hid (okC_no (n := n) (Z := Z) (m := m) (fun h => by have := h.2.1; omega))
    have d2 : decide (60 < m) = true := by simpa using h2
    go_enter Try.func47, Try.ntmps47
    go_wp2
    go_ret
    exact ⟨ret_bool (HF.out.symm.trans HR.out), rfl⟩
  have d2 : decide (60 < m) = false := by simpa using h2
  have m1 : 0 ≤ m := by omega
  have m2 : m ≤ 60 := by omega
  clear h1 h2
  go_enter Try.func47, Try.ntmps47
  go_wp2
  go_loop [5, 17] (fun q i => ∃ k : Nat, k ≤ n ∧ i = .int .i64 k ∧ q = .int .i64 (pv6 Z k) ∧ ∀ j, j < k → pv6 Z j < ab6 (Z j) ∧ ab6 (Z j) ≤ m) (fun _ i => n - (intOf i).toNat)
  case atStart => exact ⟨0, Nat.zero_le _, rfl, rfl, fun j hj => by omega⟩
  case round =>
    obtain ⟨k, hk, rfl, rfl, he⟩ := hrel
    have HE := hid he; clear he
    by_cases hlt : k < n
    · rcases hA with h0 | ⟨g, off, rfl, hg, hcA⟩
      · omega
      have c1 := hcA k hlt
      clear hcA
      have hO := fun W => of_lit (Z k) m W ⟨by omega, by omega⟩
      cases ho : ofC (Z k) m
      · rw [ho] at hO
        have HF := hid (okC_no (n := n) (Z := Z) (m := m) (fun h => by
          have h3 := h.2.2 k hlt
          have h4 := ab6_le m2 h3.2
          rw [ofC_iff.2 ⟨fun e => by
            have h5 : 0 ≤ pv6 Z k := by cases k with | zero => exact Int.le_refl _ | succ k => exact (ab6_rng _).1
            have h6 : ab6 (Z k) = 0 := by rw [e]; rfl
            omega, h4.1, h4.2.1⟩] at ho
          cases ho))
        clear ho
        go_wp2_with (go_at_call 41; refine (hO _).mono ?_; rintro e w1 ⟨rfl, rfl⟩)
        go_ret
        exact ⟨ret_bool (HF.out.symm.trans HR.out), rfl⟩
      · rw [ho] at hO
        have ho' := ofC_iff.1 ho
        have hv := vrC_of (x := Z k) (by omega) (by omega)
        have hle : ab6 (Z k) ≤ m := by rw [ab6_in (by omega) (by omega)]; split <;> omega
        have hV := fun W => variable_any (Z k) W ⟨by omega, by omega⟩
        rw [hv] at hV
        clear ho ho' hv
        by_cases h1 : ab6 (Z k) ≤ pv6 Z k
        · have HF := hid (okC_no (n := n) (Z := Z) (m := m) (fun h => by have := (h.2.2 k hlt).1; omega))
          have d1 : decide (ab6 (Z k) ≤ pv6 Z k) = true := by simpa using h1
          clear h1
          go_wp2_with (first | (go_at_call 41; refine (hO _).mono ?_; rintro e w1 ⟨rfl, rfl⟩) | (go_at_call 55; refine (hV _).mono ?_; rintro e w1 ⟨rfl, rfl⟩))
          go_ret
          exact ⟨ret_bool (HF.out.symm.trans HR.out), rfl⟩
        · have d1 : decide (ab6 (Z k) ≤ pv6 Z k) = false := by simpa using h1
          have HQ := hid (show pv6 Z k < ab6 (Z k) ∧ ab6 (Z k) ≤ m from ⟨by omega, hle⟩)
          clear h1
          go_wp2_with (first | (go_at_call 41; refine (hO _).mono ?_; rintro e w1 ⟨rfl, rfl⟩) | (go_at_call 55; refine (hV _).mono ?_; rintro e w1 ⟨rfl, rfl⟩))
          go_round
          case rel =>
            refine ⟨k + 1, by omega, by go_num, rfl, fun j hj => ?_⟩
            by_cases e : j = k
            · subst e; exact HQ.out
            · exact HE.out j (by omega)
          case measure => simp [intOf]; omega
    · have hke : k = n := by omega
      subst hke
      have HT := hid (okC_iff.2 ⟨m1, m2, HE.out⟩)
      go_wp2
      go_ret
      exact ⟨ret_bool (HT.out.symm.trans HR.out), rfl⟩
end Go.Proofs.Ytjnngijilkdhbaa
