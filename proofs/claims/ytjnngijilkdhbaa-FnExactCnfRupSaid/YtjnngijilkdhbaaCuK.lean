/- The model's l10At, l10Left, l10Units, l10Right and CnfUnits. -/
import Derived.Test.YtjnngijilkdhbaaCuJ
namespace Go.Proofs.Ytjnngijilkdhbaa
set_option linter.unusedVariables false
set_option linter.unusedSimpArgs false
open Go.RowKit
theorem atU_before {V : Nat → Int} {x : Int} : ∀ {k : Nat}, (∀ j, j < k → V j ≠ x ∧ V j ≠ -x) → atU (putL k V) x = 0
  | 0, _ => rfl
  | k + 1, h => by
    rw [putL_succ, atU_append, atU_before (k := k) (fun j hj => h j (by omega)), if_pos rfl, atU_one, if_neg (h k (by omega)).1, if_neg (h k (by omega)).2]
theorem atU_stays {V : Nat → Int} {x : Int} {k : Nat} (h : atU (putL k V) x ≠ 0) : ∀ d, atU (putL (k + d) V) x = atU (putL k V) x
  | 0 => rfl
  | d + 1 => by
    rw [← Nat.add_assoc, putL_succ, atU_append, atU_stays h d, if_neg h]
theorem atU_found {V : Nat → Int} {x y : Int} {k N : Nat} (hk : k < N) (h : ∀ j, j < k → V j ≠ x ∧ V j ≠ -x) (hy : y ≠ 0) (h1 : atU [V k] x = y) : atU (putL N V) x = y := by
  have h2 : atU (putL (k + 1) V) x = y := by rw [putL_succ, atU_append, atU_before h, if_pos rfl, h1]
  have h3 := atU_stays (V := V) (x := x) (k := k + 1) (by rw [h2]; exact hy) (N - (k + 1))
  rw [show k + 1 + (N - (k + 1)) = N by omega] at h3
  rw [h3, h2]
set_option maxHeartbeats 2000000 in
theorem sat_any (B : Option Addr) (N cB : Nat) (V : Nat → Int) (x : Int) (w : World) (hN : N ≤ 9223372036854775807) (hB : Ints w B N V) (hx : -9223372036854775807 ≤ x ∧ x ≤ 9223372036854775807) :
    Calls Try.prog 52 #[.slice B N cB, .int .i64 x] w fun e w' => e = .returned (.int .i64 (atU (putL N V) x)) ∧ w = w' := by
  obtain ⟨x1, x2⟩ := hx
  generalize hr : atU (putL N V) x = res
  have HR := hid hr; clear hr
  go_enter Try.func52, Try.ntmps52
  go_wp2
  go_loop [5] (fun i => ∃ k : Nat, k ≤ N ∧ i = .int .i64 k ∧ ∀ j, j < k → V j ≠ x ∧ V j ≠ -x) (fun i => N - (intOf i).toNat)
  case atStart => exact ⟨0, Nat.zero_le _, rfl, fun j hj => by omega⟩
  case round =>
    obtain ⟨k, hk, rfl, he⟩ := hrel
    have HE := hid he; clear he
    by_cases hlt : k < N
    · rcases hB with h0 | ⟨g, off, rfl, hg, hcB⟩
      · omega
      have c1 := hcB k hlt
      clear hcB
      by_cases h1 : V k = x
      · have d1 : (V k == x) = true := by simpa using h1
        have HF := hid (atU_found (y := 1) hlt HE.out (by decide) (by rw [atU_one, if_pos h1]))
        clear h1
        go_wp2
        go_ret
        exact ⟨congrArg (fun z => Ending.returned (Value.int .i64 z)) (HF.out.symm.trans HR.out), rfl⟩
      · have d1 : (V k == x) = false := by simpa using h1
        by_cases h2 : V k = -x
        · have d2 : (V k == -x) = true := by simpa using h2
          have HF := hid (atU_found (y := -1) hlt HE.out (by decide) (by rw [atU_one, if_neg h1, if_pos h2]))
          clear h1 h2
          go_wp2
          go_ret
          exact ⟨congrArg (fun z => Ending.returned (Value.int .i64 z)) (HF.out.symm.trans HR.out), rfl⟩
        · have d2 : (V k == -x) = false := by simpa using h2
          have HQ := hid (show V k ≠ x ∧ V k ≠ -x from ⟨h1, h2⟩)
          clear h1 h2
          go_wp2
          go_round
          case rel =>
            refine ⟨k + 1, by omega, by go_num, fun j hj => ?_⟩
            by_cases e : j = k
            · subst e; exact HQ.out
            · exact HE.out j (by omega)
          case measure => simp [intOf]; omega
    · have hke : k = N := by omega
      subst hke
      have HF := hid (atU_before HE.out)
      go_wp2
      go_ret
      exact ⟨congrArg (fun z => Ending.returned (Value.int .i64 z)) (HF.out.symm.trans HR.out), rfl⟩
/-- how many literals are left, and the first of these -/
def CntS (N : Nat) (Z : Nat → Int) (T : List Int) (k : Nat) (c l : Int) : Prop :=
  0 ≤ c ∧ c ≤ k ∧ (∀ j, j < k → atU T (Z j) ≠ 1) ∧ ((c = 0 ∧ l = 0 ∧ ∀ j, j < k → atU T (Z j) = -1) ∨ (c = 1 ∧ ∃ q, q < k ∧ l = Z q ∧ atU T (Z q) = 0 ∧ ∀ j, j < k → j ≠ q → atU T (Z j) = -1) ∨ (2 ≤ c ∧ ∃ p q, p < k ∧ q < k ∧ p ≠ q ∧ l = Z p ∧ atU T (Z p) = 0 ∧ atU T (Z q) = 0))
def LeftP (N : Nat) (Z : Nat → Int) (T : List Int) (c l : Int) : Prop := (c = 0 ∧ Fal N Z T) ∨ (c = 1 ∧ Uni N Z T l) ∨ (c ≠ 0 ∧ c ≠ 1 ∧ Idle N Z T)
theorem CntS.fin {N : Nat} {Z : Nat → Int} {T : List Int} {c l : Int} (h : CntS N Z T N c l) (hI : InjC N Z) : LeftP N Z T c l := by
  obtain ⟨_, _, _, ⟨h1, _, h2⟩ | ⟨h1, q, hq, rfl, h2, h3⟩ | ⟨h1, p, q, hp, hq, hne, _, h2, h3⟩⟩ := h
  · exact .inl ⟨h1, fun x ⟨k, hk, e⟩ => by rw [← e]; exact h2 k hk⟩
  · refine .inr (.inl ⟨h1, ⟨q, hq, rfl⟩, h2, fun y ⟨k, hk, e⟩ hy => ?_⟩)
    rw [← e]
    exact h3 k hk fun e2 => hy (by rw [← e, e2])
  · exact .inr (.inr ⟨by omega, by omega, idle_two ⟨p, hp, rfl⟩ ⟨q, hq, rfl⟩ (fun e => hne (hI p q hp hq e)) (by omega) (by omega)⟩)
def LefP (N : Nat) (Z : Nat → Int) (T : List Int) (e : Ending) : Prop := ∃ c l, e = .returned (.tuple #[.int .i64 c, .int .i64 l]) ∧ LeftP N Z T c l
set_option maxHeartbeats 4000000 in
theorem sleft_any (B : Option Addr) (M cB : Nat) (V : Nat → Int) (A : Option Addr) (N cA : Nat) (Z : Nat → Int) (w : World) (hM : M ≤ 9223372036854775807) (hB : Ints w B M V) (hN : N ≤ 61) (hA : Ints w A N Z) (hI : InjC N Z) (hl : ∀ x, MemC N Z x → ofC x 60 = true) :
    Calls Try.prog 53 #[.slice B M cB, .slice A N cA] w fun e w' => LefP N Z (putL M V) e ∧ w = w' := by
  have hAt := fun x (h : ofC x 60 = true) => sat_any B M cB V x w hM hB (by have := ofC_iff.1 h; omega)
  generalize putL M V = T at *
  have HI := hid hI; have HL := hid hl
  clear hI hl hB
  go_enter Try.func53, Try.ntmps53
  go_wp2
  go_loop [6, 7, 8] (fun c l i => ∃ (k : Nat) (cn lf : Int), k ≤ N ∧ i = .int .i64 k ∧ c = .int .i64 cn ∧ l = .int .i64 lf ∧ CntS N Z T k cn lf) (fun _ _ i => N - (intOf i).toNat)
  case atStart => exact ⟨0, 0, 0, Nat.zero_le _, rfl, rfl, rfl, by omega, by omega, fun j hj => by omega, .inl ⟨rfl, rfl, fun j hj => by omega⟩⟩
  case round =>
    obtain ⟨k, cn, lf, hk, rfl, rfl, rfl, hc⟩ := hrel
    obtain ⟨hc0, hc1, _⟩ := id hc
    have HC := hid hc; clear hc
    by_cases hlt : k < N
    · rcases hA with h0 | ⟨g, off, rfl, hg, hcA⟩
      · omega
      have c1 := hcA k hlt
      clear hcA
      have hlit := HL.out _ ⟨k, hlt, rfl⟩
      have hS := hAt _ hlit
      have hbd := ofC_iff.1 hlit
      rcases atU_rng T (Z k) with h | h | h
      · rw [h] at hS
        have HF := hid (idle_true (N := N) (Z := Z) ⟨k, hlt, rfl⟩ h)
        clear h
        go_wp2_with (go_at_call 52; refine hS.mono ?_; rintro e w1 ⟨rfl, rfl⟩)
        go_ret2
        exact ⟨⟨2, 0, rfl, .inr (.inr ⟨by decide, by decide, HF.out⟩)⟩, rfl⟩
      · rw [h] at hS
        have H0 := hid h
        clear h
        by_cases hz : cn = 0
        · subst hz
          go_wp2_with (go_at_call 52; refine hS.mono ?_; rintro e w1 ⟨rfl, rfl⟩)
          go_round
          case rel =>
            refine ⟨k + 1, 1, Z k, by omega, by go_num, rfl, rfl, by omega, by omega, fun j hj => ?_, .inr (.inl ⟨rfl, k, by omega, rfl, H0.out, fun j hj hne => ?_⟩)⟩
            · by_cases e : j = k
              · subst e; have := H0.out; omega
              · exact HC.out.2.2.1 j (by omega)
            · obtain ⟨_, _, _, ⟨_, _, h2⟩ | ⟨h1, _⟩ | ⟨h1, _⟩⟩ := HC.out
              · exact h2 j (by omega)
              · omega
              · omega
          case measure => simp [intOf]; omega
        · have d0 : (cn == 0) = false := by simpa using hz
          have HZ := hid hz
          clear hz
          go_wp2_with (go_at_call 52; refine hS.mono ?_; rintro e w1 ⟨rfl, rfl⟩)
          go_round
          case rel =>
            refine ⟨k + 1, cn + 1, lf, by omega, by go_num, by go_num, rfl, by omega, by omega, fun j hj => ?_, .inr (.inr ⟨by have := HZ.out; omega, ?_⟩)⟩
            · by_cases e : j = k
              · subst e; have := H0.out; omega
              · exact HC.out.2.2.1 j (by omega)
            · obtain ⟨_, _, _, ⟨h1, _⟩ | ⟨_, q, hq, h1, h2, _⟩ | ⟨_, p, q, hp, hq, hne, h1, h2, h3⟩⟩ := HC.out
              · exact absurd h1 HZ.out
              · exact ⟨q, k, by omega, by omega, by omega, h1, h2, H0.out⟩
              · exact ⟨p, q, by omega, by omega, hne, h1, h2, h3⟩
          case measure => simp [intOf]; omega
      · rw [h] at hS
        have H0 := hid h
        clear h
        go_wp2_with (go_at_call 52; refine hS.mono ?_; rintro e w1 ⟨rfl, rfl⟩)
        go_round
        case rel =>
          refine ⟨k + 1, cn, lf, by omega, by go_num, rfl, rfl, by omega, by omega, fun j hj => ?_, ?_⟩
          · by_cases e : j = k
            · subst e; have := H0.out; omega
            · exact HC.out.2.2.1 j (by omega)
          · obtain ⟨_, _, _, ⟨h1, h4, h2⟩ | ⟨h1, q, hq, h4, h2, h3⟩ | ⟨h0, p, q, hp, hq, hne, h1, h2, h3⟩⟩ := HC.out
            · refine .inl ⟨h1, h4, fun j hj => ?_⟩
              by_cases e : j = k
              · subst e; exact H0.out
              · exact h2 j (by omega)
            · refine .inr (.inl ⟨h1, q, by omega, h4, h2, fun j hj hne => ?_⟩)
              by_cases e : j = k
              · subst e; exact H0.out
              · exact h3 j (by omega) hne
            · exact .inr (.inr ⟨h0, p, q, by omega, by omega, hne, h1, h2, h3⟩)
        case measure => simp [intOf]; omega
    · have hke : k = N := by omega
      subst hke
      go_wp2
      go_ret2
      exact ⟨⟨cn, lf, rfl, HC.out.fin HI.out⟩, rfl⟩
end Go.Proofs.Ytjnngijilkdhbaa
