/- Well-formed terms: mathematics; contracts of l4Shape, l4Many, l4Right of the model and of size, wellFormed of the program. -/
import Derived.Test.YtmeglflbjedndaaTermA
namespace Go.Proofs.Ytmeglflbjedndaa
set_option linter.unusedVariables false
set_option linter.unusedSimpArgs false
open Go.RowKit
/-- a term is one, so deep at most -/
def shapeB : Nat → Tm → Bool
  | 0, _ => false
  | d + 1, .mk nm n kid => decide (nameB nm = true ∧ n ≤ 2 ∧ ∀ k, k < n → shapeB d (kid k) = true)
  | _ + 1, .bad => false
theorem shape_mk {d : Nat} {t : Tm} (h : shapeB (d + 1) t = true) : ∃ nm n kid, t = .mk nm n kid := by
  cases t with
  | bad => cases h
  | mk nm n kid => exact ⟨nm, n, kid, rfl⟩
theorem shape_iff {d : Nat} {nm : ByteArray} {n : Nat} {kid : Nat → Tm} : shapeB (d + 1) (.mk nm n kid) = true ↔ nameB nm = true ∧ n ≤ 2 ∧ ∀ k, k < n → shapeB d (kid k) = true := by
  rw [shapeB]; exact decide_eq_true_iff
theorem shape_no {d : Nat} {nm : ByteArray} {n : Nat} {kid : Nat → Tm} (h : ¬ (nameB nm = true ∧ n ≤ 2 ∧ ∀ k, k < n → shapeB d (kid k) = true)) : shapeB (d + 1) (.mk nm n kid) = false := by
  cases e : shapeB (d + 1) (.mk nm n kid)
  · rfl
  · exact absurd (shape_iff.1 e) h
def sumK (f : Nat → Nat) : Nat → Nat
  | 0 => 0
  | n + 1 => sumK f n + f n
/-- how many terms there are in a term, so deep at most -/
def cntN : Nat → Tm → Nat
  | 0, _ => 1
  | d + 1, .mk _ n kid => 1 + sumK (fun k => cntN d (kid k)) n
  | _ + 1, .bad => 0
theorem cnt_succ (d : Nat) (nm : ByteArray) (n : Nat) (kid : Nat → Tm) : cntN (d + 1) (.mk nm n kid) = 1 + sumK (fun k => cntN d (kid k)) n := by rw [cntN]
theorem sumK_bd {f : Nat → Nat} {m : Nat} : ∀ {n : Nat}, (∀ k, k < n → f k ≤ m) → sumK f n ≤ n * m
  | 0, _ => by simp [sumK]
  | n + 1, h => by
    have ih := sumK_bd (n := n) (fun k hk => h k (by omega))
    have := h n (by omega)
    rw [sumK, Nat.succ_mul]; omega
theorem cnt_bd : ∀ (d : Nat) (t : Tm), shapeB d t = true → cntN d t + 1 ≤ 2 ^ d := by
  intro d
  induction d with
  | zero => intro t h; cases h
  | succ d ih =>
    intro t h
    obtain ⟨nm, n, kid, rfl⟩ := shape_mk h
    obtain ⟨_, h2, h3⟩ := shape_iff.1 h
    have hp : 1 ≤ 2 ^ d := Nat.one_le_two_pow
    have hs := sumK_bd (f := fun k => cntN d (kid k)) (m := 2 ^ d - 1) (n := n) (fun k hk => by have := ih _ (h3 k hk); show cntN d (kid k) ≤ _; omega)
    rw [cnt_succ, Nat.pow_succ]
    have : n * (2 ^ d - 1) ≤ 2 * (2 ^ d - 1) := Nat.mul_le_mul_right _ h2
    omega
theorem cnt_16 {d : Nat} {t : Tm} (hd : d ≤ 4) (h : shapeB d t = true) : cntN d t ≤ 16 := by
  have h1 := cnt_bd d t h
  have h2 : 2 ^ d ≤ 2 ^ 4 := Nat.pow_le_pow_right (by omega) hd
  omega
set_option maxRecDepth 100000 in
set_option maxHeartbeats 2000000 in
theorem shape_any : ∀ (d : Nat), d ≤ 4 → ∀ (t : Tm), Fits 1048576 t → ∀ (A : Option Addr) (c : Nat) (w : World), Kids 0 w t A →
    Calls Try.prog 205 #[.agg #[.string t.nm, .slice A t.n c], .int .i64 (d : Int)] w fun e w' => e = .returned (.bool (shapeB d t)) ∧ Below w.heap.size w w' := by
  intro d
  induction d with
  | zero =>
    rintro _ (⟨nm, n, kid⟩ | _) hF A c w hA
    rotate_left
    · exact False.elim hF
    rw [show (((0 : Nat)) : Int) = 0 from rfl]
    change Calls _ _ #[.agg #[.string nm, .slice A n c], _] w _
    clear hA hF
    go_enter Try.func205, Try.ntmps205
    go_wp2
    go_ret
    exact ⟨rfl, bal (Below.refl _ _) _⟩
  | succ d ih =>
    rintro hd (⟨nm, n, kid⟩ | _) ⟨hm, hn, hf⟩ A c w hA
    rw [show (((d + 1 : Nat)) : Int) = (d : Int) + 1 from rfl]
    change Calls _ _ #[.agg #[.string nm, .slice A n c], _] w _
    have HI := hid (fun k hk a cc W hK => ih (by omega) (kid k) (hf k hk) a cc W hK); clear ih hf
    have e1 : decide ((d : Int) + 1 < 1) = false := by simp; omega
    cases hv : nameB nm
    · have hO := fun W => snameok_any nm W (by omega)
      rw [hv] at hO
      have HF := hid (shape_no (d := d) (nm := nm) (n := n) (kid := kid) (fun h => by rw [hv] at h; simp at h)); clear hv hA
      go_enter Try.func205, Try.ntmps205
      go_wp2_with (go_at_call 67; refine (hO _).mono ?_; rintro e w1 ⟨rfl, rfl⟩)
      go_ret
      exact ⟨ret_bool HF.out.symm, bal (Below.refl _ _) _⟩
    have hO := fun W => snameok_any nm W (by omega)
    rw [hv] at hO
    by_cases h2 : n ≤ 2
    · have e2 : decide (2 < (n : Int)) = false := by simp; omega
      have HV := hid hv; have H2 := hid h2; clear hv h2
      generalize hr : shapeB (d + 1) (.mk nm n kid) = res
      have HR := hid hr; clear hr
      have b1 : (w.alloc (.cells #[.string nm, .slice A n c] 53)).cell? ⟨w.heap.size, 1, none⟩ = some (.slice A n c) := by simp [go_sem]
      have q0 := bal (Below.refl w.heap.size w) (.cells #[.string nm, .slice A n c] 53)
      have hA2 := hA.below q0
      clear hA
      go_enter Try.func205, Try.ntmps205
      go_wp2_with (go_at_call 67; refine (hO _).mono ?_; rintro e w1 ⟨rfl, rfl⟩)
      clear hO
      generalize w.alloc (.cells #[.string nm, .slice A n c] 53) = W0 at *
      go_loopw [5] (fun i wr => ∃ k : Nat, k ≤ n ∧ i = .int .i64 k ∧ Below W0.heap.size W0 wr ∧ ∀ j, j < k → shapeB d (kid j) = true) (fun i _ => n - (intOf i).toNat)
      case atStart => exact ⟨0, Nat.zero_le _, rfl, Below.refl _ _, fun j hj => by omega⟩
      case round =>
        obtain ⟨k, hk, rfl, hb, he⟩ := hrel
        have HE := hid he; clear he
        have g1 := carry hb b1
        have gs : w.heap.size < wr.heap.size := cell_lt g1
        clear b1
        by_cases hlt : k < n
        · rcases hA2 with h0 | ⟨g, off, rfl, _, hg, hcA⟩
          · omega
          obtain ⟨a, ca, a0, a1, hI⟩ := hcA k hlt
          have gg : g < wr.heap.size := Nat.lt_of_lt_of_le hg hb.size
          replace a0 := carry hb a0
          replace a1 := carry hb a1
          replace hI := hI.below hb
          clear hcA
          have hS := HI.out k hlt a ca wr hI
          clear hI
          cases hs : shapeB d (kid k)
          · rw [hs] at hS
            have HF := hid (shape_no (d := d) (nm := nm) (n := n) (kid := kid) (fun h => by have := h.2.2 k hlt; rw [hs] at this; cases this)); clear hs
            go_wp2_with (go_at_call 205; refine hS.mono ?_; rintro e w1 ⟨rfl, hq⟩)
            go_ret
            exact ⟨ret_bool (HF.out.symm.trans HR.out), btr q0 (btr hb hq)⟩
          · rw [hs] at hS
            have HS := hid hs; clear hs
            go_wp2_with (go_at_call 205; refine hS.mono ?_; rintro e w1 ⟨rfl, hq⟩)
            go_roundw
            case rel =>
              refine ⟨k + 1, by omega, by go_num, btr hb hq, fun j hj => ?_⟩
              by_cases e : j = k
              · subst e; exact HS.out
              · exact HE.out j (by omega)
            case measure => simp [intOf]; omega
        · have hke : k = n := by omega
          subst hke
          have HT := hid (shape_iff.2 ⟨HV.out, H2.out, HE.out⟩)
          go_wp2
          go_ret
          exact ⟨ret_bool (HT.out.symm.trans HR.out), btr q0 hb⟩
    · have HF := hid (shape_no (d := d) (nm := nm) (n := n) (kid := kid) (fun h => h2 h.2.1))
      have e2 : decide (2 < (n : Int)) = true := by simp; omega
      clear hv h2 hA
      go_enter Try.func205, Try.ntmps205
      go_wp2_with (go_at_call 67; refine (hO _).mono ?_; rintro e w1 ⟨rfl, rfl⟩)
      go_ret
      exact ⟨ret_bool HF.out.symm, bal (Below.refl _ _) _⟩
end Go.Proofs.Ytmeglflbjedndaa
