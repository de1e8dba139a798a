/- slices.ContainsFunc over rows; contracts of the program's CnfOk and CnfIs. -/
import Derived.Test.YtjnngijilkdhbaaCcB
import Derived.Test.YtjnngijilkdhbaaCbB
namespace Go.Proofs.Ytjnngijilkdhbaa
set_option linter.unusedVariables false
set_option linter.unusedSimpArgs false
open Go.RowKit
set_option maxHeartbeats 1000000 in
theorem ifs_ok (A : Option Addr) (n c b : Nat) (L : Lls) (P : Nat → Bool) (w : World) (hn : n ≤ 9223372036854775807) (hA : IntSS w A n L)
    (hF : ∀ k, k < n → ∀ W, Below w.heap.size w W → ∀ a c', L.N k ≤ 9223372036854775807 → Ints W a (L.N k) (L.Z k) → Calls Try.prog 49 #[.slice a (L.N k) c', .pointer (some ⟨b, 0, none⟩)] W fun e w' => e = .returned (.bool (!P k)) ∧ Below W.heap.size W w') :
    Calls Try.prog 48 #[.slice A n c, .func (.func 49) #[] #[.pointer (some ⟨b, 0, none⟩)]] w fun e w' => e = .returned (.bool (decide (∃ k, k < n ∧ P k = false))) ∧ Below w.heap.size w w' := by
  have hI : Calls Try.prog 62 #[.slice A n c, .func (.func 49) #[] #[.pointer (some ⟨b, 0, none⟩)]] w fun e w' => (∃ r : Int, e = .returned (.int .i64 r) ∧ decide (0 ≤ r) = decide (∃ k, k < n ∧ P k = false)) ∧ Below w.heap.size w w' := by
    go_enter Try.func62, Try.ntmps62
    go_wp2
    go_loopw [8] (fun i wr => ∃ k : Nat, k ≤ n ∧ i = .int .i64 k ∧ Below w.heap.size w wr ∧ ∀ j, j < k → P j = true) (fun i _ => n - (intOf i).toNat)
    case atStart => exact ⟨0, Nat.zero_le _, rfl, Below.refl _ _, fun j hj => by omega⟩
    case round =>
      obtain ⟨k, hk, rfl, hb, he⟩ := hrel
      have HE := hid he; clear he
      by_cases hlt : k < n
      · rcases hA with h0 | ⟨g, off, rfl, hg, hcA⟩
        · omega
        obtain ⟨a, ca, a0, hNk, hZ⟩ := hcA k hlt
        have gg : g < wr.heap.size := Nat.lt_of_lt_of_le hg hb.size
        replace a0 := carry hb a0
        replace hZ := hZ.below hb
        have hE := hF k hlt wr hb a ca hNk hZ
        clear hcA hZ hF
        cases hv : P k
        · rw [hv] at hE
          have HT := hid (show decide (∃ k, k < n ∧ P k = false) = true from decide_eq_true ⟨k, hlt, hv⟩); clear hv
          go_wp2_with (go_at_call 49; refine hE.mono ?_; rintro e w1 ⟨rfl, hq⟩)
          go_ret
          exact ⟨⟨k, rfl, by rw [HT.out]; simp⟩, btr hb hq⟩
        · rw [hv] at hE
          have HQ := hid hv; clear hv
          go_wp2_with (go_at_call 49; refine hE.mono ?_; rintro e w1 ⟨rfl, hq⟩)
          go_roundw
          case rel =>
            refine ⟨k + 1, by omega, by go_num, btr hb hq, fun j hj => ?_⟩
            by_cases e : j = k
            · subst e; exact HQ.out
            · exact HE.out j (by omega)
          case measure => simp [intOf]; omega
      · have hke : k = n := by omega
        subst hke
        have HT := hid (show decide (∃ j, j < k ∧ P j = false) = false from decide_eq_false (fun ⟨j, hj, h⟩ => by rw [HE.out j hj] at h; cases h))
        go_wp2
        go_ret
        exact ⟨⟨-1, rfl, by rw [HT.out]; simp⟩, hb⟩
  clear hA hF
  generalize decide (∃ k, k < n ∧ P k = false) = res at hI ⊢
  go_enter Try.func48, Try.ntmps48
  go_wp2_with (go_at_call 62; refine hI.mono ?_; rintro e w1 ⟨⟨r, rfl, hr⟩, hq⟩)
  go_ret
  exact ⟨rfl, hq⟩
theorem cnfok1_any (a : Option Addr) (n c b : Nat) (Z : Nat → Int) (m : Int) (w : World) (hn : n ≤ 9223372036854775807) (hA : Ints w a n Z) (hb : w.cell? ⟨b, 0, none⟩ = some (.int .i64 m)) :
    Calls Try.prog 49 #[.slice a n c, .pointer (some ⟨b, 0, none⟩)] w fun e w' => e = .returned (.bool (!okC n Z m)) ∧ Below w.heap.size w w' := by
  have hO := clauseok_any a n c Z m w hn hA
  clear hA
  go_enter Try.func49, Try.ntmps49
  go_wp2_with (go_at_call 47; refine hO.mono ?_; rintro e w1 ⟨rfl, rfl⟩)
  go_ret
  exact ⟨rfl, Below.refl _ _⟩
theorem okC_none (m : Int) : okC 0 (fun _ => 0) m = decide (0 ≤ m ∧ m ≤ 60) := by
  unfold okC OkC
  congr 1
  exact propext ⟨fun h => ⟨h.1, h.2.1⟩, fun h => ⟨h.1, h.2, fun k hk => by omega⟩⟩
theorem not_ex {n : Nat} {P : Nat → Bool} : (!decide (∃ k, k < n ∧ P k = false)) = decide (∀ k, k < n → P k = true) := by
  by_cases h : ∀ k, k < n → P k = true
  · rw [decide_eq_true h, decide_eq_false (fun ⟨k, hk, e⟩ => by rw [h k hk] at e; cases e)]; rfl
  · have : ∃ k, k < n ∧ P k = false := Classical.byContradiction fun hc => h fun k hk => by
      cases e : P k
      · exact absurd ⟨k, hk, e⟩ hc
      · rfl
    rw [decide_eq_false h, decide_eq_true this]; rfl
set_option maxHeartbeats 2000000 in
theorem cnfok_any (A : Option Addr) (n c : Nat) (L : Lls) (m : Int) (w : World) (hn : n ≤ 9223372036854775807) (hA : IntSS w A n L) :
    Calls Try.prog 33 #[.agg #[.int .i64 m, .slice A n c]] w fun e w' => e = .returned (.bool (cnB n L m)) ∧ Below w.heap.size w w' := by
  have q0 := bal (Below.refl w.heap.size w) (.cells #[.int .i64 m, .slice A n c] 31)
  obtain ⟨b0, b1⟩ := pair_new w (.int .i64 m) (.slice A n c) 31
  have hO := fun W => clauseok_any none 0 0 (fun _ => 0) m W (by omega) (.inl rfl)
  rw [okC_none] at hO
  generalize hr : cnB n L m = res
  have HR := hid hr; clear hr
  by_cases h1 : 0 ≤ m ∧ m ≤ 60
  · rw [decide_eq_true h1] at hO
    by_cases h3 : 400 < n
    · have HF := hid (cnB_no (n := n) (L := L) (m := m) (fun h => by have := h.2.2.1; omega))
      clear h1
      go_enter Try.func33, Try.ntmps33
      go_wp2_with (go_at_call 47; refine (hO _).mono ?_; rintro e w1 ⟨rfl, rfl⟩)
      go_ret
      exact ⟨ret_bool (HF.out.symm.trans HR.out), q0⟩
    · have hC := ifs_ok A n c w.heap.size L (fun k => okC (L.N k) (L.Z k) m) _ hn (hA.below q0) (fun k hk W hW a c' hNk hZ => cnfok1_any a (L.N k) c' w.heap.size (L.Z k) m W hNk hZ (carry hW b0))
      have HT := hid (show (!decide (∃ k, k < n ∧ (fun k => okC (L.N k) (L.Z k) m) k = false)) = cnB n L m by
        rw [not_ex]
        unfold cnB
        congr 1
        exact propext ⟨fun h => ⟨h1.1, h1.2, by omega, h⟩, fun h => h.2.2.2⟩)
      generalize decide (∃ k, k < n ∧ (fun k => okC (L.N k) (L.Z k) m) k = false) = r at hC HT
      have d3 : decide (400 < (n : Int)) = false := by simp; omega
      clear hA h1 h3
      go_enter Try.func33, Try.ntmps33
      go_wp2_with (first | (go_at_call 47; refine (hO _).mono ?_; rintro e w1 ⟨rfl, rfl⟩) | (go_at_call 48; refine hC.mono ?_; rintro e w1 ⟨rfl, hq⟩))
      go_ret
      exact ⟨ret_bool (HT.out.trans HR.out), btr q0 hq⟩
  · rw [decide_eq_false h1] at hO
    have HF := hid (cnB_no (n := n) (L := L) (m := m) (fun h => h1 ⟨h.1, h.2.1⟩))
    clear h1
    go_enter Try.func33, Try.ntmps33
    go_wp2_with (go_at_call 47; refine (hO _).mono ?_; rintro e w1 ⟨rfl, rfl⟩)
    go_ret
    exact ⟨ret_bool (HF.out.symm.trans HR.out), q0⟩
end Go.Proofs.Ytjnngijilkdhbaa
