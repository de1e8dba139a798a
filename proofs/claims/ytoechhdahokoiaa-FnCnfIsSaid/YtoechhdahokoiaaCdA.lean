/- Contracts of CnfIs, of the program and of the model. -/
import Derived.Test.YtoechhdahokoiaaCcC
namespace Go.Proofs.Ytoechhdahokoiaa
set_option linter.unusedVariables false
set_option linter.unusedSimpArgs false
open Go.RowKit
/-- a formula that is true -/
def ciB (n : Nat) (L : Lls) (m : Int) (N : Nat) (V : Nat → Bool) : Bool := decide (cnB n L m = true ∧ (N : Int) = m ∧ ∀ k, k < n → clB (L.N k) (L.Z k) N V = true)
theorem ciB_iff {n N : Nat} {L : Lls} {m : Int} {V : Nat → Bool} : ciB n L m N V = true ↔ cnB n L m = true ∧ (N : Int) = m ∧ ∀ k, k < n → clB (L.N k) (L.Z k) N V = true := by unfold ciB; exact decide_eq_true_iff
theorem ciB_no {n N : Nat} {L : Lls} {m : Int} {V : Nat → Bool} (h : ¬ (cnB n L m = true ∧ (N : Int) = m ∧ ∀ k, k < n → clB (L.N k) (L.Z k) N V = true)) : ciB n L m N V = false := by
  cases e : ciB n L m N V
  · rfl
  · exact absurd (ciB_iff.1 e) h
set_option maxHeartbeats 2000000 in
theorem scnfis_any (A B : Option Addr) (n c N cB : Nat) (L : Lls) (V : Nat → Bool) (m : Int) (w : World) (hn : n ≤ 9223372036854775807) (hN : N ≤ 9223372036854775807) (hA : IntSS w A n L) (hB : Bools w B N V) :
    Calls Try.prog 11 #[.agg #[.int .i64 m, .slice A n c], .slice B N cB] w fun e w' => e = .returned (.bool (ciB n L m N V)) ∧ Below w.heap.size w w' := by
  have q0 := bal (Below.refl w.heap.size w) (.cells #[.int .i64 m, .slice A n c] 25)
  obtain ⟨b0, b1⟩ := pair_new w (.int .i64 m) (.slice A n c) 25
  have hO := scnfok_any A n c L m _ hn (hA.below q0)
  generalize hr : ciB n L m N V = res
  have HR := hid hr; clear hr
  cases hc : cnB n L m
  · rw [hc] at hO
    have HF := hid (ciB_no (n := n) (L := L) (m := m) (N := N) (V := V) (fun h => by rw [hc] at h; cases h.1))
    clear hA hB hc
    go_enter Try.func11, Try.ntmps11
    go_wp2_with (go_at_call 13; refine hO.mono ?_; rintro e w1 ⟨rfl, hq⟩)
    go_ret
    exact ⟨ret_bool (HF.out.symm.trans HR.out), btr q0 hq⟩
  rw [hc] at hO
  by_cases hm : (N : Int) = m
  · have d2 : ((N : Int) != m) = false := by simpa using hm
    go_enter Try.func11, Try.ntmps11
    go_wp2_with fail
    refine hO.mono ?_
    rintro e w1 ⟨rfl, hq⟩
    replace b0 := carry hq b0
    replace b1 := carry hq b1
    replace q0 := btr q0 hq
    replace hA := hA.below q0
    replace hB := hB.below q0
    clear hO
    go_wp2
    go_loop [5] (fun i => ∃ k : Nat, k ≤ n ∧ i = .int .i64 k ∧ ∀ j, j < k → clB (L.N j) (L.Z j) N V = true) (fun i => n - (intOf i).toNat)
    case atStart => exact ⟨0, Nat.zero_le _, rfl, fun j hj => by omega⟩
    case round =>
      obtain ⟨k, hk, rfl, he⟩ := hrel
      have HE := hid he; clear he
      by_cases hlt : k < n
      · rcases hA with h0 | ⟨g, off, rfl, hg, hcA⟩
        · omega
        obtain ⟨a, ca, a0, hNk, hI⟩ := hcA k hlt
        have hE := sclauseis_any a B (L.N k) ca N cB (L.Z k) V w1 hNk hN hI hB
        clear hcA hI
        cases hv : clB (L.N k) (L.Z k) N V
        · rw [hv] at hE
          have HF := hid (ciB_no (n := n) (L := L) (m := m) (N := N) (V := V) (fun h => by have := h.2.2 k hlt; rw [hv] at this; cases this)); clear hv
          go_wp2_with (go_at_call 32; refine hE.mono ?_; rintro e w2 ⟨rfl, rfl⟩)
          go_ret
          exact ⟨ret_bool (HF.out.symm.trans HR.out), q0⟩
        · rw [hv] at hE
          have HQ := hid hv; clear hv
          go_wp2_with (go_at_call 32; refine hE.mono ?_; rintro e w2 ⟨rfl, rfl⟩)
          go_round
          case rel =>
            refine ⟨k + 1, by omega, by go_num, fun j hj => ?_⟩
            by_cases e : j = k
            · subst e; exact HQ.out
            · exact HE.out j (by omega)
          case measure => simp [intOf]; omega
      · have hke : k = n := by omega
        subst hke
        have HT := hid (ciB_iff.2 ⟨hc, hm, HE.out⟩)
        go_wp2
        go_ret
        exact ⟨ret_bool (HT.out.symm.trans HR.out), q0⟩
  · have d2 : ((N : Int) != m) = true := by simpa using hm
    have HF := hid (ciB_no (n := n) (L := L) (m := m) (N := N) (V := V) (fun h => hm h.2.1))
    clear hA hB hc hm
    go_enter Try.func11, Try.ntmps11
    go_wp2_with (go_at_call 13; refine hO.mono ?_; rintro e w1 ⟨rfl, hq⟩; replace b0 := carry hq b0; replace b1 := carry hq b1)
    go_ret
    exact ⟨ret_bool (HF.out.symm.trans HR.out), btr q0 hq⟩
set_option maxHeartbeats 2000000 in
theorem cnfis_any (A B : Option Addr) (n c N cB : Nat) (L : Lls) (V : Nat → Bool) (m : Int) (w : World) (hn : n ≤ 9223372036854775807) (hN : N ≤ 9223372036854775807) (hA : IntSS w A n L) (hB : Bools w B N V) :
    Calls Try.prog 10 #[.agg #[.int .i64 m, .slice A n c], .slice B N cB] w fun e w' => e = .returned (.bool (ciB n L m N V)) ∧ Below w.heap.size w w' := by
  have q0 := bal (bal (Below.refl w.heap.size w) (.cells #[.int .i64 m, .slice A n c] 25)) (.cells #[.slice B N cB] 26)
  obtain ⟨b0, b1⟩ := pair_new w (.int .i64 m) (.slice A n c) 25
  replace b0 := carryA (.cells #[.slice B N cB] 26) b0
  replace b1 := carryA (.cells #[.slice B N cB] 26) b1
  have b2 : ((w.alloc (.cells #[.int .i64 m, .slice A n c] 25)).alloc (.cells #[.slice B N cB] 26)).cell? ⟨w.heap.size + 1, 0, none⟩ = some (.slice B N cB) := by simp [go_sem]
  have hO := cnfok_any A n c L m _ hn (hA.below q0)
  generalize hr : ciB n L m N V = res
  have HR := hid hr; clear hr
  cases hc : cnB n L m
  · rw [hc] at hO
    have HF := hid (ciB_no (n := n) (L := L) (m := m) (N := N) (V := V) (fun h => by rw [hc] at h; cases h.1))
    clear hA hB hc
    go_enter Try.func10, Try.ntmps10
    go_wp2_with (go_at_call 12; refine hO.mono ?_; rintro e w1 ⟨rfl, hq⟩)
    go_ret
    exact ⟨ret_bool (HF.out.symm.trans HR.out), btr q0 hq⟩
  rw [hc] at hO
  by_cases hm : (N : Int) = m
  · have d2 : ((N : Int) != m) = false := by simpa using hm
    go_enter Try.func10, Try.ntmps10
    go_wp2_with fail
    refine hO.mono ?_
    rintro e w1 ⟨rfl, hq⟩
    replace b0 := carry hq b0
    replace b1 := carry hq b1
    replace b2 := carry hq b2
    replace q0 := btr q0 hq
    replace hA := hA.below q0
    replace hB := hB.below q0
    clear hO
    have hC := ifs_is A n c (w.heap.size + 1) L (fun k => clB (L.N k) (L.Z k) N V) w1 hn hA (fun k hk W hW a c' hNk hZ => cnfis1_any a B (L.N k) c' (w.heap.size + 1) N cB (L.Z k) V W hNk hN hZ (hB.below hW) (carry hW b2))
    have HT := hid (show (!decide (∃ k, k < n ∧ (fun k => clB (L.N k) (L.Z k) N V) k = false)) = ciB n L m N V by
      rw [not_ex]
      unfold ciB
      congr 1
      exact propext ⟨fun h => ⟨hc, hm, h⟩, fun h => h.2.2⟩)
    generalize decide (∃ k, k < n ∧ (fun k => clB (L.N k) (L.Z k) N V) k = false) = r at hC HT
    clear hA hB hc
    go_wp2_with (go_at_call 30; refine hC.mono ?_; rintro e w2 ⟨rfl, hq2⟩)
    go_ret
    exact ⟨ret_bool (HT.out.trans HR.out), btr q0 hq2⟩
  · have d2 : ((N : Int) != m) = true := by simpa using hm
    have HF := hid (ciB_no (n := n) (L := L) (m := m) (N := N) (V := V) (fun h => hm h.2.1))
    clear hA hB hc hm
    go_enter Try.func10, Try.ntmps10
    go_wp2_with (go_at_call 12; refine hO.mono ?_; rintro e w1 ⟨rfl, hq⟩; replace b0 := carry hq b0; replace b1 := carry hq b1; replace b2 := carry hq b2)
    go_ret
    exact ⟨ret_bool (HF.out.symm.trans HR.out), btr q0 hq⟩
end Go.Proofs.Ytoechhdahokoiaa
