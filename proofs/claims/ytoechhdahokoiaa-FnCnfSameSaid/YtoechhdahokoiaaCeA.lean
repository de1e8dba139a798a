/- Contracts of CnfSame, of the program and of the model. -/
import Derived.Test.YtoechhdahokoiaaCcA
namespace Go.Proofs.Ytoechhdahokoiaa
set_option linter.unusedVariables false
set_option linter.unusedSimpArgs false
open Go.RowKit
set_option maxHeartbeats 1000000 in
theorem sl5_any (A B : Option Addr) (n m c d : Nat) (Z Y : Nat → Int) (w : World) (hn : n ≤ 9223372036854775807) (hm : m ≤ 9223372036854775807) (hA : Ints w A n Z) (hB : Ints w B m Y) :
    Calls Try.prog 40 #[.slice A n c, .slice B m d] w fun e w' => e = .returned (.bool (eqI n Z m Y)) ∧ Below w.heap.size w w' := by
  by_cases hnm : n = m
  · subst hnm
    generalize hr : eqI n Z n Y = res
    have HR := hid hr; clear hr
    go_enter Try.func40, Try.ntmps40
    go_wp2
    go_loopw [5] (fun i wr => ∃ k : Nat, k ≤ n ∧ i = .int .i64 k ∧ Below w.heap.size w wr ∧ ∀ j, j < k → Z j = Y j) (fun i _ => n - (intOf i).toNat)
    case atStart => exact ⟨0, Nat.zero_le _, rfl, Below.refl _ _, fun j hj => by omega⟩
    case round =>
      obtain ⟨k, hk, rfl, hb, he⟩ := hrel
      have HE := hid he; clear he
      by_cases hlt : k < n
      · rcases hA with h0 | ⟨g, off, rfl, hg, hcA⟩
        · omega
        rcases hB with h0 | ⟨g2, off2, rfl, hg2, hcB⟩
        · omega
        have c1 : wr.cell? ⟨g, off + k, none⟩ = some (.int .i64 (Z k)) := (hb.cell (p := ⟨g, off + k, none⟩) hg).trans (hcA k hlt)
        have c2 : wr.cell? ⟨g2, off2 + k, none⟩ = some (.int .i64 (Y k)) := (hb.cell (p := ⟨g2, off2 + k, none⟩) hg2).trans (hcB k hlt)
        clear hcA hcB
        by_cases heq : Z k = Y k
        · have e1 : (Z k == Y k) = true := by simpa using heq
          have e2 : (Z k != Y k) = false := by simpa using heq
          have HQ := hid heq; clear heq
          go_wp2
          go_region
          all_goals
            go_wp2
            go_roundw
            case rel =>
              refine ⟨k + 1, by omega, by go_num, hb.drew, fun j hj => ?_⟩
              by_cases e : j = k
              · subst e; exact HQ.out
              · exact HE.out j (by omega)
            case measure => simp [intOf]; omega
        · have e1 : (Z k == Y k) = false := by simpa using heq
          have e2 : (Z k != Y k) = true := by simpa using heq
          have HF := hid (eqI_at (m := n) hlt heq); clear heq
          go_wp2
          go_region
          all_goals
            go_wp2
            go_ret
            exact ⟨ret_bool (by rw [← HR.out, HF.out]), hb.drew⟩
      · have hke : k = n := by omega
        subst hke
        have HT := hid (eqI_iff.2 ⟨rfl, HE.out⟩)
        go_wp2
        go_ret
        exact ⟨ret_bool (by rw [← HR.out, HT.out]), hb⟩
  · rw [eqI_len hnm]
    have e1 : ((n : Int) == m) = false := by simp; omega
    have e2 : ((n : Int) != m) = true := by simp; omega
    go_enter Try.func40, Try.ntmps40
    go_wp2
    go_ret
    exact ⟨rfl, Below.refl _ _⟩
set_option maxHeartbeats 1000000 in
theorem sleqc_any (A B : Option Addr) (n m c d : Nat) (Z Y : Nat → Int) (w : World) (hn : n ≤ 9223372036854775807) (hm : m ≤ 9223372036854775807) (hA : Ints w A n Z) (hB : Ints w B m Y) :
    Calls Try.prog 39 #[.slice A n c, .slice B m d] w fun e w' => e = .returned (.bool (eqI n Z m Y)) ∧ Below w.heap.size w w' := by
  by_cases hnm : n = m
  · subst hnm
    generalize hr : eqI n Z n Y = res
    have HR := hid hr; clear hr
    go_enter Try.func39, Try.ntmps39
    go_wp2
    go_loopw [13] (fun i wr => ∃ k : Nat, k ≤ n ∧ i = .int .i64 k ∧ Below w.heap.size w wr ∧ ∀ j, j < k → Z j = Y j) (fun i _ => n - (intOf i).toNat)
    case atStart => exact ⟨0, Nat.zero_le _, rfl, Below.refl _ _, fun j hj => by omega⟩
    case round =>
      obtain ⟨k, hk, rfl, hb, he⟩ := hrel
      have HE := hid he; clear he
      by_cases hlt : k < n
      · rcases hA with h0 | ⟨g, off, rfl, hg, hcA⟩
        · omega
        rcases hB with h0 | ⟨g2, off2, rfl, hg2, hcB⟩
        · omega
        have c1 : wr.cell? ⟨g, off + k, none⟩ = some (.int .i64 (Z k)) := (hb.cell (p := ⟨g, off + k, none⟩) hg).trans (hcA k hlt)
        have c2 : wr.cell? ⟨g2, off2 + k, none⟩ = some (.int .i64 (Y k)) := (hb.cell (p := ⟨g2, off2 + k, none⟩) hg2).trans (hcB k hlt)
        clear hcA hcB
        by_cases heq : Z k = Y k
        · have e1 : (Z k == Y k) = true := by simpa using heq
          have e2 : (Z k != Y k) = false := by simpa using heq
          have HQ := hid heq; clear heq
          go_wp2
          go_region
          all_goals
            go_wp2
            go_roundw
            case rel =>
              refine ⟨k + 1, by omega, by go_num, hb.drew, fun j hj => ?_⟩
              by_cases e : j = k
              · subst e; exact HQ.out
              · exact HE.out j (by omega)
            case measure => simp [intOf]; omega
        · have e1 : (Z k == Y k) = false := by simpa using heq
          have e2 : (Z k != Y k) = true := by simpa using heq
          have HF := hid (eqI_at (m := n) hlt heq); clear heq
          go_wp2
          go_region
          all_goals
            go_wp2
            go_ret
            exact ⟨ret_bool (by rw [← HR.out, HF.out]), hb.drew⟩
      · have hke : k = n := by omega
        subst hke
        have HT := hid (eqI_iff.2 ⟨rfl, HE.out⟩)
        go_wp2
        go_ret
        exact ⟨ret_bool (by rw [← HR.out, HT.out]), hb⟩
  · rw [eqI_len hnm]
    have e1 : ((n : Int) == m) = false := by simp; omega
    have e2 : ((n : Int) != m) = true := by simp; omega
    go_enter Try.func39, Try.ntmps39
    go_wp2
    go_ret
    exact ⟨rfl, Below.refl _ _⟩
/-- two formulas are one -/
def csB (n : Nat) (L : Lls) (m : Int) (n' : Nat) (L' : Lls) (m' : Int) : Bool := decide (m = m' ∧ n = n' ∧ ∀ k, k < n → eqI (L.N k) (L.Z k) (L'.N k) (L'.Z k) = true)
theorem csB_iff {n n' : Nat} {L L' : Lls} {m m' : Int} : csB n L m n' L' m' = true ↔ m = m' ∧ n = n' ∧ ∀ k, k < n → eqI (L.N k) (L.Z k) (L'.N k) (L'.Z k) = true := by unfold csB; exact decide_eq_true_iff
theorem csB_no {n n' : Nat} {L L' : Lls} {m m' : Int} (h : ¬ (m = m' ∧ n = n' ∧ ∀ k, k < n → eqI (L.N k) (L.Z k) (L'.N k) (L'.Z k) = true)) : csB n L m n' L' m' = false := by
  cases e : csB n L m n' L' m'
  · rfl
  · exact absurd (csB_iff.1 e) h
set_option maxHeartbeats 2000000 in
theorem scnfsame_any (A A' : Option Addr) (n c n' c' : Nat) (L L' : Lls) (m m' : Int) (w : World) (hn : n ≤ 9223372036854775807) (hn' : n' ≤ 9223372036854775807) (hA : IntSS w A n L) (hA' : IntSS w A' n' L') :
    Calls Try.prog 17 #[.agg #[.int .i64 m, .slice A n c], .agg #[.int .i64 m', .slice A' n' c']] w fun e w' => e = .returned (.bool (csB n L m n' L' m')) ∧ Below w.heap.size w w' := by
  have q0 := bal (bal (Below.refl w.heap.size w) (.cells #[.int .i64 m, .slice A n c] 25)) (.cells #[.int .i64 m', .slice A' n' c'] 25)
  obtain ⟨b0, b1⟩ := pair_new w (.int .i64 m) (.slice A n c) 25
  obtain ⟨b2, b3⟩ := pair_new (w.alloc (.cells #[.int .i64 m, .slice A n c] 25)) (.int .i64 m') (.slice A' n' c') 25
  replace b0 := carryA (.cells #[.int .i64 m', .slice A' n' c'] 25) b0
  replace b1 := carryA (.cells #[.int .i64 m', .slice A' n' c'] 25) b1
  rw [World.size_alloc] at b2 b3
  generalize hr : csB n L m n' L' m' = res
  have HR := hid hr; clear hr
  by_cases hm : m = m'
  · have d1 : (m != m') = false := by simpa using hm
    by_cases hnn : n = n'
    · have d2 : ((n : Int) != n') = false := by simp; omega
      have HM := hid hm
      have HN := hid hnn
      clear hm hnn
      go_enter Try.func17, Try.ntmps17
      go_wp2
      go_loopw [5] (fun i wr => ∃ k : Nat, k ≤ n ∧ i = .int .i64 k ∧ Below ((w.alloc (.cells #[.int .i64 m, .slice A n c] 25)).alloc (.cells #[.int .i64 m', .slice A' n' c'] 25)).heap.size ((w.alloc (.cells #[.int .i64 m, .slice A n c] 25)).alloc (.cells #[.int .i64 m', .slice A' n' c'] 25)) wr ∧ ∀ j, j < k → eqI (L.N j) (L.Z j) (L'.N j) (L'.Z j) = true) (fun i _ => n - (intOf i).toNat)
      case atStart => exact ⟨0, Nat.zero_le _, rfl, Below.refl _ _, fun j hj => by omega⟩
      case round =>
        obtain ⟨k, hk, rfl, hb, he⟩ := hrel
        have HE := hid he; clear he
        replace b0 := carry hb b0
        replace b1 := carry hb b1
        replace b2 := carry hb b2
        replace b3 := carry hb b3
        have q1 := btr q0 hb
        have l0 := cell_lt b0
        have l2 := cell_lt b2
        by_cases hlt : k < n
        · have hlt' : k < n' := by have := HN.out; omega
          rcases hA with h0 | ⟨g, off, rfl, hg, hcA⟩
          · omega
          rcases hA' with h0 | ⟨g', off', rfl, hg', hcA'⟩
          · omega
          obtain ⟨a, ca, a0, hNk, hI⟩ := hcA k hlt
          obtain ⟨a', ca', a0', hNk', hI'⟩ := hcA' k hlt'
          have gg : g < wr.heap.size := Nat.lt_of_lt_of_le hg q1.size
          have gg' : g' < wr.heap.size := Nat.lt_of_lt_of_le hg' q1.size
          replace a0 := carry q1 a0
          replace a0' := carry q1 a0'
          replace hI := hI.below q1
          replace hI' := hI'.below q1
          have hE := fun X : Gro wr => sl5_any a a' (L.N k) (L'.N k) ca ca' (L.Z k) (L'.Z k) (gro wr X) hNk hNk' (hI.below X.h) (hI'.below X.h)
          clear hcA hcA' hI hI'
          have gc := @gro_cell wr
          cases hv : eqI (L.N k) (L.Z k) (L'.N k) (L'.Z k)
          · rw [hv] at hE
            have HF := hid (csB_no (n := n) (n' := n') (L := L) (L' := L') (m := m) (m' := m') (fun h => by have := h.2.2 k hlt; rw [hv] at this; cases this)); clear hv
            go_upto_region 6 with fail
            refine wp_region_grow_lit (by kernel_rfl) (by kernel_rfl) ?_
            repeat (go_big_quiet_step ((go_at_call 40; exact grow_call _ (hE _))))
            refine wpQuiet_nil ?_
            rintro _ ⟨X, rfl⟩
            clear gc
            go_wp2
            go_ret
            exact ⟨ret_bool (HF.out.symm.trans HR.out), btr q1 X.h⟩
          · rw [hv] at hE
            have HQ := hid hv; clear hv
            go_upto_region 6 with fail
            refine wp_region_grow_lit (by kernel_rfl) (by kernel_rfl) ?_
            repeat (go_big_quiet_step ((go_at_call 40; exact grow_call _ (hE _))))
            refine wpQuiet_nil ?_
            rintro _ ⟨X, rfl⟩
            clear gc
            go_wp2
            go_roundw
            case rel =>
              refine ⟨k + 1, by omega, by go_num, btr hb X.h, fun j hj => ?_⟩
              by_cases e : j = k
              · subst e; exact HQ.out
              · exact HE.out j (by omega)
            case measure => simp [intOf]; omega
        · have hke : k = n := by omega
          subst hke
          have HT := hid (csB_iff.2 ⟨HM.out, HN.out, HE.out⟩)
          go_wp2
          go_ret
          exact ⟨ret_bool (HT.out.symm.trans HR.out), q1⟩
    · have d2 : ((n : Int) != n') = true := by simp; omega
      have HF := hid (csB_no (n := n) (n' := n') (L := L) (L' := L') (m := m) (m' := m') (fun h => hnn h.2.1))
      clear hA hA' hm hnn
      go_enter Try.func17, Try.ntmps17
      go_wp2
      go_ret
      exact ⟨ret_bool (HF.out.symm.trans HR.out), q0⟩
  · have d1 : (m != m') = true := by simpa using hm
    have HF := hid (csB_no (n := n) (n' := n') (L := L) (L' := L') (m := m) (m' := m') (fun h => hm h.1))
    clear hA hA' hm
    go_enter Try.func17, Try.ntmps17
    go_wp2
    go_ret
    exact ⟨ret_bool (HF.out.symm.trans HR.out), q0⟩
/-- two lists of rows are one -/
def esB (n : Nat) (L : Lls) (n' : Nat) (L' : Lls) : Bool := decide (n = n' ∧ ∀ k, k < n → eqI (L.N k) (L.Z k) (L'.N k) (L'.Z k) = true)
theorem esB_iff {n n' : Nat} {L L' : Lls} : esB n L n' L' = true ↔ n = n' ∧ ∀ k, k < n → eqI (L.N k) (L.Z k) (L'.N k) (L'.Z k) = true := by unfold esB; exact decide_eq_true_iff
theorem esB_no {n n' : Nat} {L L' : Lls} (h : ¬ (n = n' ∧ ∀ k, k < n → eqI (L.N k) (L.Z k) (L'.N k) (L'.Z k) = true)) : esB n L n' L' = false := by
  cases e : esB n L n' L'
  · rfl
  · exact absurd (esB_iff.1 e) h
set_option maxHeartbeats 2000000 in
theorem eqfc_any (A A' : Option Addr) (n c n' c' : Nat) (L L' : Lls) (w : World) (hn : n ≤ 9223372036854775807) (hn' : n' ≤ 9223372036854775807) (hA : IntSS w A n L) (hA' : IntSS w A' n' L') :
    Calls Try.prog 38 #[.slice A n c, .slice A' n' c', .func (.func 39) #[] #[]] w fun e w' => e = .returned (.bool (esB n L n' L')) ∧ Below w.heap.size w w' := by
  generalize hr : esB n L n' L' = res
  have HR := hid hr; clear hr
  by_cases hnm : n = n'
  · subst hnm
    go_enter Try.func38, Try.ntmps38
    go_wp2
    go_loopw [17] (fun i wr => ∃ k : Nat, k ≤ n ∧ i = .int .i64 k ∧ Below w.heap.size w wr ∧ ∀ j, j < k → eqI (L.N j) (L.Z j) (L'.N j) (L'.Z j) = true) (fun i _ => n - (intOf i).toNat)
    case atStart => exact ⟨0, Nat.zero_le _, rfl, Below.refl _ _, fun j hj => by omega⟩
    case round =>
      obtain ⟨k, hk, rfl, hb, he⟩ := hrel
      have HE := hid he; clear he
      by_cases hlt : k < n
      · rcases hA with h0 | ⟨g, off, rfl, hg, hcA⟩
        · omega
        rcases hA' with h0 | ⟨g', off', rfl, hg', hcA'⟩
        · omega
        obtain ⟨a, ca, a0, hNk, hI⟩ := hcA k hlt
        obtain ⟨a', ca', a0', hNk', hI'⟩ := hcA' k hlt
        replace a0 := carry hb a0
        replace a0' := carry hb a0'
        have hE := sleqc_any a a' (L.N k) (L'.N k) ca ca' (L.Z k) (L'.Z k) wr hNk hNk' (hI.below hb) (hI'.below hb)
        clear hcA hcA' hI hI'
        cases hv : eqI (L.N k) (L.Z k) (L'.N k) (L'.Z k)
        · rw [hv] at hE
          have HF := hid (esB_no (n := n) (n' := n) (L := L) (L' := L') (fun h => by have := h.2 k hlt; rw [hv] at this; cases this)); clear hv
          go_wp2_with (go_at_call 39; refine hE.mono ?_; rintro e w1 ⟨rfl, hq⟩)
          go_ret
          exact ⟨ret_bool (HF.out.symm.trans HR.out), btr hb hq⟩
        · rw [hv] at hE
          have HV := hid hv; clear hv
          go_wp2_with (go_at_call 39; refine hE.mono ?_; rintro e w1 ⟨rfl, hq⟩)
          go_roundw
          case rel =>
            refine ⟨k + 1, by omega, by go_num, btr hb hq, fun j hj => ?_⟩
            by_cases e : j = k
            · subst e; exact HV.out
            · exact HE.out j (by omega)
          case measure => simp [intOf]; omega
      · have hke : k = n := by omega
        subst hke
        have HT := hid (esB_iff.2 ⟨rfl, HE.out⟩)
        go_wp2
        go_ret
        exact ⟨ret_bool (HT.out.symm.trans HR.out), hb⟩
  · have HF := hid (esB_no (L := L) (L' := L') (fun h => hnm h.1))
    have d1 : ((n : Int) != n') = true := by simp; omega
    clear hnm
    go_enter Try.func38, Try.ntmps38
    go_wp2
    go_ret
    exact ⟨ret_bool (HF.out.symm.trans HR.out), Below.refl _ _⟩
theorem cnfsame_any (A A' : Option Addr) (n c n' c' : Nat) (L L' : Lls) (m m' : Int) (w : World) (hn : n ≤ 9223372036854775807) (hn' : n' ≤ 9223372036854775807) (hA : IntSS w A n L) (hA' : IntSS w A' n' L') :
    Calls Try.prog 16 #[.agg #[.int .i64 m, .slice A n c], .agg #[.int .i64 m', .slice A' n' c']] w fun e w' => e = .returned (.bool (csB n L m n' L' m')) ∧ Below w.heap.size w w' := by
  have q0 := bal (bal (Below.refl w.heap.size w) (.cells #[.int .i64 m, .slice A n c] 25)) (.cells #[.int .i64 m', .slice A' n' c'] 25)
  have hE := eqfc_any A A' n c n' c' L L' _ hn hn' (hA.below q0) (hA'.below q0)
  have hR : csB n L m n' L' m' = (decide (m = m') && esB n L n' L') := by unfold csB esB; rw [← Bool.decide_and]
  clear hA hA' hn hn'
  by_cases hm : m = m'
  · rw [hR, decide_eq_true hm]
    have d1 : (m == m') = true := by simpa using hm
    clear hR hm
    generalize esB n L n' L' = r at hE ⊢
    go_enter Try.func16, Try.ntmps16
    go_wp2_with (go_at_call 38; refine hE.mono ?_; rintro e w1 ⟨rfl, hq⟩)
    go_ret
    exact ⟨ret_bool (by simp), btr q0 hq⟩
  · rw [hR, decide_eq_false hm]
    have d1 : (m == m') = false := by simpa using hm
    clear hR hm hE
    go_enter Try.func16, Try.ntmps16
    go_wp2
    go_ret
    exact ⟨ret_bool (by simp), q0⟩
end Go.Proofs.Ytoechhdahokoiaa
