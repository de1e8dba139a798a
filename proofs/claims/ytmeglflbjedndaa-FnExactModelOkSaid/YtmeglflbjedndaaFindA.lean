/- Finding a symbol by its name: the order of texts; contracts of cmp.Compare, the closure, slices.BinarySearchFunc. -/
import Derived.Test.YtmeglflbjedndaaSigC
import Derived.Test.YtmeglflbjedndaaTermD
import Derived.Laws.Shifts
namespace Go.Proofs.Ytmeglflbjedndaa
set_option linter.unusedVariables false
set_option linter.unusedSimpArgs false
open Go.RowKit
theorem bl_irr : ∀ a : List UInt8, Op.bytesLess a a = false
  | [] => rfl
  | a :: x => by simp [Op.bytesLess, bl_irr x]
theorem bl_nil (a : List UInt8) : Op.bytesLess a [] = false := by cases a <;> rfl
theorem bl_trans : ∀ {a b c : List UInt8}, Op.bytesLess a b = true → Op.bytesLess b c = true → Op.bytesLess a c = true
  | _, [], _, h, _ => by rw [bl_nil] at h; cases h
  | _, _ :: _, [], _, h => by rw [bl_nil] at h; cases h
  | [], _ :: _, _ :: _, _, _ => rfl
  | x :: a, y :: b, z :: c, h1, h2 => by
    have ih := @bl_trans a b c
    simp only [Op.bytesLess, Bool.or_eq_true, Bool.and_eq_true, beq_iff_eq, decide_eq_true_eq] at h1 h2 ⊢
    rcases h1 with h1 | ⟨rfl, h1⟩
    · rcases h2 with h2 | ⟨rfl, h2⟩
      · exact .inl (UInt8.lt_trans h1 h2)
      · exact .inl h1
    · rcases h2 with h2 | ⟨rfl, h2⟩
      · exact .inl h2
      · exact .inr ⟨rfl, ih h1 h2⟩
theorem bl_tri : ∀ {a b : List UInt8}, Op.bytesLess a b = false → Op.bytesLess b a = false → a = b
  | [], [], _, _ => rfl
  | [], _ :: _, h, _ => by cases h
  | _ :: _, [], _, h => by cases h
  | x :: a, y :: b, h1, h2 => by
    have ih := @bl_tri a b
    simp only [Op.bytesLess, Bool.or_eq_false_iff, Bool.and_eq_false_iff, decide_eq_false_iff_not] at h1 h2
    have e : x = y := UInt8.le_antisymm (UInt8.not_lt.1 h2.1) (UInt8.not_lt.1 h1.1)
    subst e
    rw [ih (by simpa using h1.2) (by simpa using h2.2)]
/-- how two texts compare -/
def cmpI (a b : ByteArray) : Int := if Op.bytesLess a.toList b.toList = true then -1 else if a.toList = b.toList then 0 else 1
theorem cmpI_neg {a b : ByteArray} : cmpI a b < 0 ↔ Op.bytesLess a.toList b.toList = true := by
  unfold cmpI
  by_cases h : Op.bytesLess a.toList b.toList = true
  · rw [if_pos h]; exact ⟨fun _ => h, fun _ => by omega⟩
  · rw [if_neg h]; by_cases e : a.toList = b.toList
    · rw [if_pos e]; exact ⟨fun h => by omega, fun h' => absurd h' h⟩
    · rw [if_neg e]; exact ⟨fun h => by omega, fun h' => absurd h' h⟩
theorem cmpI_zero {a b : ByteArray} : cmpI a b = 0 ↔ a.toList = b.toList := by
  unfold cmpI
  by_cases h : Op.bytesLess a.toList b.toList = true
  · rw [if_pos h]; exact ⟨fun h => by omega, fun e => by rw [e, bl_irr] at h; cases h⟩
  · rw [if_neg h]; by_cases e : a.toList = b.toList
    · rw [if_pos e]; exact ⟨fun _ => e, fun _ => rfl⟩
    · rw [if_neg e]; exact ⟨fun h => by omega, fun h' => absurd h' e⟩
theorem nan_any (x : ByteArray) (w : World) : Calls Try.prog 225 #[.string x] w fun e w' => e = .returned (.bool false) ∧ w = w' := by
  have dk : (x.toList == x.toList) = true := by simp
  go_enter Try.func225, Try.ntmps225
  go_wp2
  go_ret
  exact ⟨rfl, rfl⟩
theorem cmp_at {a b : ByteArray} {v : Int} (h : cmpI a b = v) (w : World) : Calls Try.prog 199 #[.string a, .string b] w fun e w' => e = .returned (.int .i64 v) ∧ w = w' := by
  have hN := fun x => nan_any x w
  have HV := hid h; clear h
  cases hl : Op.bytesLess a.toList b.toList
  · cases he : (a.toList == b.toList)
    · have hv := hid (show (1 : Int) = v by rw [← HV.out]; unfold cmpI; rw [hl, if_neg (by simp), if_neg (by simpa using he)])
      go_enter Try.func199, Try.ntmps199
      go_wp2_with (go_at_call 225; refine (hN _).mono ?_; rintro e w1 ⟨rfl, rfl⟩)
      go_ret
      exact ⟨ret_i64 hv.out, rfl⟩
    · have hv := hid (show (0 : Int) = v by rw [← HV.out]; unfold cmpI; rw [hl, if_neg (by simp), if_pos (by simpa using he)])
      go_enter Try.func199, Try.ntmps199
      go_wp2_with (go_at_call 225; refine (hN _).mono ?_; rintro e w1 ⟨rfl, rfl⟩)
      go_ret
      exact ⟨ret_i64 hv.out, rfl⟩
  · have hv := hid (show (-1 : Int) = v by rw [← HV.out]; unfold cmpI; rw [hl, if_pos rfl])
    go_enter Try.func199, Try.ntmps199
    go_wp2_with (go_at_call 225; refine (hN _).mono ?_; rintro e w1 ⟨rfl, rfl⟩)
    go_ret
    exact ⟨ret_i64 hv.out, rfl⟩
theorem find1_at {nm x : ByteArray} {v : Int} (h : cmpI nm x = v) (A : Option Addr) (n c : Nat) (s : Int) (b : Nat) (w : World) (hb : w.cell? ⟨b, 1, none⟩ = some (.func (.func 186) #[] #[])) :
    Calls Try.prog 204 #[.agg #[.string nm, .slice A n c, .int .i64 s], .string x, .pointer (some ⟨b, 0, none⟩)] w fun e w' => e = .returned (.int .i64 v) ∧ Below w.heap.size w w' := by
  have hC := fun W => cmp_at h W
  have q0 := bal (Below.refl w.heap.size w) (.cells #[.string nm, .slice A n c, .int .i64 s] 105)
  have b1 := carryA (.cells #[.string nm, .slice A n c, .int .i64 s] 105) hb
  have hK := fun W => key_any nm A n c s W
  obtain ⟨c0, c1, c2⟩ := new3 w (.string nm) (.slice A n c) (.int .i64 s) 105
  go_enter Try.func204, Try.ntmps204
  go_wp2_with (first | (go_at_call 186; refine (hK _).mono ?_; rintro e w1 ⟨rfl, hq⟩) | (go_at_call 199; refine (hC _).mono ?_; rintro e w2 ⟨rfl, rfl⟩))
  go_ret
  exact ⟨rfl, btr q0 (by assumption)⟩
/-- where a name stands first, or n -/
def fnd (Nm : Nat → ByteArray) (x : ByteArray) : Nat → Nat
  | 0 => 0
  | n + 1 => if fnd Nm x n < n then fnd Nm x n else if (Nm n).toList = x.toList then n else n + 1
theorem fnd_spec (Nm : Nat → ByteArray) (x : ByteArray) : ∀ n, fnd Nm x n ≤ n ∧ (∀ j, j < fnd Nm x n → (Nm j).toList ≠ x.toList) ∧ (fnd Nm x n < n → (Nm (fnd Nm x n)).toList = x.toList)
  | 0 => ⟨Nat.le_refl _, fun j hj => absurd hj (by simp [fnd]), fun h => by simp [fnd] at h⟩
  | n + 1 => by
    obtain ⟨h1, h2, h3⟩ := fnd_spec Nm x n
    rw [fnd]
    by_cases h : fnd Nm x n < n
    · rw [if_pos h]; exact ⟨by omega, h2, fun _ => h3 h⟩
    · rw [if_neg h]
      have e : fnd Nm x n = n := by omega
      rw [e] at h2
      by_cases he : (Nm n).toList = x.toList
      · rw [if_pos he]; exact ⟨by omega, h2, fun _ => he⟩
      · rw [if_neg he]; refine ⟨Nat.le_refl _, fun j hj => ?_, fun h => by omega⟩
        by_cases hj2 : j = n
        · rw [hj2]; exact he
        · exact h2 j (by omega)
theorem fnd_of {Nm : Nat → ByteArray} {x : ByteArray} {n k : Nat} (hk : k < n) (he : (Nm k).toList = x.toList) (hl : ∀ j, j < k → (Nm j).toList ≠ x.toList) : fnd Nm x n = k := by
  obtain ⟨h1, h2, h3⟩ := fnd_spec Nm x n
  rcases Nat.lt_trichotomy (fnd Nm x n) k with h | h | h
  · exact absurd (h3 (by omega)) (hl _ h)
  · exact h
  · exact absurd he (h2 k h)
theorem fnd_none {Nm : Nat → ByteArray} {x : ByteArray} {n : Nat} (hl : ∀ j, j < n → (Nm j).toList ≠ x.toList) : fnd Nm x n = n := by
  obtain ⟨h1, h2, h3⟩ := fnd_spec Nm x n
  by_cases h : fnd Nm x n < n
  · exact absurd (h3 h) (hl _ h)
  · omega
theorem asc_lt {n : Nat} {Nm : Nat → ByteArray} (h : ascB n Nm = true) : ∀ {j k : Nat}, k < j → j < n → Op.bytesLess (Nm k).toList (Nm j).toList = true
  | 0, k, hk, _ => by omega
  | j + 1, k, hk, hj => by
    have h1 := ascB_iff.1 h j (by omega) hj
    by_cases e : k = j
    · rw [e]; exact h1
    · exact bl_trans (asc_lt h (show k < j by omega) (by omega)) h1
theorem asc_neg {n : Nat} {Nm : Nat → ByteArray} (h : ascB n Nm = true) {x : ByteArray} {j k : Nat} (hk : k ≤ j) (hj : j < n) (hc : Op.bytesLess (Nm j).toList x.toList = true) : Op.bytesLess (Nm k).toList x.toList = true := by
  by_cases e : k = j
  · rw [e]; exact hc
  · exact bl_trans (asc_lt h (show k < j by omega) hj) hc
theorem bl_ne {a b : List UInt8} (h : Op.bytesLess a b = true) : a ≠ b := fun e => by rw [e, bl_irr] at h; cases h
/-- what the halving leaves -/
theorem half_fnd {n i : Nat} {Nm : Nat → ByteArray} {x : ByteArray} (h : ascB n Nm = true) (hi : i ≤ n) (hl : ∀ k, k < i → Op.bytesLess (Nm k).toList x.toList = true) (hr : ∀ k, i ≤ k → k < n → Op.bytesLess (Nm k).toList x.toList = false) :
    (i < n → (Nm i).toList = x.toList → fnd Nm x n = i) ∧ (i < n → (Nm i).toList ≠ x.toList → fnd Nm x n = n) ∧ (i = n → fnd Nm x n = n) := by
  refine ⟨fun hn he => fnd_of hn he fun j hj => bl_ne (hl j hj), fun hn he => fnd_none fun j hj => ?_, fun e => fnd_none fun j hj => bl_ne (hl j (by omega))⟩
  by_cases h1 : j < i
  · exact bl_ne (hl j h1)
  · by_cases h2 : j = i
    · rw [h2]; exact he
    · intro h3
      have := asc_lt h (show i < j by omega) hj
      rw [h3, hr i (Nat.le_refl _) hn] at this; cases this
set_option maxRecDepth 100000 in
set_option maxHeartbeats 2000000 in
theorem bsf_any (A : Option Addr) (n c : Nat) (L : Sy) (x : ByteArray) (b : Nat) (w : World) (hn : n ≤ 1048576) (hA : Syms w A n L) (hs : ascB n L.Nm = true) (hb : w.cell? ⟨b, 1, none⟩ = some (.func (.func 186) #[] #[])) :
    Calls Try.prog 203 #[.slice A n c, .string x, .func (.func 204) #[] #[.pointer (some ⟨b, 0, none⟩)]] w fun e w' =>
      ∃ i : Nat, i ≤ n ∧ e = .returned (.tuple #[.int .i64 (i : Int), .bool (decide (fnd L.Nm x n < n))]) ∧ (fnd L.Nm x n < n → i = fnd L.Nm x n) ∧ Below w.heap.size w w' := by
  have HS := hid hs; clear hs
  have hsh : ∀ a : Int, Op.shift .shr .u64 a .u64 1 = pure (.int .u64 (a / 2)) := fun a => by simp [go_sem]
  go_enter Try.func203, Try.ntmps203
  go_wp2
  go_loopw [9, 10] (fun i j wr => ∃ p q : Nat, p ≤ q ∧ q ≤ n ∧ i = .int .i64 p ∧ j = .int .i64 q ∧ Below w.heap.size w wr ∧ (∀ k, k < p → Op.bytesLess (L.Nm k).toList x.toList = true) ∧ (∀ k, q ≤ k → k < n → Op.bytesLess (L.Nm k).toList x.toList = false)) (fun i j _ => (intOf j).toNat - (intOf i).toNat)
  case atStart => exact ⟨0, n, Nat.zero_le _, Nat.le_refl _, rfl, rfl, Below.refl _ _, fun k hk => by omega, fun k hk h2 => by omega⟩
  case round =>
    obtain ⟨p, q, hpq, hq, rfl, rfl, hbw, hl, hr⟩ := hrel
    have HL := hid hl; have HR := hid hr; clear hl hr
    have b1 := carry hbw hb
    by_cases hlt : p < q
    · rcases hA with h0 | ⟨g, off, rfl, hg, hcA⟩
      · omega
      obtain ⟨h, hh⟩ : ∃ h, h = (p + q) / 2 := ⟨_, rfl⟩
      have hpn : h < n := by omega
      obtain ⟨a, ca, a0, a1, a2, _, _, _⟩ := hcA h hpn
      have gg : g < wr.heap.size := Nat.lt_of_lt_of_le hg hbw.size
      replace a0 := carry hbw a0
      replace a1 := carry hbw a1
      replace a2 := carry hbw a2
      clear hcA
      have eh : ((p : Int) + (q : Int)) / 2 = (h : Int) := by omega
      have hp2 : p ≤ h := by omega
      have hq2 : h + 1 ≤ q := by omega
      clear hh
      by_cases hc : cmpI (L.Nm h) x < 0
      · have HC := hid (cmpI_neg.1 hc)
        obtain ⟨v, hv⟩ : ∃ v, cmpI (L.Nm h) x = v := ⟨_, rfl⟩
        rw [hv] at hc
        have hF := fun A n c s => find1_at hv A n c s b wr b1
        clear hv
        have dv : decide (v < 0) = true := by simpa using hc
        go_wp2_with (go_at_call 204; refine (hF _ _ _ _).mono ?_; rintro e w1 ⟨rfl, hq1⟩)
        go_roundw
        case rel =>
          exact ⟨h + 1, q, by omega, hq, by go_num, rfl, btr hbw hq1, fun k hk => asc_neg HS.out (show k ≤ h by omega) hpn HC.out, HR.out⟩
        case measure => simp [intOf]; omega
      · have HC := hid (show Op.bytesLess (L.Nm h).toList x.toList = false by
          cases e : Op.bytesLess (L.Nm h).toList x.toList
          · rfl
          · exact absurd (cmpI_neg.2 e) hc)
        obtain ⟨v, hv⟩ : ∃ v, cmpI (L.Nm h) x = v := ⟨_, rfl⟩
        rw [hv] at hc
        have hF := fun A n c s => find1_at hv A n c s b wr b1
        clear hv
        have dv : decide (v < 0) = false := by simp; omega
        go_wp2_with (go_at_call 204; refine (hF _ _ _ _).mono ?_; rintro e w1 ⟨rfl, hq1⟩)
        go_roundw
        case rel =>
          refine ⟨p, h, by omega, by omega, rfl, rfl, btr hbw hq1, HL.out, fun k hk hkn => ?_⟩
          cases e : Op.bytesLess (L.Nm k).toList x.toList
          · rfl
          · have := asc_neg HS.out hk hkn e
            rw [HC.out] at this; cases this
        case measure => simp [intOf]; omega
    · have hpe : p = q := by omega
      subst hpe
      have HH := hid (half_fnd HS.out hq HL.out HR.out)
      have d1 : decide ((p : Int) < (p : Int)) = false := by simp
      by_cases hpn : p < n
      · rcases hA with h0 | ⟨g, off, rfl, hg, hcA⟩
        · omega
        obtain ⟨a, ca, a0, a1, a2, _, _, _⟩ := hcA p hpn
        have gg : g < wr.heap.size := Nat.lt_of_lt_of_le hg hbw.size
        replace a0 := carry hbw a0
        replace a1 := carry hbw a1
        replace a2 := carry hbw a2
        clear hcA
        have HF : Hid (decide (fnd L.Nm x n < n) = (cmpI (L.Nm p) x == 0) ∧ (fnd L.Nm x n < n → p = fnd L.Nm x n)) := by
          refine hid ?_
          by_cases e : (L.Nm p).toList = x.toList
          · rw [HH.out.1 hpn e, cmpI_zero.2 e]; exact ⟨by simp [hpn], fun _ => rfl⟩
          · rw [HH.out.2.1 hpn e]
            have : (cmpI (L.Nm p) x == 0) = false := by simpa using fun h => e (cmpI_zero.1 h)
            rw [this]; exact ⟨by simp, fun h => by omega⟩
        obtain ⟨v, hv⟩ : ∃ v, cmpI (L.Nm p) x = v := ⟨_, rfl⟩
        rw [hv] at HF
        have hF := fun A n c s => find1_at hv A n c s b wr b1
        clear hv
        go_wp2_with (go_at_call 204; refine (hF _ _ _ _).mono ?_; rintro e w1 ⟨rfl, hq1⟩)
        go_ret2
        refine ⟨p, by omega, ?_, HF.out.2, btr hbw hq1⟩
        rw [HF.out.1]; simp
      · have HF := hid (HH.out.2.2 (by omega))
        have d2 : decide ((p : Int) < (n : Int)) = false := by simp; omega
        go_wp2
        go_ret2
        refine ⟨p, by omega, ?_, fun h => by rw [HF.out] at h; omega, hbw⟩
        rw [HF.out]; simp
end Go.Proofs.Ytmeglflbjedndaa
