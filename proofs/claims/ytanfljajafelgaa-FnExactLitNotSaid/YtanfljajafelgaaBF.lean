/- Several texts in one: FindA, FindB, FindC, FindD, FindE. -/
import Derived.Test.YtanfljajafelgaaBS
import Derived.Test.YtanfljajafelgaaBU
import Derived.Laws.Shifts
import Derived.Test.YtanfljajafelgaaPlanB
namespace Go.Proofs.Ytanfljajafelgaa
set_option linter.unusedVariables false
set_option linter.unusedSimpArgs false
open Go.RowKit
theorem bl_irr : ∀ a : List UInt8, Op.bytesLess a a = false
  | [] => rfl
  | a :: x => by simp [Op.bytesLess, bl_irr x]
theorem bl_nil (a : List UInt8) : Op.bytesLess a [] = false := by cases a <;> rfl
theorem bl_trans : ∀ {a b c : List UInt8}, Op.bytesLess a b = true → Op.bytesLess b c = true → Op.bytesLess a c = true
  | _, [], _, h, _ => by rw [bl_nil] at h; cases h
  | _, _ :: _, [], _, h => by rw [bl_nil] at h; cases h
  | [], _ :: _, _ :: _, _, _ => rfl
  | x :: a, y :: b, z :: c, h1, h2 => by
    have ih := @bl_trans a b c
    simp only [Op.bytesLess, Bool.or_eq_true, Bool.and_eq_true, beq_iff_eq, decide_eq_true_eq] at h1 h2 ⊢
    rcases h1 with h1 | ⟨rfl, h1⟩
    · rcases h2 with h2 | ⟨rfl, h2⟩
      · exact .inl (UInt8.lt_trans h1 h2)
      · exact .inl h1
    · rcases h2 with h2 | ⟨rfl, h2⟩
      · exact .inl h2
      · exact .inr ⟨rfl, ih h1 h2⟩
theorem bl_tri : ∀ {a b : List UInt8}, Op.bytesLess a b = false → Op.bytesLess b a = false → a = b
  | [], [], _, _ => rfl
  | [], _ :: _, h, _ => by cases h
  | _ :: _, [], _, h => by cases h
  | x :: a, y :: b, h1, h2 => by
    have ih := @bl_tri a b
    simp only [Op.bytesLess, Bool.or_eq_false_iff, Bool.and_eq_false_iff, decide_eq_false_iff_not] at h1 h2
    have e : x = y := UInt8.le_antisymm (UInt8.not_lt.1 h2.1) (UInt8.not_lt.1 h1.1)
    subst e
    rw [ih (by simpa using h1.2) (by simpa using h2.2)]
/-- how two texts compare -/
def cmpI (a b : ByteArray) : Int := if Op.bytesLess a.toList b.toList = true then -1 else if a.toList = b.toList then 0 else 1
theorem cmpI_neg {a b : ByteArray} : cmpI a b < 0 ↔ Op.bytesLess a.toList b.toList = true := by
  unfold cmpI
  by_cases h : Op.bytesLess a.toList b.toList = true
  · rw [if_pos h]; exact ⟨fun _ => h, fun _ => by omega⟩
  · rw [if_neg h]; by_cases e : a.toList = b.toList
    · rw [if_pos e]; exact ⟨fun h => by omega, fun h' => absurd h' h⟩
    · rw [if_neg e]; exact ⟨fun h => by omega, fun h' => absurd h' h⟩
theorem cmpI_zero {a b : ByteArray} : cmpI a b = 0 ↔ a.toList = b.toList := by
  unfold cmpI
  by_cases h : Op.bytesLess a.toList b.toList = true
  · rw [if_pos h]; exact ⟨fun h => by omega, fun e => by rw [e, bl_irr] at h; cases h⟩
  · rw [if_neg h]; by_cases e : a.toList = b.toList
    · rw [if_pos e]; exact ⟨fun _ => e, fun _ => rfl⟩
    · rw [if_neg e]; exact ⟨fun h => by omega, fun h' => absurd h' e⟩
theorem nan_any (x : ByteArray) (w : World) : Calls Try.prog 249 #[.string x] w fun e w' => e = .returned (.bool false) ∧ w = w' := by
  have dk : (x.toList == x.toList) = true := by simp
  go_enter Try.func249, Try.ntmps249
  go_wp2
  go_ret
  exact ⟨rfl, rfl⟩
theorem cmp_at {a b : ByteArray} {v : Int} (h : cmpI a b = v) (w : World) : Calls Try.prog 238 #[.string a, .string b] w fun e w' => e = .returned (.int .i64 v) ∧ w = w' := by
  have hN := fun x => nan_any x w
  have HV := hid h; clear h
  cases hl : Op.bytesLess a.toList b.toList
  · cases he : (a.toList == b.toList)
    · have hv := hid (show (1 : Int) = v by rw [← HV.out]; unfold cmpI; rw [hl, if_neg (by simp), if_neg (by simpa using he)])
      go_enter Try.func238, Try.ntmps238
      go_wp2_with (go_at_call 249; refine (hN _).mono ?_; rintro e w1 ⟨rfl, rfl⟩)
      go_ret
      exact ⟨ret_i64 hv.out, rfl⟩
    · have hv := hid (show (0 : Int) = v by rw [← HV.out]; unfold cmpI; rw [hl, if_neg (by simp), if_pos (by simpa using he)])
      go_enter Try.func238, Try.ntmps238
      go_wp2_with (go_at_call 249; refine (hN _).mono ?_; rintro e w1 ⟨rfl, rfl⟩)
      go_ret
      exact ⟨ret_i64 hv.out, rfl⟩
  · have hv := hid (show (-1 : Int) = v by rw [← HV.out]; unfold cmpI; rw [hl, if_pos rfl])
    go_enter Try.func238, Try.ntmps238
    go_wp2_with (go_at_call 249; refine (hN _).mono ?_; rintro e w1 ⟨rfl, rfl⟩)
    go_ret
    exact ⟨ret_i64 hv.out, rfl⟩
theorem find1_at {nm x : ByteArray} {v : Int} (h : cmpI nm x = v) (A : Option Addr) (n c : Nat) (s : Int) (b : Nat) (w : World) (hb : w.cell? ⟨b, 1, none⟩ = some (.func (.func 237) #[] #[])) :
    Calls Try.prog 243 #[.agg #[.string nm, .slice A n c, .int .i64 s], .string x, .pointer (some ⟨b, 0, none⟩)] w fun e w' => e = .returned (.int .i64 v) ∧ Below w.heap.size w w' := by
  have hC := fun W => cmp_at h W
  have q0 := bal (Below.refl w.heap.size w) (.cells #[.string nm, .slice A n c, .int .i64 s] 33)
  have b1 := carryA (.cells #[.string nm, .slice A n c, .int .i64 s] 33) hb
  have hK := fun W => key_any nm A n c s W
  obtain ⟨c0, c1, c2⟩ := new3 w (.string nm) (.slice A n c) (.int .i64 s) 33
  go_enter Try.func243, Try.ntmps243
  go_wp2_with (first | (go_at_call 237; refine (hK _).mono ?_; rintro e w1 ⟨rfl, hq⟩) | (go_at_call 238; refine (hC _).mono ?_; rintro e w2 ⟨rfl, rfl⟩))
  go_ret
  exact ⟨rfl, btr q0 (by assumption)⟩
/-- where a name stands first, or n -/
def fnd (Nm : Nat → ByteArray) (x : ByteArray) : Nat → Nat
  | 0 => 0
  | n + 1 => if fnd Nm x n < n then fnd Nm x n else if (Nm n).toList = x.toList then n else n + 1
theorem fnd_spec (Nm : Nat → ByteArray) (x : ByteArray) : ∀ n, fnd Nm x n ≤ n ∧ (∀ j, j < fnd Nm x n → (Nm j).toList ≠ x.toList) ∧ (fnd Nm x n < n → (Nm (fnd Nm x n)).toList = x.toList)
  | 0 => ⟨Nat.le_refl _, fun j hj => absurd hj (by simp [fnd]), fun h => by simp [fnd] at h⟩
  | n + 1 => by
    obtain ⟨h1, h2, h3⟩ := fnd_spec Nm x n
    rw [fnd]
    by_cases h : fnd Nm x n < n
    · rw [if_pos h]; exact ⟨by omega, h2, fun _ => h3 h⟩
    · rw [if_neg h]
      have e : fnd Nm x n = n := by omega
      rw [e] at h2
      by_cases he : (Nm n).toList = x.toList
      · rw [if_pos he]; exact ⟨by omega, h2, fun _ => he⟩
      · rw [if_neg he]; refine ⟨Nat.le_refl _, fun j hj => ?_, fun h => by omega⟩
        by_cases hj2 : j = n
        · rw [hj2]; exact he
        · exact h2 j (by omega)
theorem fnd_of {Nm : Nat → ByteArray} {x : ByteArray} {n k : Nat} (hk : k < n) (he : (Nm k).toList = x.toList) (hl : ∀ j, j < k → (Nm j).toList ≠ x.toList) : fnd Nm x n = k := by
  obtain ⟨h1, h2, h3⟩ := fnd_spec Nm x n
  rcases Nat.lt_trichotomy (fnd Nm x n) k with h | h | h
  · exact absurd (h3 (by omega)) (hl _ h)
  · exact h
  · exact absurd he (h2 k h)
theorem fnd_none {Nm : Nat → ByteArray} {x : ByteArray} {n : Nat} (hl : ∀ j, j < n → (Nm j).toList ≠ x.toList) : fnd Nm x n = n := by
  obtain ⟨h1, h2, h3⟩ := fnd_spec Nm x n
  by_cases h : fnd Nm x n < n
  · exact absurd (h3 h) (hl _ h)
  · omega
theorem asc_lt {n : Nat} {Nm : Nat → ByteArray} (h : ascB n Nm = true) : ∀ {j k : Nat}, k < j → j < n → Op.bytesLess (Nm k).toList (Nm j).toList = true
  | 0, k, hk, _ => by omega
  | j + 1, k, hk, hj => by
    have h1 := ascB_iff.1 h j (by omega) hj
    by_cases e : k = j
    · rw [e]; exact h1
    · exact bl_trans (asc_lt h (show k < j by omega) (by omega)) h1
theorem asc_neg {n : Nat} {Nm : Nat → ByteArray} (h : ascB n Nm = true) {x : ByteArray} {j k : Nat} (hk : k ≤ j) (hj : j < n) (hc : Op.bytesLess (Nm j).toList x.toList = true) : Op.bytesLess (Nm k).toList x.toList = true := by
  by_cases e : k = j
  · rw [e]; exact hc
  · exact bl_trans (asc_lt h (show k < j by omega) hj) hc
theorem bl_ne {a b : List UInt8} (h : Op.bytesLess a b = true) : a ≠ b := fun e => by rw [e, bl_irr] at h; cases h
/-- what the halving leaves -/
theorem half_fnd {n i : Nat} {Nm : Nat → ByteArray} {x : ByteArray} (h : ascB n Nm = true) (hi : i ≤ n) (hl : ∀ k, k < i → Op.bytesLess (Nm k).toList x.toList = true) (hr : ∀ k, i ≤ k → k < n → Op.bytesLess (Nm k).toList x.toList = false) :
    (i < n → (Nm i).toList = x.toList → fnd Nm x n = i) ∧ (i < n → (Nm i).toList ≠ x.toList → fnd Nm x n = n) ∧ (i = n → fnd Nm x n = n) := by
  refine ⟨fun hn he => fnd_of hn he fun j hj => bl_ne (hl j hj), fun hn he => fnd_none fun j hj => ?_, fun e => fnd_none fun j hj => bl_ne (hl j (by omega))⟩
  by_cases h1 : j < i
  · exact bl_ne (hl j h1)
  · by_cases h2 : j = i
    · rw [h2]; exact he
    · intro h3
      have := asc_lt h (show i < j by omega) hj
      rw [h3, hr i (Nat.le_refl _) hn] at this; cases this
set_option maxRecDepth 100000 in
set_option maxHeartbeats 2000000 in
theorem bsf_any (A : Option Addr) (n c : Nat) (L : Sy) (x : ByteArray) (b : Nat) (w : World) (hn : n ≤ 1048576) (hA : Syms w A n L) (hs : ascB n L.Nm = true) (hb : w.cell? ⟨b, 1, none⟩ = some (.func (.func 237) #[] #[])) :
    Calls Try.prog 242 #[.slice A n c, .string x, .func (.func 243) #[] #[.pointer (some ⟨b, 0, none⟩)]] w fun e w' =>
      ∃ i : Nat, i ≤ n ∧ e = .returned (.tuple #[.int .i64 (i : Int), .bool (decide (fnd L.Nm x n < n))]) ∧ (fnd L.Nm x n < n → i = fnd L.Nm x n) ∧ Below w.heap.size w w' := by
  have HS := hid hs; clear hs
  have hsh : ∀ a : Int, Op.shift .shr .u64 a .u64 1 = pure (.int .u64 (a / 2)) := fun a => by simp [go_sem]
  go_enter Try.func242, Try.ntmps242
  go_wp2
  go_loopw [9, 10] (fun i j wr => ∃ p q : Nat, p ≤ q ∧ q ≤ n ∧ i = .int .i64 p ∧ j = .int .i64 q ∧ Below w.heap.size w wr ∧ (∀ k, k < p → Op.bytesLess (L.Nm k).toList x.toList = true) ∧ (∀ k, q ≤ k → k < n → Op.bytesLess (L.Nm k).toList x.toList = false)) (fun i j _ => (intOf j).toNat - (intOf i).toNat)
  case atStart => exact ⟨0, n, Nat.zero_le _, Nat.le_refl _, rfl, rfl, Below.refl _ _, fun k hk => by omega, fun k hk h2 => by omega⟩
  case round =>
    obtain ⟨p, q, hpq, hq, rfl, rfl, hbw, hl, hr⟩ := hrel
    have HL := hid hl; have HR := hid hr; clear hl hr
    have b1 := carry hbw hb
    by_cases hlt : p < q
    · rcases hA with h0 | ⟨g, off, rfl, hg, hcA⟩
      · omega
      obtain ⟨h, hh⟩ : ∃ h, h = (p + q) / 2 := ⟨_, rfl⟩
      have hpn : h < n := by omega
      obtain ⟨a, ca, a0, a1, a2, _, _, _⟩ := hcA h hpn
      have gg : g < wr.heap.size := Nat.lt_of_lt_of_le hg hbw.size
      replace a0 := carry hbw a0
      replace a1 := carry hbw a1
      replace a2 := carry hbw a2
      clear hcA
      have eh : ((p : Int) + (q : Int)) / 2 = (h : Int) := by omega
      have hp2 : p ≤ h := by omega
      have hq2 : h + 1 ≤ q := by omega
      clear hh
      by_cases hc : cmpI (L.Nm h) x < 0
      · have HC := hid (cmpI_neg.1 hc)
        obtain ⟨v, hv⟩ : ∃ v, cmpI (L.Nm h) x = v := ⟨_, rfl⟩
        rw [hv] at hc
        have hF := fun A n c s => find1_at hv A n c s b wr b1
        clear hv
        have dv : decide (v < 0) = true := by simpa using hc
        go_wp2_with (go_at_call 243; refine (hF _ _ _ _).mono ?_; rintro e w1 ⟨rfl, hq1⟩)
        go_roundw
        case rel =>
          exact ⟨h + 1, q, by omega, hq, by go_num, rfl, btr hbw hq1, fun k hk => asc_neg HS.out (show k ≤ h by omega) hpn HC.out, HR.out⟩
        case measure => simp [intOf]; omega
      · have HC := hid (show Op.bytesLess (L.Nm h).toList x.toList = false by
          cases e : Op.bytesLess (L.Nm h).toList x.toList
          · rfl
          · exact absurd (cmpI_neg.2 e) hc)
        obtain ⟨v, hv⟩ : ∃ v, cmpI (L.Nm h) x = v := ⟨_, rfl⟩
        rw [hv] at hc
        have hF := fun A n c s => find1_at hv A n c s b wr b1
        clear hv
        have dv : decide (v < 0) = false := by simp; omega
        go_wp2_with (go_at_call 243; refine (hF _ _ _ _).mono ?_; rintro e w1 ⟨rfl, hq1⟩)
        go_roundw
        case rel =>
          refine ⟨p, h, by omega, by omega, rfl, rfl, btr hbw hq1, HL.out, fun k hk hkn => ?_⟩
          cases e : Op.bytesLess (L.Nm k).toList x.toList
          · rfl
          · have := asc_neg HS.out hk hkn e
            rw [HC.out] at this; cases this
        case measure => simp [intOf]; omega
    · have hpe : p = q := by omega
      subst hpe
      have HH := hid (half_fnd HS.out hq HL.out HR.out)
      have d1 : decide ((p : Int) < (p : Int)) = false := by simp
      by_cases hpn : p < n
      · rcases hA with h0 | ⟨g, off, rfl, hg, hcA⟩
        · omega
        obtain ⟨a, ca, a0, a1, a2, _, _, _⟩ := hcA p hpn
        have gg : g < wr.heap.size := Nat.lt_of_lt_of_le hg hbw.size
        replace a0 := carry hbw a0
        replace a1 := carry hbw a1
        replace a2 := carry hbw a2
        clear hcA
        have HF : Hid (decide (fnd L.Nm x n < n) = (cmpI (L.Nm p) x == 0) ∧ (fnd L.Nm x n < n → p = fnd L.Nm x n)) := by
          refine hid ?_
          by_cases e : (L.Nm p).toList = x.toList
          · rw [HH.out.1 hpn e, cmpI_zero.2 e]; exact ⟨by simp [hpn], fun _ => rfl⟩
          · rw [HH.out.2.1 hpn e]
            have : (cmpI (L.Nm p) x == 0) = false := by simpa using fun h => e (cmpI_zero.1 h)
            rw [this]; exact ⟨by simp, fun h => by omega⟩
        obtain ⟨v, hv⟩ : ∃ v, cmpI (L.Nm p) x = v := ⟨_, rfl⟩
        rw [hv] at HF
        have hF := fun A n c s => find1_at hv A n c s b wr b1
        clear hv
        go_wp2_with (go_at_call 243; refine (hF _ _ _ _).mono ?_; rintro e w1 ⟨rfl, hq1⟩)
        go_ret2
        refine ⟨p, by omega, ?_, HF.out.2, btr hbw hq1⟩
        rw [HF.out.1]; simp
      · have HF := hid (HH.out.2.2 (by omega))
        have d2 : decide ((p : Int) < (n : Int)) = false := by simp; omega
        go_wp2
        go_ret2
        refine ⟨p, by omega, ?_, fun h => by rw [HF.out] at h; omega, hbw⟩
        rw [HF.out]; simp
end Go.Proofs.Ytanfljajafelgaa

namespace Go.Proofs.Ytanfljajafelgaa
set_option linter.unusedVariables false
set_option linter.unusedSimpArgs false
open Go.RowKit
/-- a symbol and whether there is one, handed back -/
def FndP (w0 : World) (n : Nat) (L : Sy) (x : ByteArray) (w : World) (e : Ending) (w' : World) : Prop :=
  Below w.heap.size w w' ∧ ((∃ k, fnd L.Nm x n = k ∧ k < n ∧ ∃ a c, e = .returned (.tuple #[.agg #[.string (L.Nm k), .slice a (L.N k) c, .int .i64 (L.S k)], .bool true]) ∧ L.N k ≤ 9223372036854775807 ∧ Ints w0 a (L.N k) (L.Z k)) ∨
    (fnd L.Nm x n = n ∧ e = .returned (.tuple #[.agg #[.string ⟨#[]⟩, .slice none 0 0, .int .i64 0], .bool false])))
theorem bst3 {a w : World} {b : Nat} (h : Below a.heap.size a w) (hb : a.heap.size ≤ b) (x0 x1 x2 : Value) : Below a.heap.size a (((w.setCell ⟨b, 0, none⟩ x0).setCell ⟨b, 1, none⟩ x1).setCell ⟨b, 2, none⟩ x2) :=
  bst (bst (bst h hb x0) hb x1) hb x2
set_option maxRecDepth 100000 in
set_option maxHeartbeats 2000000 in
theorem lfind_any (A : Option Addr) (n c : Nat) (L : Sy) (x : ByteArray) (w0 w : World) (hn : n ≤ 1048576) (hA : Syms w0 A n L) (h0 : Below w0.heap.size w0 w) :
    Calls Try.prog 191 #[.agg #[.slice A n c], .string x] w (FndP w0 n L x w) := by
  have q0 := bal (bal (Below.refl w.heap.size w) (.cells #[.slice A n c] 25)) (.cells #[.string ⟨#[]⟩, .slice none 0 0, .int .i64 0] 33)
  obtain ⟨e0, e1, e2⟩ := new3 (w.alloc (.cells #[.slice A n c] 25)) (.string ⟨#[]⟩) (.slice none 0 0) (.int .i64 0) 33
  rw [show (w.alloc (.cells #[.slice A n c] 25)).heap.size = w.heap.size + 1 by simp] at e0 e1 e2
  go_enter Try.func191, Try.ntmps191
  go_wp2
  go_loopw [6] (fun i wr => ∃ k : Nat, k ≤ n ∧ i = .int .i64 k ∧ wr = (w.alloc (.cells #[.slice A n c] 25)).alloc (.cells #[.string ⟨#[]⟩, .slice none 0 0, .int .i64 0] 33) ∧ ∀ j, j < k → (L.Nm j).toList ≠ x.toList) (fun i _ => n - (intOf i).toNat)
  case atStart => exact ⟨0, Nat.zero_le _, rfl, rfl, fun j hj => by omega⟩
  case round =>
    obtain ⟨k, hk, rfl, rfl, he⟩ := hrel
    have HE := hid he; clear he
    by_cases hlt : k < n
    · rcases hA with hz | ⟨g, off, rfl, hg, hcA⟩
      · omega
      obtain ⟨a, ca, a0, a1, a2, _, hNk, hI⟩ := hcA k hlt
      have gg : g < w.heap.size := Nat.lt_of_lt_of_le hg h0.size
      replace a0 := carry q0 (carry h0 a0)
      replace a1 := carry q0 (carry h0 a1)
      replace a2 := carry q0 (carry h0 a2)
      clear hcA
      cases hs : ((L.Nm k).toList == x.toList)
      · have HN := hid (show (L.Nm k).toList ≠ x.toList by simpa using hs)
        clear hI e0 e1 e2
        go_wp2
        go_roundw
        case rel =>
          refine ⟨k + 1, by omega, by go_num, by trivial, fun j hj => ?_⟩
          by_cases e : j = k
          · subst e; exact HN.out
          · exact HE.out j (by omega)
        case measure => simp [intOf]; omega
      · have HK := hid (fnd_of hlt (show (L.Nm k).toList = x.toList by simpa using hs) HE.out)
        go_wp2
        obtain ⟨t0, t1, t2⟩ := new3 (w.alloc (.cells #[.slice (some ⟨g, off, none⟩) n c] 25)) (.string (L.Nm k)) (.slice a (L.N k) ca) (.int .i64 (L.S k)) 33
        rw [show (w.alloc (.cells #[.slice (some ⟨g, off, none⟩) n c] 25)).heap.size = w.heap.size + 1 by simp] at t0 t1 t2
        have hq := bal (bal (Below.refl w.heap.size w) (.cells #[.slice (some ⟨g, off, none⟩) n c] 25)) (.cells #[.string (L.Nm k), .slice a (L.N k) ca, .int .i64 (L.S k)] 33)
        exact bodyPost_ret (v := .tuple #[.agg #[.string (L.Nm k), .slice a (L.N k) ca, .int .i64 (L.S k)], .bool true]) (by simp [results, Try.results191, go_sem, t0, t1, t2]) rfl ⟨hq, .inl ⟨k, HK.out, hlt, a, ca, rfl, hNk, hI⟩⟩
    · have HK := hid (fnd_none (n := n) (fun j hj => HE.out j (by omega)))
      have d1 : decide ((k : Int) < (n : Int)) = false := by simp; omega
      go_wp2
      exact bodyPost_ret (v := .tuple #[.agg #[.string ⟨#[]⟩, .slice none 0 0, .int .i64 0], .bool false]) (by simp [results, Try.results191, go_sem, e0, e1, e2]) rfl ⟨q0, .inr ⟨HK.out, rfl⟩⟩
set_option maxRecDepth 100000 in
set_option maxHeartbeats 2000000 in
theorem find_any (A : Option Addr) (n c : Nat) (L : Sy) (x : ByteArray) (w0 w : World) (hn : n ≤ 1048576) (hA : Syms w0 A n L) (h0 : Below w0.heap.size w0 w) (hs : ascB n L.Nm = true) :
    Calls Try.prog 229 #[.agg #[.slice A n c, .func (.func 237) #[] #[]], .string x] w (FndP w0 n L x w) := by
  have hmf : ∀ (fn : Fn) (first cap : Array Value) (w : World), (Instr.makeFunc fn first cap).run Try.prog w = .ok (.func fn first cap) w := fun _ _ _ _ => rfl
  obtain ⟨b0, b1⟩ := pair_new w (.slice A n c) (.func (.func 237) #[] #[]) 334
  have q0 := bal (bal (Below.refl w.heap.size w) (.cells #[.slice A n c, .func (.func 237) #[] #[]] 334)) (.cells #[.string ⟨#[]⟩, .slice none 0 0, .int .i64 0] 33)
  have hB := fun W (hb : Below w.heap.size w W) h1 => bsf_any A n c L x w.heap.size W hn ((hA.below h0).below hb) hs h1
  have b1' := carryA (.cells #[.string ⟨#[]⟩, .slice none 0 0, .int .i64 0] 33) b1
  clear hs
  go_enter Try.func229, Try.ntmps229
  go_wp2_with fail
  refine (hB _ q0 b1').mono ?_
  rintro e w1 ⟨i, hi, rfl, hf, hq⟩
  clear hB
  obtain ⟨hc, hfz⟩ := bcell hq
  have hq2 := btr q0 hq
  have c0 := carry hq (carryA (.cells #[.string ⟨#[]⟩, .slice none 0 0, .int .i64 0] 33) b0)
  have e0 : w1.cell? ⟨w.heap.size + 1, 0, none⟩ = some (.string ⟨#[]⟩) := by rw [hc _ _ (by simp <;> omega)]; simp [go_sem]
  have e1 : w1.cell? ⟨w.heap.size + 1, 1, none⟩ = some (.slice none 0 0) := by rw [hc _ _ (by simp <;> omega)]; simp [go_sem]
  have e2 : w1.cell? ⟨w.heap.size + 1, 2, none⟩ = some (.int .i64 0) := by rw [hc _ _ (by simp <;> omega)]; simp [go_sem]
  by_cases hlt : fnd L.Nm x n < n
  · have hie := hf hlt
    rw [decide_eq_true hlt]
    rcases hA with hz | ⟨g, off, rfl, hg, hcA⟩
    · omega
    obtain ⟨a, ca, a0, a1, a2, _, hNk, hI⟩ := hcA i (by omega)
    have gg : g < w.heap.size := Nat.lt_of_lt_of_le hg h0.size
    have hin : i < n := by omega
    replace a0 := carry hq2 (carry h0 a0)
    replace a1 := carry hq2 (carry h0 a1)
    replace a2 := carry hq2 (carry h0 a2)
    have HK := hid hie
    clear hcA hie hf hlt b0 b1 b1'
    go_wp2
    obtain ⟨t0, t1, t2⟩ := set3 e0 e1 e2 (.string (L.Nm i)) (.slice a (L.N i) ca) (.int .i64 (L.S i))
    have hq3 := bst3 hq2 (show w.heap.size ≤ w.heap.size + 1 by omega) (.string (L.Nm i)) (.slice a (L.N i) ca) (.int .i64 (L.S i))
    exact bodyPost_ret (v := .tuple #[.agg #[.string (L.Nm i), .slice a (L.N i) ca, .int .i64 (L.S i)], .bool true]) (by simp [results, Try.results229, go_sem, t0, t1, t2]) rfl ⟨hq3, .inl ⟨i, HK.out.symm, hin, a, ca, rfl, hNk, hI⟩⟩
  · have HK := hid (show fnd L.Nm x n = n from Nat.le_antisymm (fnd_spec L.Nm x n).1 (by omega))
    rw [decide_eq_false hlt]
    have hl1 : w.heap.size + 1 < w1.heap.size := cell_lt e0
    have hl0 : w.heap.size + 1 ≠ w1.heap.size := by omega
    clear hf hlt b0 b1 b1'
    go_wp2
    obtain ⟨t0', t1', t2'⟩ := set3 e0 e1 e2 (.string ⟨#[]⟩) (.slice none 0 0) (.int .i64 0)
    have t0 := carryA (.cells #[.string ⟨#[]⟩, .slice none 0 0, .int .i64 0] 33) t0'
    have t1 := carryA (.cells #[.string ⟨#[]⟩, .slice none 0 0, .int .i64 0] 33) t1'
    have t2 := carryA (.cells #[.string ⟨#[]⟩, .slice none 0 0, .int .i64 0] 33) t2'
    have hq3 := bal (bst3 hq2 (show w.heap.size ≤ w.heap.size + 1 by omega) (.string ⟨#[]⟩) (.slice none 0 0) (.int .i64 0)) (.cells #[.string ⟨#[]⟩, .slice none 0 0, .int .i64 0] 33)
    exact bodyPost_ret (v := .tuple #[.agg #[.string ⟨#[]⟩, .slice none 0 0, .int .i64 0], .bool false]) (by simp [results, Try.results229, go_sem, t0, t1, t2]) rfl ⟨hq3, .inr ⟨HK.out, rfl⟩⟩
end Go.Proofs.Ytanfljajafelgaa

namespace Go.Proofs.Ytanfljajafelgaa
set_option linter.unusedVariables false
set_option linter.unusedSimpArgs false
open Go.RowKit
/-- the sort of a term, or -1 -/
def sortT (n : Nat) (L : Sy) : Tm → Int
  | .mk nm m kid => if fnd L.Nm nm n < n ∧ L.N (fnd L.Nm nm n) = m ∧ ∀ i, i < m → sortT n L (kid i) = L.Z (fnd L.Nm nm n) i then L.S (fnd L.Nm nm n) else -1
  | .bad => -1
theorem sortT_yes {n m k : Nat} {L : Sy} {nm : ByteArray} {kid : Nat → Tm} (h1 : fnd L.Nm nm n = k) (h2 : k < n) (h3 : L.N k = m) (h4 : ∀ i, i < m → sortT n L (kid i) = L.Z k i) : sortT n L (.mk nm m kid) = L.S k := by
  rw [sortT, h1, if_pos ⟨h2, h3, h4⟩]
theorem sortT_no {n m k : Nat} {L : Sy} {nm : ByteArray} {kid : Nat → Tm} (h1 : fnd L.Nm nm n = k) (h : ¬ (k < n ∧ L.N k = m ∧ ∀ i, i < m → sortT n L (kid i) = L.Z k i)) : sortT n L (.mk nm m kid) = -1 := by
  rw [sortT, h1, if_neg h]
/-- FndP in one shape -/
theorem FndP.uni {n : Nat} {L : Sy} {x : ByteArray} {w0 w w' : World} {e : Ending} (h : FndP w0 n L x w e w') :
    ∃ nm a N c S ok, e = .returned (.tuple #[.agg #[.string nm, .slice a N c, .int .i64 S], .bool ok]) ∧ Below w.heap.size w w' ∧ N ≤ 9223372036854775807 ∧
      (ok = true → fnd L.Nm x n < n ∧ N = L.N (fnd L.Nm x n) ∧ S = L.S (fnd L.Nm x n) ∧ Ints w0 a N (L.Z (fnd L.Nm x n))) ∧ (ok = false → fnd L.Nm x n = n) := by
  obtain ⟨hb, ⟨k, h1, h2, a, c, e, hN, hI⟩ | ⟨h1, e⟩⟩ := h
  · exact ⟨_, a, _, c, _, true, e, hb, hN, fun _ => by rw [h1]; exact ⟨h2, rfl, rfl, hI⟩, fun h => by cases h⟩
  · exact ⟨_, none, 0, 0, _, false, e, hb, by omega, (fun h => by cases h), fun _ => h1⟩
set_option maxRecDepth 100000 in
set_option maxHeartbeats 4000000 in
theorem of_any (n : Nat) (L : Sy) (hn : n ≤ 1048576) : ∀ (t : Tm), Fits 1048576 t → ∀ (A B : Option Addr) (c d : Nat) (w : World), Syms w A n L → Kids 0 w t B →
    Calls Try.prog 189 #[.agg #[.slice A n c], .agg #[.string t.nm, .slice B t.n d]] w fun e w' => e = .returned (.int .i64 (sortT n L t)) ∧ Below w.heap.size w w' := by
  intro t
  induction t with
  | bad => intro h; exact False.elim h
  | mk nm m kid ih =>
    rintro ⟨hm, hmn, hf⟩ A B c d w hA hB
    show Calls _ _ #[.agg #[.slice A n c], .agg #[.string nm, .slice B m d]] w _
    have HI := hid (fun k hk A B c d W h1 h2 => ih k (hf k hk) A B c d W h1 h2)
    clear ih hf
    generalize hr : sortT n L (.mk nm m kid) = res
    have HR := hid hr; clear hr
    have q0 := bal (bal (Below.refl w.heap.size w) (.cells #[.slice A n c] 25)) (.cells #[.string nm, .slice B m d] 76)
    have b0 : ((w.alloc (.cells #[.slice A n c] 25)).alloc (.cells #[.string nm, .slice B m d] 76)).cell? ⟨w.heap.size, 0, none⟩ = some (.slice A n c) := by simp [go_sem]
    have b1 : ((w.alloc (.cells #[.slice A n c] 25)).alloc (.cells #[.string nm, .slice B m d] 76)).cell? ⟨w.heap.size + 1, 1, none⟩ = some (.slice B m d) := by simp [go_sem]
    have hFn := fun W (hb : Below w.heap.size w W) => lfind_any A n c L nm w W hn hA hb
    go_enter Try.func189, Try.ntmps189
    go_wp2_with fail
    refine (hFn _ q0).mono ?_
    rintro e w1 hP
    obtain ⟨nm1, a, N, ca, S, ok, rfl, hq, hN, hY, hZ⟩ := hP.uni
    clear hFn hP
    replace b0 := carry hq b0
    replace b1 := carry hq b1
    have lw : w.heap.size + 1 < w1.heap.size := cell_lt b1
    have lw0 : w.heap.size < w1.heap.size := cell_lt b0
    have hq1 := btr q0 hq
    clear hq q0
    cases ok
    · have HF := hid (sortT_no (m := m) (kid := kid) (hZ rfl) (fun h => Nat.lt_irrefl _ h.1))
      clear hY hZ hA hB
      go_wp2
      go_ret
      exact ⟨ret_i64 (HF.out.symm.trans HR.out), bal hq1 _⟩
    · obtain ⟨h1, h2, h3, hJ⟩ := hY rfl
      clear hY hZ
      have b0' := carryA (.cells #[.string nm1, .slice a N ca, .int .i64 S] 33) b0
      have b1' := carryA (.cells #[.string nm1, .slice a N ca, .int .i64 S] 33) b1
      obtain ⟨n0, n1, n2⟩ := new3 w1 (.string nm1) (.slice a N ca) (.int .i64 S) 33
      have hq2 := bal hq1 (.cells #[.string nm1, .slice a N ca, .int .i64 S] 33)
      generalize hk : fnd L.Nm nm n = k at *
      have H1 := hid h1; have H2 := hid h2; have H3 := hid h3; have HK := hid hk
      clear h1 h2 h3 hk
      by_cases hNm : N = m
      · have hmN : m = N := hNm.symm
        clear hNm
        subst hmN
        have d1 : ((m : Int) != (m : Int)) = false := by simp
        go_wp2_with fail
        have hA2 := hA.below hq2
        have hB2 := hB.below hq2
        have hJ2 := hJ.below hq2
        have l1 : w1.heap.size < (w1.alloc (.cells #[.string nm1, .slice a m ca, .int .i64 S] 33)).heap.size := by simp
        generalize w1.alloc (.cells #[.string nm1, .slice a m ca, .int .i64 S] 33) = W0 at *
        clear hA hB hJ b0 b1 n0 hq1 d1
        go_loopw [7] (fun i wr => ∃ j : Nat, j ≤ m ∧ i = .int .i64 j ∧ Below W0.heap.size W0 wr ∧ ∀ i, i < j → sortT n L (kid i) = L.Z k i) (fun i _ => m - (intOf i).toNat)
        case atStart => exact ⟨0, Nat.zero_le _, rfl, Below.refl _ _, fun j hj => by omega⟩
        case round =>
          obtain ⟨j, hj, rfl, hb, he⟩ := hrel
          have HE := hid he; clear he
          have g0 := carry hb b0'
          have g1 := carry hb b1'
          have x1 := carry hb n1
          have x2 := carry hb n2
          clear b0' b1' n1 n2
          by_cases hlt : j < m
          · rcases hB2 with h0 | ⟨g, off, rfl, _, hg, hcB⟩
            · omega
            obtain ⟨a2, ca2, a0, a1, hK⟩ := hcB j hlt
            rcases hJ2 with h0 | ⟨gz, oz, rfl, hgz, hcZ⟩
            · omega
            have z0 := carry hb (hcZ j (by omega))
            have gg : g < wr.heap.size := Nat.lt_of_lt_of_le hg hb.size
            have ggz : gz < wr.heap.size := Nat.lt_of_lt_of_le hgz hb.size
            replace a0 := carry hb a0
            replace a1 := carry hb a1
            have hKr := hK.below hb
            have hAr := hA2.below hb
            clear hcB hcZ
            have lg0 := cell_lt g0
            have lg1 := cell_lt g1
            have lx1 := cell_lt x1
            have hC := fun (X : Gro wr) => HI.out j hlt A a2 c ca2 (gro wr X) (hAr.below X.h) (hKr.below X.h)
            have gc := @gro_cell wr
            clear hK hA2 hKr hAr
            go_upto_region 7 with fail
            refine wp_region_grow_lit (by kernel_rfl) (by kernel_rfl) ?_
            repeat (go_big_quiet_step ((go_at_call 189; exact grow_call _ (hC _))))
            refine wpQuiet_nil ?_
            rintro _ ⟨X, rfl⟩
            clear gc hC
            by_cases hs : sortT n L (kid j) = L.Z k j
            · have HS := hid hs
              have d2 : (sortT n L (kid j) != L.Z k j) = false := by simpa using hs
              clear hs
              go_wp2
              go_roundw
              case rel =>
                refine ⟨j + 1, by omega, by go_num, btr hb X.h, fun i hi => ?_⟩
                by_cases e : i = j
                · subst e; exact HS.out
                · exact HE.out i (by omega)
              case measure => simp [intOf]; omega
            · have HF := hid (sortT_no (m := m) (kid := kid) HK.out (fun h => hs (h.2.2 j hlt)))
              have d2 : (sortT n L (kid j) != L.Z k j) = true := by simpa using hs
              clear hs
              go_wp2
              go_ret
              exact ⟨ret_i64 (HF.out.symm.trans HR.out), btr hq2 (btr hb X.h)⟩
          · have HT := hid (sortT_yes (m := m) (kid := kid) HK.out H1.out H2.out.symm (fun i hi => HE.out i (by omega)))
            have d3 : decide ((j : Int) < (m : Int)) = false := by simp; omega
            go_wp2
            go_ret
            exact ⟨ret_i64 (H3.out.trans (HT.out.symm.trans HR.out)), btr hq2 hb⟩
      · have HF := hid (sortT_no (m := m) (kid := kid) HK.out (fun h => hNm (H2.out.trans h.2.1)))
        have d1 : ((N : Int) != (m : Int)) = true := by simp; omega
        clear hA hB hJ
        go_wp2
        go_ret
        exact ⟨ret_i64 (HF.out.symm.trans HR.out), hq2⟩
end Go.Proofs.Ytanfljajafelgaa

namespace Go.Proofs.Ytanfljajafelgaa
set_option linter.unusedVariables false
set_option linter.unusedSimpArgs false
open Go.RowKit
/-- what sortOf answers -/
def SrtE (s : Int) : Ending := .returned (.tuple #[.int .i64 (if 0 ≤ s then s else 0), .bool (decide (0 ≤ s))])
theorem SrtE.yes {s : Int} (h : 0 ≤ s) : SrtE s = .returned (.tuple #[.int .i64 s, .bool true]) := by unfold SrtE; rw [if_pos h, decide_eq_true h]
theorem SrtE.no {s : Int} (h : ¬ 0 ≤ s) : SrtE s = .returned (.tuple #[.int .i64 0, .bool false]) := by unfold SrtE; rw [if_neg h, decide_eq_false h]
/-- the sorts of a valid vocabulary are not negative -/
def VS (n : Nat) (L : Sy) : Prop := ∀ k, k < n → 0 ≤ L.S k ∧ ∀ j, j < L.N k → 0 ≤ L.Z k j
theorem sortB_nn {z : Int} (h : sortB z = true) : 0 ≤ z := by
  unfold sortB at h
  have := of_decide_eq_true h
  omega
theorem vs_of {n : Nat} {L : Sy} (h : sigB n L = true) : VS n L := fun k hk => by
  obtain ⟨_, _, h3, h4⟩ := symB_iff.1 ((sigB_iff.1 h).2.1 k hk)
  exact ⟨sortB_nn h4, fun j hj => sortB_nn (h3 j hj)⟩
set_option maxRecDepth 100000 in
set_option maxHeartbeats 4000000 in
theorem sortof_any (n : Nat) (L : Sy) (hn : n ≤ 1048576) (hs : ascB n L.Nm = true) (hv : VS n L) : ∀ (t : Tm), Fits 1048576 t → ∀ (A B : Option Addr) (c d : Nat) (w : World), Syms w A n L → Kids 0 w t B →
    Calls Try.prog 196 #[.agg #[.slice A n c], .agg #[.string t.nm, .slice B t.n d]] w fun e w' => e = SrtE (sortT n L t) ∧ Below w.heap.size w w' := by
  intro t
  induction t with
  | bad => intro h; exact False.elim h
  | mk nm m kid ih =>
    rintro ⟨hm, hmn, hf⟩ A B c d w hA hB
    show Calls _ _ #[.agg #[.slice A n c], .agg #[.string nm, .slice B m d]] w _
    have HI := hid (fun k hk A B c d W h1 h2 => ih k (hf k hk) A B c d W h1 h2)
    clear ih hf
    generalize hr : sortT n L (.mk nm m kid) = res
    have HR := hid hr; clear hr
    have q0 := bal (bal (Below.refl w.heap.size w) (.cells #[.slice A n c] 25)) (.cells #[.string nm, .slice B m d] 76)
    have b0 : ((w.alloc (.cells #[.slice A n c] 25)).alloc (.cells #[.string nm, .slice B m d] 76)).cell? ⟨w.heap.size, 0, none⟩ = some (.slice A n c) := by simp [go_sem]
    have bn : ((w.alloc (.cells #[.slice A n c] 25)).alloc (.cells #[.string nm, .slice B m d] 76)).cell? ⟨w.heap.size + 1, 0, none⟩ = some (.string nm) := by simp [go_sem]
    have b1 : ((w.alloc (.cells #[.slice A n c] 25)).alloc (.cells #[.string nm, .slice B m d] 76)).cell? ⟨w.heap.size + 1, 1, none⟩ = some (.slice B m d) := by simp [go_sem]
    have HV := hid hv; clear hv
    have hF0 := fun W (hb : Below w.heap.size w W) => find_any A n c L nm w W hn hA hb hs
    go_enter Try.func196, Try.ntmps196
    go_upto_region 1 with fail
    generalize (w.alloc (.cells #[.slice A n c] 25)).alloc (.cells #[.string nm, .slice B m d] 76) = W at *
    have lb0 : w.heap.size < W.heap.size := cell_lt b0
    have lb1 : w.heap.size + 1 < W.heap.size := cell_lt b1
    have hF := fun W' (hb : Below W.heap.size W W') => hF0 W' (btr q0 hb)
    clear hF0
    have gc := @gro_cell W
    go_cut [6, 7] (fun sp sb wx => ∃ (p : Nat) (nm1 : ByteArray) (a : Option Addr) (N ca : Nat) (S : Int) (ok : Bool), sp = .pointer (some ⟨p, 0, none⟩) ∧ sb = .bool ok ∧ Below W.heap.size W wx ∧ KcL [(p, 0, .string nm1), (p, 1, .slice a N ca), (p, 2, .int .i64 S)] wx ∧ N ≤ 9223372036854775807 ∧ (ok = true → fnd L.Nm nm n < n ∧ N = L.N (fnd L.Nm nm n) ∧ S = L.S (fnd L.Nm nm n) ∧ Ints w a N (L.Z (fnd L.Nm nm n))) ∧ (ok = false → fnd L.Nm nm n = n))
    case first =>
      refine region_plan (.takes [0, 2, 3] (.fork 1 8 (.fork 4 8 (.takes [5, 6, 7] (.make 8 (.make 9 .fin))) (.make 4 (.takes [5, 6, 7] (.make 9 .fin)))) (.make 1 (.make 4 (.takes [5, 6, 7] (.make 9 .fin)))))) 10 rfl (by kernel_rfl) ?_
      refine plan_takes ?_; simp only [pickOps, List.getElem?_cons_zero, List.getElem?_cons_succ]; (repeat (go_big_quiet_step (fail))); refine wpQuiet_nil ?_
      clear gc
      have hB := (Below.refl W.heap.size W).drew
      refine plan_fork ?_ ?_
      · skip
        refine plan_call rfl rfl 211 #[.agg #[.slice A n c]] (by kernel_rfl) ?_
        refine (byname_any A n c _).mono ?_
        rintro e u1 ⟨rfl, hq⟩
        refine ⟨_, rfl, btr hB hq, ?_⟩
        replace hB := btr hB hq; clear hq
        refine plan_fork ?_ ?_
        · skip
          refine plan_call rfl rfl 229 #[.agg #[.slice A n c, .func (.func 237) #[] #[]], .string nm] (by kernel_rfl) ?_
          refine (hF _ hB).mono ?_
          rintro e u2 hP
          obtain ⟨nm1, a, N, ca, S, ok, rfl, hq, hN, hY, hZ⟩ := hP.uni; clear hP
          refine ⟨_, rfl, btr hB hq, ?_⟩
          replace hB := btr hB hq; clear hq
          refine plan_takes ?_; simp only [pickOps, List.getElem?_cons_zero, List.getElem?_cons_succ]
          refine quiet_do rfl (.tuple #[.agg #[.string nm1, .slice a N ca, .int .i64 S], .bool ok]) (fun _ => by kernel_rfl) ?_
          refine quiet_do rfl (.agg #[.string nm1, .slice a N ca, .int .i64 S]) (fun _ => by kernel_rfl) ?_
          refine quiet_do rfl (.bool ok) (fun _ => by kernel_rfl) ?_
          refine wpQuiet_nil ?_
          have al := bal (Below.refl u2.heap.size u2) (.cells #[.string ⟨#[]⟩, .slice none 0 0, .int .i64 0] 33)
          refine plan_val rfl rfl (.pointer (some ⟨u2.heap.size, 0, none⟩)) (w'' := u2.alloc (.cells #[.string ⟨#[]⟩, .slice none 0 0, .int .i64 0] 33)) (by kernel_rfl) (btr hB al) ?_
          have Zt := there_new u2 (.string ⟨#[]⟩) (.slice none 0 0) (.int .i64 0) 33
          have Zb : u2.heap.size < (u2.alloc (.cells #[.string ⟨#[]⟩, .slice none 0 0, .int .i64 0] 33)).heap.size := by simp
          have Zl := hB.size
          replace hB := btr hB al
          refine plan_store rfl rfl _ _ _ rfl _ (.string nm1) (.slice a N ca) (.int .i64 S) (by kernel_rfl) (by kernel_rfl) Zt (by kernel_rfl) (by simp [Value.oneCell']) hB (by first | exact Zl | omega) ?_
          intro wx hg hBx hK
          refine plan_fin ?_
          simp only [List.drop_succ_cons, List.drop_zero]
          go_wp2_with fail
          go_meet
          exact ⟨_, nm1, a, N, ca, S, ok, rfl, rfl, hBx, hK, hN, hY, hZ⟩
        · skip
          have al := bal (Below.refl u1.heap.size u1) (.cells #[.string ⟨#[]⟩, .slice none 0 0, .int .i64 0] 33)
          refine plan_val rfl rfl (.pointer (some ⟨u1.heap.size, 0, none⟩)) (w'' := u1.alloc (.cells #[.string ⟨#[]⟩, .slice none 0 0, .int .i64 0] 33)) (by kernel_rfl) (btr hB al) ?_
          have Zt := there_new u1 (.string ⟨#[]⟩) (.slice none 0 0) (.int .i64 0) 33
          have Zb : u1.heap.size < (u1.alloc (.cells #[.string ⟨#[]⟩, .slice none 0 0, .int .i64 0] 33)).heap.size := by simp
          have Zl := hB.size
          replace hB := btr hB al
          refine plan_call rfl rfl 229 #[.agg #[.slice A n c, .func (.func 237) #[] #[]], .string nm] (by kernel_rfl) ?_
          refine (hF _ hB).mono ?_
          rintro e u2 hP
          obtain ⟨nm1, a, N, ca, S, ok, rfl, hq, hN, hY, hZ⟩ := hP.uni; clear hP
          refine ⟨_, rfl, btr hB hq, ?_⟩
          replace Zt := there_below hq Zb Zt; replace Zb := Nat.lt_of_lt_of_le Zb hq.size
          replace hB := btr hB hq; clear hq
          refine plan_takes ?_; simp only [pickOps, List.getElem?_cons_zero, List.getElem?_cons_succ]
          refine quiet_do rfl (.tuple #[.agg #[.string nm1, .slice a N ca, .int .i64 S], .bool ok]) (fun _ => by kernel_rfl) ?_
          refine quiet_do rfl (.agg #[.string nm1, .slice a N ca, .int .i64 S]) (fun _ => by kernel_rfl) ?_
          refine quiet_do rfl (.bool ok) (fun _ => by kernel_rfl) ?_
          refine wpQuiet_nil ?_
          refine plan_store rfl rfl _ _ _ rfl _ (.string nm1) (.slice a N ca) (.int .i64 S) (by kernel_rfl) (by kernel_rfl) Zt (by kernel_rfl) (by simp [Value.oneCell']) hB (by first | exact Zl | omega) ?_
          intro wx hg hBx hK
          refine plan_fin ?_
          simp only [List.drop_succ_cons, List.drop_zero]
          go_wp2_with fail
          go_meet
          exact ⟨_, nm1, a, N, ca, S, ok, rfl, rfl, hBx, hK, hN, hY, hZ⟩
      · skip
        have al := bal (Below.refl (W.drew).heap.size (W.drew)) (.cells #[.string ⟨#[]⟩, .slice none 0 0, .int .i64 0] 33)
        refine plan_val rfl rfl (.pointer (some ⟨(W.drew).heap.size, 0, none⟩)) (w'' := (W.drew).alloc (.cells #[.string ⟨#[]⟩, .slice none 0 0, .int .i64 0] 33)) (by kernel_rfl) (btr hB al) ?_
        have Zt := there_new (W.drew) (.string ⟨#[]⟩) (.slice none 0 0) (.int .i64 0) 33
        have Zb : (W.drew).heap.size < ((W.drew).alloc (.cells #[.string ⟨#[]⟩, .slice none 0 0, .int .i64 0] 33)).heap.size := by simp
        have Zl := hB.size
        replace hB := btr hB al
        refine plan_call rfl rfl 211 #[.agg #[.slice A n c]] (by kernel_rfl) ?_
        refine (byname_any A n c _).mono ?_
        rintro e u1 ⟨rfl, hq⟩
        refine ⟨_, rfl, btr hB hq, ?_⟩
        replace Zt := there_below hq Zb Zt; replace Zb := Nat.lt_of_lt_of_le Zb hq.size
        replace hB := btr hB hq; clear hq
        refine plan_call rfl rfl 229 #[.agg #[.slice A n c, .func (.func 237) #[] #[]], .string nm] (by kernel_rfl) ?_
        refine (hF _ hB).mono ?_
        rintro e u2 hP
        obtain ⟨nm1, a, N, ca, S, ok, rfl, hq, hN, hY, hZ⟩ := hP.uni; clear hP
        refine ⟨_, rfl, btr hB hq, ?_⟩
        replace Zt := there_below hq Zb Zt; replace Zb := Nat.lt_of_lt_of_le Zb hq.size
        replace hB := btr hB hq; clear hq
        refine plan_takes ?_; simp only [pickOps, List.getElem?_cons_zero, List.getElem?_cons_succ]
        refine quiet_do rfl (.tuple #[.agg #[.string nm1, .slice a N ca, .int .i64 S], .bool ok]) (fun _ => by kernel_rfl) ?_
        refine quiet_do rfl (.agg #[.string nm1, .slice a N ca, .int .i64 S]) (fun _ => by kernel_rfl) ?_
        refine quiet_do rfl (.bool ok) (fun _ => by kernel_rfl) ?_
        refine wpQuiet_nil ?_
        refine plan_store rfl rfl _ _ _ rfl _ (.string nm1) (.slice a N ca) (.int .i64 S) (by kernel_rfl) (by kernel_rfl) Zt (by kernel_rfl) (by simp [Value.oneCell']) hB (by first | exact Zl | omega) ?_
        intro wx hg hBx hK
        refine plan_fin ?_
        simp only [List.drop_succ_cons, List.drop_zero]
        go_wp2_with fail
        go_meet
        exact ⟨_, nm1, a, N, ca, S, ok, rfl, rfl, hBx, hK, hN, hY, hZ⟩
    obtain ⟨w1, hwc⟩ : ∃ x, x = wc := ⟨_, rfl⟩
    subst hwc
    obtain ⟨p, nm1, a, N, ca, S, ok, rfl, rfl, hq, ⟨n0, n1, n2, _⟩, hN, hY, hZ⟩ := hcut
    clear gc hF
    replace b0 := carry hq b0
    replace b1 := carry hq b1
    have hq1 := btr q0 hq
    clear hq q0 bn
    cases ok
    · have HF := hid (sortT_no (m := m) (kid := kid) (hZ rfl) (fun h => Nat.lt_irrefl _ h.1))
      have HE := hid (show Ending.returned (.tuple #[.int .i64 0, .bool false]) = SrtE res by rw [← HR.out, HF.out]; rfl)
      clear hY hZ hA hB
      go_wp2
      go_ret2
      exact ⟨HE.out, hq1⟩
    · obtain ⟨h1, h2, h3, hJ⟩ := hY rfl
      clear hY hZ
      generalize hk : fnd L.Nm nm n = k at *
      have H1 := hid h1; have H2 := hid h2; have H3 := hid h3; have HK := hid hk
      clear h1 h2 h3 hk
      by_cases hNm : N = m
      · have hmN : m = N := hNm.symm
        clear hNm
        subst hmN
        have d1 : ((m : Int) != (m : Int)) = false := by simp
        have hA2 := hA.below hq1
        have hB2 := hB.below hq1
        have hJ2 := hJ.below hq1
        clear hA hB hJ n0
        go_wp2_with fail
        clear d1
        go_loopw [34] (fun i wr => ∃ j : Nat, j ≤ m ∧ i = .int .i64 j ∧ Below w1.heap.size w1 wr ∧ ∀ i, i < j → sortT n L (kid i) = L.Z k i) (fun i _ => m - (intOf i).toNat)
        case atStart => exact ⟨0, Nat.zero_le _, rfl, Below.refl _ _, fun j hj => by omega⟩
        case round =>
          obtain ⟨j, hj, rfl, hb, he⟩ := hrel
          have HE := hid he; clear he
          have g0 := carry hb b0
          have g1 := carry hb b1
          have x1 := carry hb n1
          have x2 := carry hb n2
          clear b0 b1 n1 n2
          by_cases hlt : j < m
          · rcases hB2 with h0 | ⟨g, off, rfl, _, hg, hcB⟩
            · omega
            obtain ⟨a2, ca2, a0, a1, hK⟩ := hcB j hlt
            rcases hJ2 with h0 | ⟨gz, oz, rfl, hgz, hcZ⟩
            · omega
            have z0 := carry hb (hcZ j (by omega))
            have gg : g < wr.heap.size := Nat.lt_of_lt_of_le hg hb.size
            have ggz : gz < wr.heap.size := Nat.lt_of_lt_of_le hgz hb.size
            replace a0 := carry hb a0
            replace a1 := carry hb a1
            have hKr := hK.below hb
            have hAr := hA2.below hb
            have hnn := (HV.out k H1.out).2 j (by rw [← H2.out]; exact hlt)
            clear hcB hcZ hK hA2
            have lg0 : w.heap.size < wr.heap.size := cell_lt g0
            have lg1 : w.heap.size + 1 < wr.heap.size := cell_lt g1
            have lx1 : p < wr.heap.size := cell_lt x1
            have al := bal (Below.refl wr.heap.size wr) (.cells #[.string (kid j).nm, .slice a2 (kid j).n ca2] 76)
            have y0 := carryA (.cells #[.string (kid j).nm, .slice a2 (kid j).n ca2] 76) g0
            have y1 := carryA (.cells #[.string (kid j).nm, .slice a2 (kid j).n ca2] 76) x1
            have yz := carryA (.cells #[.string (kid j).nm, .slice a2 (kid j).n ca2] 76) z0
            have hC := HI.out j hlt A a2 c ca2 (wr.alloc (.cells #[.string (kid j).nm, .slice a2 (kid j).n ca2] 76)) (hAr.below al) (hKr.below al)
            have HH := hid (sortT_no (n := n) (L := L) (m := m) (kid := kid) (nm := nm) HK.out)
            generalize hsv : sortT n L (kid j) = s at hC
            have HS := hid hsv; clear hsv hKr hAr
            by_cases hs : s = L.Z k j
            · have HSE := hid hs
              rw [hs, SrtE.yes hnn] at hC
              have d2 : (L.Z k j != L.Z k j) = false := by simp
              clear hs
              go_wp2_with (go_at_call 196; refine hC.mono ?_; rintro e w2 ⟨rfl, hq2⟩; replace y1 := carry hq2 y1; replace yz := carry hq2 yz)
              go_roundw
              case rel =>
                refine ⟨j + 1, by omega, by go_num, btr hb (btr al (by assumption)), fun i hi => ?_⟩
                by_cases e : i = j
                · subst e; exact HS.out.trans HSE.out
                · exact HE.out i (by omega)
              case measure => simp [intOf]; omega
            · have HF := hid (show Ending.returned (.tuple #[.int .i64 0, .bool false]) = SrtE res by rw [← HR.out, HH.out (fun h => hs (HS.out.symm.trans (h.2.2 j hlt)))]; rfl)
              by_cases hp : 0 ≤ s
              · rw [SrtE.yes hp] at hC
                have d2 : (s != L.Z k j) = true := by simpa using hs
                clear hs
                go_wp2_with (go_at_call 196; refine hC.mono ?_; rintro e w2 ⟨rfl, hq2⟩; replace y1 := carry hq2 y1; replace yz := carry hq2 yz)
                go_ret2
                exact ⟨HF.out, btr hq1 (btr hb (btr al (by assumption)))⟩
              · rw [SrtE.no hp] at hC
                clear hs
                go_wp2_with (go_at_call 196; refine hC.mono ?_; rintro e w2 ⟨rfl, hq2⟩; replace y1 := carry hq2 y1; replace yz := carry hq2 yz)
                go_ret2
                exact ⟨HF.out, btr hq1 (btr hb (btr al (by assumption)))⟩
          · have HT := hid (sortT_yes (m := m) (kid := kid) HK.out H1.out H2.out.symm (fun i hi => HE.out i (by omega)))
            have d3 : decide ((j : Int) < (m : Int)) = false := by simp; omega
            have HF := hid (show Ending.returned (.tuple #[.int .i64 S, .bool true]) = SrtE res by rw [← HR.out, HT.out, SrtE.yes (HV.out k H1.out).1, H3.out])
            go_wp2
            go_ret2
            exact ⟨HF.out, btr hq1 hb⟩
      · have HF := hid (sortT_no (m := m) (kid := kid) HK.out (fun h => hNm (H2.out.trans h.2.1)))
        have HE := hid (show Ending.returned (.tuple #[.int .i64 0, .bool false]) = SrtE res by rw [← HR.out, HF.out]; rfl)
        have d1 : ((N : Int) != (m : Int)) = true := by simp; omega
        clear hA hB hJ
        go_wp2
        go_ret2
        exact ⟨HE.out, hq1⟩
end Go.Proofs.Ytanfljajafelgaa

namespace Go.Proofs.Ytanfljajafelgaa
set_option linter.unusedVariables false
set_option linter.unusedSimpArgs false
open Go.RowKit
/-- what TermSort answers -/
def tsE (n : Nat) (L : Sy) (t : Tm) : Ending := if sigB n L = true ∧ wellB t = true then SrtE (sortT n L t) else .returned (.tuple #[.int .i64 0, .bool false])
theorem tsE_no {n : Nat} {L : Sy} {t : Tm} (h : ¬ (sigB n L = true ∧ wellB t = true)) : tsE n L t = .returned (.tuple #[.int .i64 0, .bool false]) := if_neg h
theorem tsE_yes {n : Nat} {L : Sy} {t : Tm} (h1 : sigB n L = true) (h2 : wellB t = true) : tsE n L t = SrtE (sortT n L t) := if_pos ⟨h1, h2⟩
set_option maxHeartbeats 1000000 in
theorem termsort_any (n : Nat) (L : Sy) (hn : n ≤ 1048576) (t : Tm) (hF : Fits 1048576 t) (A B : Option Addr) (c d : Nat) (w : World) (hA : Syms w A n L) (hB : Kids 0 w t B) :
    Calls Try.prog 146 #[.agg #[.slice A n c], .agg #[.string t.nm, .slice B t.n d]] w fun e w' => e = tsE n L t ∧ Below w.heap.size w w' := by
  have q0 := bal (bal (Below.refl w.heap.size w) (.cells #[.slice A n c] 25)) (.cells #[.string t.nm, .slice B t.n d] 76)
  have b0 : ((w.alloc (.cells #[.slice A n c] 25)).alloc (.cells #[.string t.nm, .slice B t.n d] 76)).cell? ⟨w.heap.size, 0, none⟩ = some (.slice A n c) := by simp [go_sem]
  have b1 : ((w.alloc (.cells #[.slice A n c] 25)).alloc (.cells #[.string t.nm, .slice B t.n d] 76)).cell? ⟨w.heap.size + 1, 0, none⟩ = some (.string t.nm) := by simp [go_sem]
  have b2 : ((w.alloc (.cells #[.slice A n c] 25)).alloc (.cells #[.string t.nm, .slice B t.n d] 76)).cell? ⟨w.heap.size + 1, 1, none⟩ = some (.slice B t.n d) := by simp [go_sem]
  have hS := fun W (hb : Below w.heap.size w W) => sigok_any A n c L W (by omega) (hA.below hb)
  have hW := fun W (hb : Below w.heap.size w W) => well_any t hF B d W (hB.below hb)
  generalize hr : tsE n L t = res
  have HR := hid hr; clear hr
  cases hs : sigB n L
  · rw [hs] at hS
    have HF := hid (show Ending.returned (.tuple #[.int .i64 0, .bool false]) = res by rw [← HR.out, tsE_no (fun h => by rw [hs] at h; cases h.1)])
    clear hs hW hA hB
    go_enter Try.func146, Try.ntmps146
    go_wp2_with fail
    refine (hS _ q0).mono ?_
    rintro e w1 ⟨rfl, hq⟩
    clear hS
    go_wp2
    go_ret2
    exact ⟨HF.out, btr q0 hq⟩
  · rw [hs] at hS
    cases hw : wellB t
    · rw [hw] at hW
      have HF := hid (show Ending.returned (.tuple #[.int .i64 0, .bool false]) = res by rw [← HR.out, tsE_no (fun h => by rw [hw] at h; cases h.2)])
      clear hs hw hA hB
      go_enter Try.func146, Try.ntmps146
      go_wp2_with fail
      refine (hS _ q0).mono ?_
      rintro e w1 ⟨rfl, hq⟩
      clear hS
      replace b1 := carry hq b1
      replace b2 := carry hq b2
      go_wp2_with fail
      refine (hW _ (btr q0 hq)).mono ?_
      rintro e w2 ⟨rfl, hq2⟩
      clear hW
      go_wp2
      go_ret2
      exact ⟨HF.out, btr (btr q0 hq) hq2⟩
    · rw [hw] at hW
      have HY := hid (show SrtE (sortT n L t) = res by rw [← HR.out, tsE_yes hs hw])
      have hO := fun W (hb : Below w.heap.size w W) => sortof_any n L hn (sigB_iff.1 hs).2.2 (vs_of hs) t hF A B c d W (hA.below hb) (hB.below hb)
      clear hs hw hA hB
      go_enter Try.func146, Try.ntmps146
      go_wp2_with fail
      refine (hS _ q0).mono ?_
      rintro e w1 ⟨rfl, hq⟩
      clear hS
      replace b0 := carry hq b0
      replace b1 := carry hq b1
      replace b2 := carry hq b2
      replace q0 := btr q0 hq
      clear hq
      go_wp2_with fail
      refine (hW _ q0).mono ?_
      rintro e w2 ⟨rfl, hq⟩
      clear hW
      replace b0 := carry hq b0
      replace b1 := carry hq b1
      replace b2 := carry hq b2
      replace q0 := btr q0 hq
      clear hq
      generalize hse : sortT n L t = s at *
      clear hse
      by_cases h0 : 0 ≤ s
      · have HY2 := hid ((SrtE.yes h0).symm.trans HY.out)
        rw [SrtE.yes h0] at hO
        go_wp2_with fail
        refine (hO _ q0).mono ?_
        rintro e w3 ⟨rfl, hq⟩
        clear hO
        go_wp2
        go_ret2
        exact ⟨HY2.out, btr q0 hq⟩
      · have HY2 := hid ((SrtE.no h0).symm.trans HY.out)
        rw [SrtE.no h0] at hO
        go_wp2_with fail
        refine (hO _ q0).mono ?_
        rintro e w3 ⟨rfl, hq⟩
        clear hO
        go_wp2
        go_ret2
        exact ⟨HY2.out, btr q0 hq⟩
set_option maxHeartbeats 1000000 in
theorem stermsort_any (n : Nat) (L : Sy) (hn : n ≤ 1048576) (hN : SmY n L) (t : Tm) (hF : Fits 1048576 t) (A B : Option Addr) (c d : Nat) (w : World) (hA : Syms w A n L) (hB : Kids 0 w t B) :
    Calls Try.prog 142 #[.agg #[.slice A n c], .agg #[.string t.nm, .slice B t.n d]] w fun e w' => e = tsE n L t ∧ Below w.heap.size w w' := by
  have q0 := bal (bal (Below.refl w.heap.size w) (.cells #[.slice A n c] 25)) (.cells #[.string t.nm, .slice B t.n d] 76)
  have b0 : ((w.alloc (.cells #[.slice A n c] 25)).alloc (.cells #[.string t.nm, .slice B t.n d] 76)).cell? ⟨w.heap.size, 0, none⟩ = some (.slice A n c) := by simp [go_sem]
  have b1 : ((w.alloc (.cells #[.slice A n c] 25)).alloc (.cells #[.string t.nm, .slice B t.n d] 76)).cell? ⟨w.heap.size + 1, 0, none⟩ = some (.string t.nm) := by simp [go_sem]
  have b2 : ((w.alloc (.cells #[.slice A n c] 25)).alloc (.cells #[.string t.nm, .slice B t.n d] 76)).cell? ⟨w.heap.size + 1, 1, none⟩ = some (.slice B t.n d) := by simp [go_sem]
  have hS := fun W (hb : Below w.heap.size w W) => ssigok_any A n c L W (by omega) (hA.below hb) hN
  have hW := fun W (hb : Below w.heap.size w W) => right_any t hF B d W (hB.below hb)
  generalize hr : tsE n L t = res
  have HR := hid hr; clear hr
  cases hs : sigB n L
  · rw [hs] at hS
    have HF := hid (show Ending.returned (.tuple #[.int .i64 0, .bool false]) = res by rw [← HR.out, tsE_no (fun h => by rw [hs] at h; cases h.1)])
    clear hs hW hA hB
    go_enter Try.func142, Try.ntmps142
    go_wp2_with fail
    refine (hS _ q0).mono ?_
    rintro e w1 ⟨rfl, hq⟩
    clear hS
    go_wp2
    go_ret2
    exact ⟨HF.out, btr q0 hq⟩
  · rw [hs] at hS
    cases hw : wellB t
    · rw [hw] at hW
      have HF := hid (show Ending.returned (.tuple #[.int .i64 0, .bool false]) = res by rw [← HR.out, tsE_no (fun h => by rw [hw] at h; cases h.2)])
      clear hs hw hA hB
      go_enter Try.func142, Try.ntmps142
      go_wp2_with fail
      refine (hS _ q0).mono ?_
      rintro e w1 ⟨rfl, hq⟩
      clear hS
      replace b1 := carry hq b1
      replace b2 := carry hq b2
      go_wp2_with fail
      refine (hW _ (btr q0 hq)).mono ?_
      rintro e w2 ⟨rfl, hq2⟩
      clear hW
      go_wp2
      go_ret2
      exact ⟨HF.out, btr (btr q0 hq) hq2⟩
    · rw [hw] at hW
      have HY := hid (show SrtE (sortT n L t) = res by rw [← HR.out, tsE_yes hs hw])
      have hO := fun W (hb : Below w.heap.size w W) => of_any n L hn t hF A B c d W (hA.below hb) (hB.below hb)
      clear hs hw hA hB
      go_enter Try.func142, Try.ntmps142
      go_wp2_with fail
      refine (hS _ q0).mono ?_
      rintro e w1 ⟨rfl, hq⟩
      clear hS
      replace b0 := carry hq b0
      replace b1 := carry hq b1
      replace b2 := carry hq b2
      replace q0 := btr q0 hq
      clear hq
      go_wp2_with fail
      refine (hW _ q0).mono ?_
      rintro e w2 ⟨rfl, hq⟩
      clear hW
      replace b0 := carry hq b0
      replace b1 := carry hq b1
      replace b2 := carry hq b2
      replace q0 := btr q0 hq
      clear hq
      generalize hse : sortT n L t = s at *
      clear hse
      have lb0 := cell_lt b0
      have lb1 := cell_lt b1
      go_wp2_with fail
      refine (hO _ q0).mono ?_
      rintro e w3 ⟨rfl, hq⟩
      clear hO
      by_cases h0 : 0 ≤ s
      · have HY2 := hid ((SrtE.yes h0).symm.trans HY.out)
        have d1 : decide (s < 0) = false := by simp; omega
        go_wp2
        go_ret2
        exact ⟨HY2.out, btr q0 hq⟩
      · have HY2 := hid ((SrtE.no h0).symm.trans HY.out)
        have d1 : decide (s < 0) = true := by simp; omega
        go_wp2
        go_ret2
        exact ⟨HY2.out, btr q0 hq⟩
end Go.Proofs.Ytanfljajafelgaa
