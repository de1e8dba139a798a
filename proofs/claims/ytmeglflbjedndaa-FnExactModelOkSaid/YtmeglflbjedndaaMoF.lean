/- Valid rows: contracts of the program's Row.valid and of the model's l7Row. -/
import Derived.Test.YtmeglflbjedndaaMoD
import Derived.Test.YtmeglflbjedndaaSigD
namespace Go.Proofs.Ytmeglflbjedndaa
set_option linter.unusedVariables false
set_option linter.unusedSimpArgs false
open Go.RowKit
theorem sratok_at (n d : Int) (w : World) {v : Bool} (h : okB n d = v) :
    Calls Try.prog 152 #[.agg #[.int .i64 n, .int .i64 d]] w fun e w' => e = .returned (.bool v) ∧ Below w.heap.size w w' := by
  subst h; exact sok_any n d w
/-- a row is valid -/
def rowB (nm : ByteArray) (n : Nat) (P Q : Nat → Int) (u v : Int) : Bool := decide (nameB nm = true ∧ n ≤ 2 ∧ (∀ k, k < n → okB (P k) (Q k) = true) ∧ okB u v = true)
theorem rowB_iff {nm : ByteArray} {n : Nat} {P Q : Nat → Int} {u v : Int} : rowB nm n P Q u v = true ↔ nameB nm = true ∧ n ≤ 2 ∧ (∀ k, k < n → okB (P k) (Q k) = true) ∧ okB u v = true := by unfold rowB; exact decide_eq_true_iff
theorem rowB_no {nm : ByteArray} {n : Nat} {P Q : Nat → Int} {u v : Int} (h : ¬ (nameB nm = true ∧ n ≤ 2 ∧ (∀ k, k < n → okB (P k) (Q k) = true) ∧ okB u v = true)) : rowB nm n P Q u v = false := by
  cases e : rowB nm n P Q u v
  · rfl
  · exact absurd (rowB_iff.1 e) h
set_option maxRecDepth 100000 in
set_option maxHeartbeats 2000000 in
theorem valid_row (nm : ByteArray) (A : Option Addr) (n c : Nat) (P Q : Nat → Int) (u v : Int) (w : World) (hm : nm.size ≤ 9223372036854775807) (hn : n ≤ 9223372036854775807) (hA : Rats w A n P Q) :
    Calls Try.prog 154 #[.agg #[.string nm, .slice A n c, .int .i64 u, .int .i64 v]] w fun e w' => e = .returned (.bool (rowB nm n P Q u v)) ∧ Below w.heap.size w w' := by
  generalize hr : rowB nm n P Q u v = res
  have HR := hid hr; clear hr
  have H : KcL [(w.heap.size, 1, .slice A n c), (w.heap.size, 2, .int .i64 u), (w.heap.size, 3, .int .i64 v)] (w.alloc (.cells #[.string nm, .slice A n c, .int .i64 u, .int .i64 v] 122)) := by
    refine ⟨?_, ?_, ?_, trivial⟩ <;> simp [go_sem]
  have q0 := bal (Below.refl w.heap.size w) (.cells #[.string nm, .slice A n c, .int .i64 u, .int .i64 v] 122)
  cases hv : nameB nm
  · have HF := hid (rowB_no (nm := nm) (n := n) (P := P) (Q := Q) (u := u) (v := v) (by rw [hv]; simp))
    have hO := fun W => name_at hm hv W
    clear hv H
    go_enter Try.func154, Try.ntmps154
    go_wp2_with (go_at_call 66; refine (hO _).mono ?_; rintro e w1 ⟨rfl, rfl⟩)
    go_ret
    exact ⟨ret_bool (HF.out.symm.trans HR.out), q0⟩
  have hO := fun W => name_at hm hv W
  by_cases h2 : n ≤ 2
  · have HV := hid hv; clear hv
    have d2 : decide (2 < (n : Int)) = false := by simp; omega
    have hA2 := hA.below q0
    go_enter Try.func154, Try.ntmps154
    go_wp2_with (go_at_call 66; refine (hO _).mono ?_; rintro e w1 ⟨rfl, rfl⟩)
    clear hO hA
    generalize w.alloc (.cells #[.string nm, .slice A n c, .int .i64 u, .int .i64 v] 122) = W0 at *
    go_loopw [18] (fun i wr => ∃ k : Nat, k ≤ n ∧ i = .int .i64 k ∧ Below W0.heap.size W0 wr ∧ ∀ j, j < k → okB (P j) (Q j) = true) (fun i _ => n - (intOf i).toNat)
    case atStart => exact ⟨0, Nat.zero_le _, rfl, Below.refl _ _, fun j hj => by omega⟩
    case round =>
      obtain ⟨k, hk, rfl, hb, he⟩ := hrel
      have HE := hid he; clear he
      have H2 := H.below hb
      have HH_ := H2; obtain ⟨c0, c1, c2, _⟩ := HH_
      have l0 := cell_lt c0
      by_cases hlt : k < n
      · rcases hA2 with h0 | ⟨g, off, rfl, hg, hcell⟩
        · omega
        have a0 := carry hb (hcell k hlt).1
        have a1 := carry hb (hcell k hlt).2
        have gg : g < wr.heap.size := Nat.lt_of_lt_of_le hg hb.size
        clear hcell H
        cases hs : okB (P k) (Q k)
        · have HF := hid (rowB_no (nm := nm) (n := n) (P := P) (Q := Q) (u := u) (v := v) (fun h => by have := h.2.2.1 k hlt; rw [hs] at this; cases this))
          have hS := fun W => valid_at (P k) (Q k) W hs
          clear hs
          go_wp2_with (go_at_call 197; refine (hS _).mono ?_; rintro e w1 ⟨rfl, hq⟩)
          go_ret
          exact ⟨ret_bool (HF.out.symm.trans HR.out), btr q0 (btr hb (btr (bal (Below.refl _ _) _) hq))⟩
        · have hS := fun W => valid_at (P k) (Q k) W hs
          have HS := hid hs; clear hs
          go_wp2_with (go_at_call 197; refine (hS _).mono ?_; rintro e w1 ⟨rfl, hq⟩)
          go_roundw
          case rel =>
            refine ⟨k + 1, by omega, by go_num, btr hb (btr (bal (Below.refl _ _) _) hq), fun j hj => ?_⟩
            by_cases e : j = k
            · subst e; exact HS.out
            · exact HE.out j (by omega)
          case measure => simp [intOf]; omega
      · have hke : k = n := by omega
        subst hke
        cases hs : okB u v
        · have hS := fun W => valid_at u v W hs
          have HF := hid (rowB_no (nm := nm) (n := k) (P := P) (Q := Q) (u := u) (v := v) (fun h => by have := h.2.2.2; rw [hs] at this; cases this))
          clear hs
          go_wp2_with (go_at_call 197; refine (hS _).mono ?_; rintro e w1 ⟨rfl, hq⟩)
          go_ret
          exact ⟨ret_bool (HF.out.symm.trans HR.out), btr q0 (btr hb hq)⟩
        · have hS := fun W => valid_at u v W hs
          have HF := hid (rowB_iff.2 ⟨HV.out, h2, HE.out, hs⟩)
          clear hs
          go_wp2_with (go_at_call 197; refine (hS _).mono ?_; rintro e w1 ⟨rfl, hq⟩)
          go_ret
          exact ⟨ret_bool (HF.out.symm.trans HR.out), btr q0 (btr hb hq)⟩
  · have HF := hid (rowB_no (nm := nm) (n := n) (P := P) (Q := Q) (u := u) (v := v) (fun h => h2 h.2.1))
    have d2 : decide (2 < (n : Int)) = true := by simp; omega
    clear hv h2
    go_enter Try.func154, Try.ntmps154
    go_wp2_with (go_at_call 66; refine (hO _).mono ?_; rintro e w1 ⟨rfl, rfl⟩)
    go_ret
    exact ⟨ret_bool (HF.out.symm.trans HR.out), q0⟩
set_option maxRecDepth 100000 in
set_option maxHeartbeats 2000000 in
theorem srow_any (nm : ByteArray) (A : Option Addr) (n c : Nat) (P Q : Nat → Int) (u v : Int) (w : World) (hm : nm.size ≤ 9223372036854775807) (hn : n ≤ 9223372036854775807) (hA : Rats w A n P Q) :
    Calls Try.prog 150 #[.agg #[.string nm, .slice A n c, .int .i64 u, .int .i64 v]] w fun e w' => e = .returned (.bool (rowB nm n P Q u v)) ∧ Below w.heap.size w w' := by
  generalize hr : rowB nm n P Q u v = res
  have HR := hid hr; clear hr
  have H : KcL [(w.heap.size, 0, .string nm), (w.heap.size, 1, .slice A n c), (w.heap.size, 2, .int .i64 u), (w.heap.size, 3, .int .i64 v)] (w.alloc (.cells #[.string nm, .slice A n c, .int .i64 u, .int .i64 v] 122)) := by
    refine ⟨?_, ?_, ?_, ?_, trivial⟩ <;> simp [go_sem]
  have q0 := bal (Below.refl w.heap.size w) (.cells #[.string nm, .slice A n c, .int .i64 u, .int .i64 v] 122)
  have hA2 := hA.below q0
  go_enter Try.func150, Try.ntmps150
  go_wp2
  clear hA
  generalize w.alloc (.cells #[.string nm, .slice A n c, .int .i64 u, .int .i64 v] 122) = W0 at *
  go_loopw [3] (fun i wr => ∃ k : Nat, k ≤ n ∧ i = .int .i64 k ∧ Below W0.heap.size W0 wr ∧ ∀ j, j < k → okB (P j) (Q j) = true) (fun i _ => n - (intOf i).toNat)
  case atStart => exact ⟨0, Nat.zero_le _, rfl, Below.refl _ _, fun j hj => by omega⟩
  case round =>
    obtain ⟨k, hk, rfl, hb, he⟩ := hrel
    have HE := hid he; clear he
    have H2 := H.below hb
    have HH_ := H2; obtain ⟨c0, c1, c2, c3, _⟩ := HH_
    have l0 := cell_lt c0
    by_cases hlt : k < n
    · rcases hA2 with h0 | ⟨g, off, rfl, hg, hcell⟩
      · omega
      have a0 := carry hb (hcell k hlt).1
      have a1 := carry hb (hcell k hlt).2
      have gg : g < wr.heap.size := Nat.lt_of_lt_of_le hg hb.size
      clear hcell H
      cases hs : okB (P k) (Q k)
      · have HF := hid (rowB_no (nm := nm) (n := n) (P := P) (Q := Q) (u := u) (v := v) (fun h => by have := h.2.2.1 k hlt; rw [hs] at this; cases this))
        have hS := fun W => sratok_at (P k) (Q k) W hs
        clear hs
        go_wp2_with (go_at_call 152; refine (hS _).mono ?_; rintro e w1 ⟨rfl, hq⟩)
        go_ret
        exact ⟨ret_bool (HF.out.symm.trans HR.out), btr q0 (btr hb hq)⟩
      · have hS := fun W => sratok_at (P k) (Q k) W hs
        have HS := hid hs; clear hs
        go_wp2_with (go_at_call 152; refine (hS _).mono ?_; rintro e w1 ⟨rfl, hq⟩)
        go_roundw
        case rel =>
          refine ⟨k + 1, by omega, by go_num, btr hb hq, fun j hj => ?_⟩
          by_cases e : j = k
          · subst e; exact HS.out
          · exact HE.out j (by omega)
        case measure => simp [intOf]; omega
    · have hke : k = n := by omega
      subst hke
      clear H hA2
      cases hv : nameB nm
      · have HF := hid (rowB_no (nm := nm) (n := k) (P := P) (Q := Q) (u := u) (v := v) (by rw [hv]; simp))
        have hO := fun W => sname_at hm hv W
        clear hv
        go_wp2_with (go_at_call 67; refine (hO _).mono ?_; rintro e w1 ⟨rfl, rfl⟩)
        go_ret
        exact ⟨ret_bool (HF.out.symm.trans HR.out), btr q0 hb⟩
      have hO := fun W => sname_at hm hv W
      by_cases h2 : k ≤ 2
      · have d2 : decide ((k : Int) ≤ 2) = true := by simp; omega
        cases hs : okB u v
        · have hS := fun W => sratok_at u v W hs
          have HF := hid (rowB_no (nm := nm) (n := k) (P := P) (Q := Q) (u := u) (v := v) (fun h => by have := h.2.2.2; rw [hs] at this; cases this))
          clear hs hv
          go_wp2_with (first | (go_at_call 67; refine (hO _).mono ?_; rintro e w1 ⟨rfl, rfl⟩) | (go_at_call 152; refine (hS _).mono ?_; rintro e w1 ⟨rfl, hq⟩))
          go_ret
          exact ⟨ret_bool (HF.out.symm.trans HR.out), btr q0 (btr hb hq)⟩
        · have hS := fun W => sratok_at u v W hs
          have HF := hid (rowB_iff.2 ⟨hv, h2, HE.out, hs⟩)
          clear hs hv
          go_wp2_with (first | (go_at_call 67; refine (hO _).mono ?_; rintro e w1 ⟨rfl, rfl⟩) | (go_at_call 152; refine (hS _).mono ?_; rintro e w1 ⟨rfl, hq⟩))
          go_ret
          exact ⟨ret_bool (HF.out.symm.trans HR.out), btr q0 (btr hb hq)⟩
      · have d2 : decide ((k : Int) ≤ 2) = false := by simp; omega
        have HF := hid (rowB_no (nm := nm) (n := k) (P := P) (Q := Q) (u := u) (v := v) (fun h => h2 h.2.1))
        clear hv
        go_wp2_with (go_at_call 67; refine (hO _).mono ?_; rintro e w1 ⟨rfl, rfl⟩)
        go_ret
        exact ⟨ret_bool (HF.out.symm.trans HR.out), btr q0 hb⟩
theorem valid_rowat {nm : ByteArray} {A : Option Addr} {n c : Nat} {P Q : Nat → Int} {u v : Int} {w : World} (hm : nm.size ≤ 9223372036854775807) (hn : n ≤ 9223372036854775807) (hA : Rats w A n P Q) {r : Bool} (h : rowB nm n P Q u v = r) (W : World) (hb : Below w.heap.size w W) :
    Calls Try.prog 154 #[.agg #[.string nm, .slice A n c, .int .i64 u, .int .i64 v]] W fun e w' => e = .returned (.bool r) ∧ Below W.heap.size W w' := by
  subst h; exact valid_row nm A n c P Q u v W hm hn (hA.below hb)
theorem srow_at {nm : ByteArray} {A : Option Addr} {n c : Nat} {P Q : Nat → Int} {u v : Int} {w : World} (hm : nm.size ≤ 9223372036854775807) (hn : n ≤ 9223372036854775807) (hA : Rats w A n P Q) {r : Bool} (h : rowB nm n P Q u v = r) (W : World) (hb : Below w.heap.size w W) :
    Calls Try.prog 150 #[.agg #[.string nm, .slice A n c, .int .i64 u, .int .i64 v]] W fun e w' => e = .returned (.bool r) ∧ Below W.heap.size W w' := by
  subst h; exact srow_any nm A n c P Q u v W hm hn (hA.below hb)
end Go.Proofs.Ytmeglflbjedndaa
