/- Several texts in one: LinI, LinJ. -/
import Derived.Test.YtppiaclpholbfaaBL
namespace Go.Proofs.Ytppiaclpholbfaa
set_option linter.unusedVariables false
set_option linter.unusedSimpArgs false
open Go.RowKit
theorem lsmall_any (n : Int) (w : World) :
    Calls Try.prog 17 #[.int .i64 n] w fun e w' => e = .returned (.bool (inC n)) ∧ w = w' := by
  by_cases h : -1000000 ≤ n
  · by_cases h2 : n ≤ 1000000
    · go_enter Try.func17, Try.ntmps17
      go_wp2
      go_ret
      exact ⟨ret_bool (by simp [inC]; omega), rfl⟩
    · go_enter Try.func17, Try.ntmps17
      go_wp2
      go_ret
      exact ⟨ret_bool (by simp [inC]; omega), rfl⟩
  · go_enter Try.func17, Try.ntmps17
    go_wp2
    go_ret
    exact ⟨ret_bool (by simp [inC]; omega), rfl⟩
theorem lsmall_at (n : Int) (w : World) {v : Bool} (h : inC n = v) :
    Calls Try.prog 17 #[.int .i64 n] w fun e w' => e = .returned (.bool v) ∧ w = w' := by subst h; exact lsmall_any n w
set_option maxHeartbeats 1000000 in
theorem slinok_any (A : Option Addr) (n c : Nat) (Z : Nat → Int) (b : Int) (s : Bool) (w : World) (hn : n ≤ 9223372036854775806) (hA : Ints w A n Z) :
    Calls Try.prog 8 #[.agg #[.slice A n c, .int .i64 b, .bool s]] w fun e w' => e = .returned (.bool (okL n Z b)) ∧ Below w.heap.size w w' := by
  generalize hr : okL n Z b = res
  have HR := hid hr; clear hr
  go_enter Try.func8, Try.ntmps8
  go_wp2
  go_loop [3] (fun i => ∃ k : Nat, k ≤ n ∧ i = .int .i64 k ∧ ∀ j, j < k → inC (Z j) = true) (fun i => n - (intOf i).toNat)
  case atStart => exact ⟨0, Nat.zero_le _, rfl, fun j hj => by omega⟩
  case round =>
    obtain ⟨k, hk, rfl, he⟩ := hrel
    have HE := hid he; clear he
    by_cases hlt : k < n
    · rcases hA with h0 | ⟨g, off, rfl, hg, hcell⟩
      · omega
      have c1 := hcell k hlt
      have ca := fun (x : Obj) (o : Nat) => World.cell?_alloc_lt w x ⟨g, o, none⟩ hg
      clear hcell
      cases hv : inC (Z k)
      · have HV := hid hv
        have HF := hid (okL_at (b := b) hlt hv); clear hv
        go_wp2_with (go_at_call 17; refine (lsmall_at _ _ HV.out).mono ?_; rintro e w' ⟨rfl, rfl⟩)
        go_ret
        exact ⟨ret_bool (HF.out.symm.trans HR.out), bal (Below.refl _ _) _⟩
      · have HV := hid hv; clear hv
        go_wp2_with (go_at_call 17; refine (lsmall_at _ _ HV.out).mono ?_; rintro e w' ⟨rfl, rfl⟩)
        go_round
        case rel =>
          refine ⟨k + 1, by omega, by go_num, fun j hj => ?_⟩
          by_cases e : j = k
          · subst e; exact HV.out
          · exact HE.out j (by omega)
        case measure => simp [intOf]; omega
    · have hke : k = n := by omega
      subst hke
      by_cases h4 : k = 4
      · subst h4
        cases hv : inC b
        · have HV := hid hv
          have HF := hid (okL_bd (n := 4) (Z := Z) hv); clear hv
          go_wp2_with (go_at_call 17; refine (lsmall_at _ _ HV.out).mono ?_; rintro e w' ⟨rfl, rfl⟩)
          go_ret
          exact ⟨ret_bool (HF.out.symm.trans HR.out), bal (Below.refl _ _) _⟩
        · have HV := hid hv
          have HT := hid (okL_iff.2 ⟨rfl, HE.out, hv⟩); clear hv
          go_wp2_with (go_at_call 17; refine (lsmall_at _ _ HV.out).mono ?_; rintro e w' ⟨rfl, rfl⟩)
          go_ret
          exact ⟨ret_bool (HT.out.symm.trans HR.out), bal (Below.refl _ _) _⟩
      · have HF := hid (okL_len (Z := Z) (b := b) h4)
        have hd : ((k : Int) == 4) = false := by simp; omega
        clear h4
        go_wp2
        go_ret
        exact ⟨ret_bool (HF.out.symm.trans HR.out), bal (Below.refl _ _) _⟩
theorem slinok_at {A : Option Addr} {n c : Nat} {Z : Nat → Int} {b : Int} {s : Bool} {w : World} (hn : n ≤ 9223372036854775806) (hA : Ints w A n Z) {v : Bool} (h : okL n Z b = v) (W : World) (hb : Below w.heap.size w W) :
    Calls Try.prog 8 #[.agg #[.slice A n c, .int .i64 b, .bool s]] W fun e w' => e = .returned (.bool v) ∧ Below W.heap.size W w' := by
  subst h; exact slinok_any A n c Z b s W hn (hA.below hb)
def e4 (z0 z1 z2 z3 : Int) : Bool := decide (z0 = 0 ∧ z1 = 0 ∧ z2 = 0 ∧ z3 = 0)
end Go.Proofs.Ytppiaclpholbfaa

namespace Go.Proofs.Ytppiaclpholbfaa
set_option linter.unusedVariables false
set_option linter.unusedSimpArgs false
open Go.RowKit
set_option maxHeartbeats 1000000 in
theorem sleq_any (A B : Option Addr) (n m c d : Nat) (Z Y : Nat → Int) (w : World) (hn : n ≤ 9223372036854775807) (hm : m ≤ 9223372036854775807) (hA : Ints w A n Z) (hB : Ints w B m Y) :
    Calls Try.prog 16 #[.slice A n c, .slice B m d] w fun e w' => e = .returned (.bool (eqI n Z m Y)) ∧ Below w.heap.size w w' := by
  by_cases hnm : n = m
  · subst hnm
    generalize hr : eqI n Z n Y = res
    have HR := hid hr; clear hr
    go_enter Try.func16, Try.ntmps16
    go_wp2
    go_loopw [13] (fun i wr => ∃ k : Nat, k ≤ n ∧ i = .int .i64 k ∧ Below w.heap.size w wr ∧ ∀ j, j < k → Z j = Y j) (fun i _ => n - (intOf i).toNat)
    case atStart => exact ⟨0, Nat.zero_le _, rfl, Below.refl _ _, fun j hj => by omega⟩
    case round =>
      obtain ⟨k, hk, rfl, hb, he⟩ := hrel
      have HE := hid he; clear he
      by_cases hlt : k < n
      · rcases hA with h0 | ⟨g, off, rfl, hg, hcA⟩
        · omega
        rcases hB with h0 | ⟨g2, off2, rfl, hg2, hcB⟩
        · omega
        have c1 : wr.cell? ⟨g, off + k, none⟩ = some (.int .i64 (Z k)) := (hb.cell (p := ⟨g, off + k, none⟩) hg).trans (hcA k hlt)
        have c2 : wr.cell? ⟨g2, off2 + k, none⟩ = some (.int .i64 (Y k)) := (hb.cell (p := ⟨g2, off2 + k, none⟩) hg2).trans (hcB k hlt)
        clear hcA hcB
        by_cases heq : Z k = Y k
        · have e1 : (Z k == Y k) = true := by simpa using heq
          have e2 : (Z k != Y k) = false := by simpa using heq
          have HQ := hid heq; clear heq
          go_wp2
          go_region
          all_goals
            go_wp2
            go_roundw
            case rel =>
              refine ⟨k + 1, by omega, by go_num, hb.drew, fun j hj => ?_⟩
              by_cases e : j = k
              · subst e; exact HQ.out
              · exact HE.out j (by omega)
            case measure => simp [intOf]; omega
        · have e1 : (Z k == Y k) = false := by simpa using heq
          have e2 : (Z k != Y k) = true := by simpa using heq
          have HF := hid (eqI_at (m := n) hlt heq); clear heq
          go_wp2
          go_region
          all_goals
            go_wp2
            go_ret
            exact ⟨ret_bool (by rw [← HR.out, HF.out]), hb.drew⟩
      · have hke : k = n := by omega
        subst hke
        have HT := hid (eqI_iff.2 ⟨rfl, HE.out⟩)
        go_wp2
        go_ret
        exact ⟨ret_bool (by rw [← HR.out, HT.out]), hb⟩
  · rw [eqI_len hnm]
    have e1 : ((n : Int) == m) = false := by simp; omega
    have e2 : ((n : Int) != m) = true := by simp; omega
    go_enter Try.func16, Try.ntmps16
    go_wp2
    go_ret
    exact ⟨rfl, Below.refl _ _⟩
set_option maxHeartbeats 1000000 in
theorem linsame_any (A B : Option Addr) (n m c d : Nat) (Z Y : Nat → Int) (b b2 : Int) (s s2 : Bool) (w : World) (hn : n ≤ 9223372036854775806) (hm : m ≤ 9223372036854775806) (hA : Ints w A n Z) (hB : Ints w B m Y) :
    Calls Try.prog 6 #[.agg #[.slice A n c, .int .i64 b, .bool s], .agg #[.slice B m d, .int .i64 b2, .bool s2]] w fun e w' => e = .returned (.bool (eqL n Z b s m Y b2 s2)) ∧ Below w.heap.size w w' := by
  have hS := fun W (hb : Below w.heap.size w W) => sleq_any A B n m c d Z Y W (by omega) (by omega) (hA.below hb) (hB.below hb)
  unfold eqL
  clear hA hB hn hm
  generalize eqI n Z m Y = r at hS ⊢
  cases r
  · go_enter Try.func6, Try.ntmps6
    go_wp2_with (go_at_call 16; refine (hS _ (bal (bal (Below.refl _ _) _) _)).mono ?_; rintro e w1 ⟨rfl, hq⟩)
    go_ret
    clear hS
    refine ⟨rfl, ?_⟩
    (repeat first | with_reducible exact Below.refl _ _ | with_reducible assumption | with_reducible refine Below.drew ?_ | with_reducible refine bdn ?_ _ | with_reducible refine bal ?_ _ | (with_reducible refine bst ?_ ?_ _; rotate_left; (simp <;> omega)) | (with_reducible refine btr ?_ (by with_reducible assumption)))
  · by_cases hb : b = b2
    · subst hb
      go_enter Try.func6, Try.ntmps6
      go_wp2_with (go_at_call 16; refine (hS _ (bal (bal (Below.refl _ _) _) _)).mono ?_; rintro e w1 ⟨rfl, hq⟩; obtain ⟨hc, hf⟩ := bcell hq)
      go_ret
      clear hS hc hf
      refine ⟨ret_bool (by cases s <;> cases s2 <;> simp), ?_⟩
      (repeat first | with_reducible exact Below.refl _ _ | with_reducible assumption | with_reducible refine Below.drew ?_ | with_reducible refine bdn ?_ _ | with_reducible refine bal ?_ _ | (with_reducible refine bst ?_ ?_ _; rotate_left; (simp <;> omega)) | (with_reducible refine btr ?_ (by with_reducible assumption)))
    · have d1 : (b == b2) = false := by simpa using hb
      have H := hid hb; clear hb
      go_enter Try.func6, Try.ntmps6
      go_wp2_with (go_at_call 16; refine (hS _ (bal (bal (Below.refl _ _) _) _)).mono ?_; rintro e w1 ⟨rfl, hq⟩; obtain ⟨hc, hf⟩ := bcell hq)
      go_ret
      clear hS hc hf
      refine ⟨ret_bool (by simp [H.out]), ?_⟩
      (repeat first | with_reducible exact Below.refl _ _ | with_reducible assumption | with_reducible refine Below.drew ?_ | with_reducible refine bdn ?_ _ | with_reducible refine bal ?_ _ | (with_reducible refine bst ?_ ?_ _; rotate_left; (simp <;> omega)) | (with_reducible refine btr ?_ (by with_reducible assumption)))
end Go.Proofs.Ytppiaclpholbfaa
