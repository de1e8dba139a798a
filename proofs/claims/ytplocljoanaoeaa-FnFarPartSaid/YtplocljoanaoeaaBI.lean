/- Several texts in one: LinI, LinJ. -/
import Derived.Test.YtplocljoanaoeaaBL
namespace Go.Proofs.Ytplocljoanaoeaa
set_option linter.unusedVariables false
set_option linter.unusedSimpArgs false
open Go.RowKit
theorem lsmall_any (n : Int) (w : World) :
    Calls Try.prog 95 #[.int .i64 n] w fun e w' => e = .returned (.bool (inC n)) ∧ w = w' := by
  by_cases h : -1000000 ≤ n
  · by_cases h2 : n ≤ 1000000
    · go_enter Try.func95, Try.ntmps95
      go_wp2
      go_ret
      exact ⟨ret_bool (by simp [inC]; omega), rfl⟩
    · go_enter Try.func95, Try.ntmps95
      go_wp2
      go_ret
      exact ⟨ret_bool (by simp [inC]; omega), rfl⟩
  · go_enter Try.func95, Try.ntmps95
    go_wp2
    go_ret
    exact ⟨ret_bool (by simp [inC]; omega), rfl⟩
theorem lsmall_at (n : Int) (w : World) {v : Bool} (h : inC n = v) :
    Calls Try.prog 95 #[.int .i64 n] w fun e w' => e = .returned (.bool v) ∧ w = w' := by subst h; exact lsmall_any n w
set_option maxHeartbeats 1000000 in
theorem slinok_any (A : Option Addr) (n c : Nat) (Z : Nat → Int) (b : Int) (s : Bool) (w : World) (hn : n ≤ 9223372036854775806) (hA : Ints w A n Z) :
    Calls Try.prog 65 #[.agg #[.slice A n c, .int .i64 b, .bool s]] w fun e w' => e = .returned (.bool (okL n Z b)) ∧ Below w.heap.size w w' := by
  generalize hr : okL n Z b = res
  have HR := hid hr; clear hr
  go_enter Try.func65, Try.ntmps65
  go_wp2
  go_loop [3] (fun i => ∃ k : Nat, k ≤ n ∧ i = .int .i64 k ∧ ∀ j, j < k → inC (Z j) = true) (fun i => n - (intOf i).toNat)
  case atStart => exact ⟨0, Nat.zero_le _, rfl, fun j hj => by omega⟩
  case round =>
    obtain ⟨k, hk, rfl, he⟩ := hrel
    have HE := hid he; clear he
    by_cases hlt : k < n
    · rcases hA with h0 | ⟨g, off, rfl, hg, hcell⟩
      · omega
      have c1 := hcell k hlt
      have ca := fun (x : Obj) (o : Nat) => World.cell?_alloc_lt w x ⟨g, o, none⟩ hg
      clear hcell
      cases hv : inC (Z k)
      · have HV := hid hv
        have HF := hid (okL_at (b := b) hlt hv); clear hv
        go_wp2_with (go_at_call 95; refine (lsmall_at _ _ HV.out).mono ?_; rintro e w' ⟨rfl, rfl⟩)
        go_ret
        exact ⟨ret_bool (HF.out.symm.trans HR.out), bal (Below.refl _ _) _⟩
      · have HV := hid hv; clear hv
        go_wp2_with (go_at_call 95; refine (lsmall_at _ _ HV.out).mono ?_; rintro e w' ⟨rfl, rfl⟩)
        go_round
        case rel =>
          refine ⟨k + 1, by omega, by go_num, fun j hj => ?_⟩
          by_cases e : j = k
          · subst e; exact HV.out
          · exact HE.out j (by omega)
        case measure => simp [intOf]; omega
    · have hke : k = n := by omega
      subst hke
      by_cases h4 : k = 4
      · subst h4
        cases hv : inC b
        · have HV := hid hv
          have HF := hid (okL_bd (n := 4) (Z := Z) hv); clear hv
          go_wp2_with (go_at_call 95; refine (lsmall_at _ _ HV.out).mono ?_; rintro e w' ⟨rfl, rfl⟩)
          go_ret
          exact ⟨ret_bool (HF.out.symm.trans HR.out), bal (Below.refl _ _) _⟩
        · have HV := hid hv
          have HT := hid (okL_iff.2 ⟨rfl, HE.out, hv⟩); clear hv
          go_wp2_with (go_at_call 95; refine (lsmall_at _ _ HV.out).mono ?_; rintro e w' ⟨rfl, rfl⟩)
          go_ret
          exact ⟨ret_bool (HT.out.symm.trans HR.out), bal (Below.refl _ _) _⟩
      · have HF := hid (okL_len (Z := Z) (b := b) h4)
        have hd : ((k : Int) == 4) = false := by simp; omega
        clear h4
        go_wp2
        go_ret
        exact ⟨ret_bool (HF.out.symm.trans HR.out), bal (Below.refl _ _) _⟩
theorem slinok_at {A : Option Addr} {n c : Nat} {Z : Nat → Int} {b : Int} {s : Bool} {w : World} (hn : n ≤ 9223372036854775806) (hA : Ints w A n Z) {v : Bool} (h : okL n Z b = v) (W : World) (hb : Below w.heap.size w W) :
    Calls Try.prog 65 #[.agg #[.slice A n c, .int .i64 b, .bool s]] W fun e w' => e = .returned (.bool v) ∧ Below W.heap.size W w' := by
  subst h; exact slinok_any A n c Z b s W hn (hA.below hb)
def e4 (z0 z1 z2 z3 : Int) : Bool := decide (z0 = 0 ∧ z1 = 0 ∧ z2 = 0 ∧ z3 = 0)
set_option maxRecDepth 100000 in
set_option maxHeartbeats 4000000 in
theorem lempty_yes (g off c : Nat) (z0 z1 z2 z3 b : Int) (s : Bool) (w : World) (hg : g < w.heap.size) (c0 : w.cell? ⟨g, off, none⟩ = some (.int .i64 z0)) (c1 : w.cell? ⟨g, off + 1, none⟩ = some (.int .i64 z1)) (c2 : w.cell? ⟨g, off + 2, none⟩ = some (.int .i64 z2)) (c3 : w.cell? ⟨g, off + 3, none⟩ = some (.int .i64 z3)) :
    Calls Try.prog 66 #[.agg #[.slice (some ⟨g, off, none⟩) 4 c, .int .i64 b, .bool s]] w fun e w' => e = .returned (.bool (e4 z0 z1 z2 z3)) ∧ Below w.heap.size w w' := by
  have ca := fun (x : Obj) (o : Nat) => World.cell?_alloc_lt w x ⟨g, o, none⟩ hg
  by_cases h0 : z0 = 0
  · subst h0
    by_cases h1 : z1 = 0
    · subst h1
      by_cases h2 : z2 = 0
      · subst h2
        by_cases h3 : z3 = 0
        · subst h3
          go_enter Try.func66, Try.ntmps66
          go_wp2
          refine wp_loop_rounds 5 ?_
          rw [rounds_succ]
          go_wp2
          rw [rounds_succ]
          go_wp2
          rw [rounds_succ]
          go_wp2
          rw [rounds_succ]
          go_wp2
          rw [rounds_succ]
          go_wp2
          go_ret
          exact ⟨rfl, bal (Below.refl _ _) _⟩
        · have d3 : (z3 != 0) = true := by simpa using h3
          have H := hid h3; clear h3
          go_enter Try.func66, Try.ntmps66
          go_wp2
          refine wp_loop_rounds 4 ?_
          rw [rounds_succ]
          go_wp2
          rw [rounds_succ]
          go_wp2
          rw [rounds_succ]
          go_wp2
          rw [rounds_succ]
          go_wp2
          go_ret
          exact ⟨ret_bool (by simp [e4, H.out]), bal (Below.refl _ _) _⟩
      · have d3 : (z2 != 0) = true := by simpa using h2
        have H := hid h2; clear h2
        go_enter Try.func66, Try.ntmps66
        go_wp2
        refine wp_loop_rounds 3 ?_
        rw [rounds_succ]
        go_wp2
        rw [rounds_succ]
        go_wp2
        rw [rounds_succ]
        go_wp2
        go_ret
        exact ⟨ret_bool (by simp [e4, H.out]), bal (Below.refl _ _) _⟩
    · have d3 : (z1 != 0) = true := by simpa using h1
      have H := hid h1; clear h1
      go_enter Try.func66, Try.ntmps66
      go_wp2
      refine wp_loop_rounds 2 ?_
      rw [rounds_succ]
      go_wp2
      rw [rounds_succ]
      go_wp2
      go_ret
      exact ⟨ret_bool (by simp [e4, H.out]), bal (Below.refl _ _) _⟩
  · have d3 : (z0 != 0) = true := by simpa using h0
    have H := hid h0; clear h0
    go_enter Try.func66, Try.ntmps66
    go_wp2
    refine wp_loop_rounds 1 ?_
    rw [rounds_succ]
    go_wp2
    go_ret
    exact ⟨ret_bool (by simp [e4, H.out]), bal (Below.refl _ _) _⟩
theorem lempty_at {A : Option Addr} {n c : Nat} {Z : Nat → Int} {b : Int} {s : Bool} {w : World} (hA : Ints w A n Z) (h : n = 4) {v : Bool} (hv : emptyB Z = v) (W : World) (hb : Below w.heap.size w W) :
    Calls Try.prog 66 #[.agg #[.slice A n c, .int .i64 b, .bool s]] W fun e w' => e = .returned (.bool v) ∧ Below W.heap.size W w' := by
  subst hv h
  rcases hA.below hb with h0 | ⟨g, off, rfl, hg, hc⟩
  · omega
  · exact lempty_yes g off c _ _ _ _ b s W hg (hc 0 (by omega)) (hc 1 (by omega)) (hc 2 (by omega)) (hc 3 (by omega))
end Go.Proofs.Ytplocljoanaoeaa

namespace Go.Proofs.Ytplocljoanaoeaa
set_option linter.unusedVariables false
set_option linter.unusedSimpArgs false
open Go.RowKit
set_option maxHeartbeats 1000000 in
theorem slinbad_any (A : Option Addr) (n c : Nat) (Z : Nat → Int) (b : Int) (s : Bool) (w : World) (hn : n ≤ 9223372036854775806) (hA : Ints w A n Z) :
    Calls Try.prog 34 #[.agg #[.slice A n c, .int .i64 b, .bool s]] w fun e w' => e = .returned (.bool (badB n Z b s)) ∧ Below w.heap.size w w' := by
  unfold badB
  cases hv : okL n Z b
  · have hO := slinok_at (c := c) (s := s) hn hA hv
    clear hv hA hn
    go_enter Try.func34, Try.ntmps34
    go_wp2_with (go_at_call 65; refine (hO _ (bal (Below.refl _ _) _)).mono ?_; rintro e w1 ⟨rfl, hq⟩)
    go_ret
    clear hO
    refine ⟨rfl, ?_⟩
    (repeat first | with_reducible exact Below.refl _ _ | with_reducible assumption | with_reducible refine Below.drew ?_ | with_reducible refine bdn ?_ _ | with_reducible refine bal ?_ _ | (with_reducible refine bst ?_ ?_ _; rotate_left; (simp <;> omega)) | (with_reducible refine btr ?_ (by with_reducible assumption)))
  · have hO := slinok_at (c := c) (s := s) hn hA hv
    cases he : emptyB Z
    · have hE := lempty_at (c := c) (b := b) (s := s) hA (okL_iff.1 hv).1 he
      clear hv hA hn he
      go_enter Try.func34, Try.ntmps34
      go_wp2_with (first | (go_at_call 65; refine (hO _ (bal (Below.refl _ _) _)).mono ?_; rintro e w1 ⟨rfl, hq⟩; obtain ⟨hc, hf⟩ := bcell hq) | (go_at_call 66; refine (hE _ (btr (bal (Below.refl _ _) _) hq)).mono ?_; rintro e w2 ⟨rfl, hq2⟩))
      go_ret
      clear hO hE hc hf
      refine ⟨rfl, ?_⟩
      (repeat first | with_reducible exact Below.refl _ _ | with_reducible assumption | with_reducible refine Below.drew ?_ | with_reducible refine bdn ?_ _ | with_reducible refine bal ?_ _ | (with_reducible refine bst ?_ ?_ _; rotate_left; (simp <;> omega)) | (with_reducible refine btr ?_ (by with_reducible assumption)))
    · have hE := lempty_at (c := c) (b := b) (s := s) hA (okL_iff.1 hv).1 he
      clear hv hA hn he
      by_cases h0 : b < 0
      · go_enter Try.func34, Try.ntmps34
        go_wp2_with (first | (go_at_call 65; refine (hO _ (bal (Below.refl _ _) _)).mono ?_; rintro e w1 ⟨rfl, hq⟩; obtain ⟨hc, hf⟩ := bcell hq) | (go_at_call 66; refine (hE _ (btr (bal (Below.refl _ _) _) hq)).mono ?_; rintro e w2 ⟨rfl, hq2⟩; obtain ⟨hc2, hf2⟩ := bcell (btr hq hq2)))
        go_ret
        clear hO hE hc hf hc2 hf2
        refine ⟨ret_bool (by simp [refB, h0]), ?_⟩
        (repeat first | with_reducible exact Below.refl _ _ | with_reducible assumption | with_reducible refine Below.drew ?_ | with_reducible refine bdn ?_ _ | with_reducible refine bal ?_ _ | (with_reducible refine bst ?_ ?_ _; rotate_left; (simp <;> omega)) | (with_reducible refine btr ?_ (by with_reducible assumption)))
      · by_cases h1 : b = 0
        · subst h1
          go_enter Try.func34, Try.ntmps34
          go_wp2_with (first | (go_at_call 65; refine (hO _ (bal (Below.refl _ _) _)).mono ?_; rintro e w1 ⟨rfl, hq⟩; obtain ⟨hc, hf⟩ := bcell hq) | (go_at_call 66; refine (hE _ (btr (bal (Below.refl _ _) _) hq)).mono ?_; rintro e w2 ⟨rfl, hq2⟩; obtain ⟨hc2, hf2⟩ := bcell (btr hq hq2)))
          go_ret
          clear hO hE hc hf hc2 hf2
          refine ⟨ret_bool (by simp [refB]), ?_⟩
          (repeat first | with_reducible exact Below.refl _ _ | with_reducible assumption | with_reducible refine Below.drew ?_ | with_reducible refine bdn ?_ _ | with_reducible refine bal ?_ _ | (with_reducible refine bst ?_ ?_ _; rotate_left; (simp <;> omega)) | (with_reducible refine btr ?_ (by with_reducible assumption)))
        · have d1 : (b == 0) = false := by simpa using h1
          have H1 := hid h1; clear h1
          go_enter Try.func34, Try.ntmps34
          go_wp2_with (first | (go_at_call 65; refine (hO _ (bal (Below.refl _ _) _)).mono ?_; rintro e w1 ⟨rfl, hq⟩; obtain ⟨hc, hf⟩ := bcell hq) | (go_at_call 66; refine (hE _ (btr (bal (Below.refl _ _) _) hq)).mono ?_; rintro e w2 ⟨rfl, hq2⟩; obtain ⟨hc2, hf2⟩ := bcell (btr hq hq2)))
          go_ret
          clear hO hE hc hf hc2 hf2
          refine ⟨ret_bool (by simp [refB, h0, H1.out]), ?_⟩
          (repeat first | with_reducible exact Below.refl _ _ | with_reducible assumption | with_reducible refine Below.drew ?_ | with_reducible refine bdn ?_ _ | with_reducible refine bal ?_ _ | (with_reducible refine bst ?_ ?_ _; rotate_left; (simp <;> omega)) | (with_reducible refine btr ?_ (by with_reducible assumption)))
theorem slinbad_at {A : Option Addr} {n c : Nat} {Z : Nat → Int} {b : Int} {s : Bool} {w : World} (hn : n ≤ 9223372036854775806) (hA : Ints w A n Z) {v : Bool} (h : badB n Z b s = v) (W : World) (hb : Below w.heap.size w W) :
    Calls Try.prog 34 #[.agg #[.slice A n c, .int .i64 b, .bool s]] W fun e w' => e = .returned (.bool v) ∧ Below W.heap.size W w' := by
  subst h; exact slinbad_any A n c Z b s W hn (hA.below hb)
set_option maxHeartbeats 1000000 in
theorem sleq_any (A B : Option Addr) (n m c d : Nat) (Z Y : Nat → Int) (w : World) (hn : n ≤ 9223372036854775807) (hm : m ≤ 9223372036854775807) (hA : Ints w A n Z) (hB : Ints w B m Y) :
    Calls Try.prog 45 #[.slice A n c, .slice B m d] w fun e w' => e = .returned (.bool (eqI n Z m Y)) ∧ Below w.heap.size w w' := by
  by_cases hnm : n = m
  · subst hnm
    generalize hr : eqI n Z n Y = res
    have HR := hid hr; clear hr
    go_enter Try.func45, Try.ntmps45
    go_wp2
    go_loopw [13] (fun i wr => ∃ k : Nat, k ≤ n ∧ i = .int .i64 k ∧ Below w.heap.size w wr ∧ ∀ j, j < k → Z j = Y j) (fun i _ => n - (intOf i).toNat)
    case atStart => exact ⟨0, Nat.zero_le _, rfl, Below.refl _ _, fun j hj => by omega⟩
    case round =>
      obtain ⟨k, hk, rfl, hb, he⟩ := hrel
      have HE := hid he; clear he
      by_cases hlt : k < n
      · rcases hA with h0 | ⟨g, off, rfl, hg, hcA⟩
        · omega
        rcases hB with h0 | ⟨g2, off2, rfl, hg2, hcB⟩
        · omega
        have c1 : wr.cell? ⟨g, off + k, none⟩ = some (.int .i64 (Z k)) := (hb.cell (p := ⟨g, off + k, none⟩) hg).trans (hcA k hlt)
        have c2 : wr.cell? ⟨g2, off2 + k, none⟩ = some (.int .i64 (Y k)) := (hb.cell (p := ⟨g2, off2 + k, none⟩) hg2).trans (hcB k hlt)
        clear hcA hcB
        by_cases heq : Z k = Y k
        · have e1 : (Z k == Y k) = true := by simpa using heq
          have e2 : (Z k != Y k) = false := by simpa using heq
          have HQ := hid heq; clear heq
          go_wp2
          go_region
          all_goals
            go_wp2
            go_roundw
            case rel =>
              refine ⟨k + 1, by omega, by go_num, hb.drew, fun j hj => ?_⟩
              by_cases e : j = k
              · subst e; exact HQ.out
              · exact HE.out j (by omega)
            case measure => simp [intOf]; omega
        · have e1 : (Z k == Y k) = false := by simpa using heq
          have e2 : (Z k != Y k) = true := by simpa using heq
          have HF := hid (eqI_at (m := n) hlt heq); clear heq
          go_wp2
          go_region
          all_goals
            go_wp2
            go_ret
            exact ⟨ret_bool (by rw [← HR.out, HF.out]), hb.drew⟩
      · have hke : k = n := by omega
        subst hke
        have HT := hid (eqI_iff.2 ⟨rfl, HE.out⟩)
        go_wp2
        go_ret
        exact ⟨ret_bool (by rw [← HR.out, HT.out]), hb⟩
  · rw [eqI_len hnm]
    have e1 : ((n : Int) == m) = false := by simp; omega
    have e2 : ((n : Int) != m) = true := by simp; omega
    go_enter Try.func45, Try.ntmps45
    go_wp2
    go_ret
    exact ⟨rfl, Below.refl _ _⟩
set_option maxHeartbeats 1000000 in
theorem linsame_any (A B : Option Addr) (n m c d : Nat) (Z Y : Nat → Int) (b b2 : Int) (s s2 : Bool) (w : World) (hn : n ≤ 9223372036854775806) (hm : m ≤ 9223372036854775806) (hA : Ints w A n Z) (hB : Ints w B m Y) :
    Calls Try.prog 20 #[.agg #[.slice A n c, .int .i64 b, .bool s], .agg #[.slice B m d, .int .i64 b2, .bool s2]] w fun e w' => e = .returned (.bool (eqL n Z b s m Y b2 s2)) ∧ Below w.heap.size w w' := by
  have hS := fun W (hb : Below w.heap.size w W) => sleq_any A B n m c d Z Y W (by omega) (by omega) (hA.below hb) (hB.below hb)
  unfold eqL
  clear hA hB hn hm
  generalize eqI n Z m Y = r at hS ⊢
  cases r
  · go_enter Try.func20, Try.ntmps20
    go_wp2_with (go_at_call 45; refine (hS _ (bal (bal (Below.refl _ _) _) _)).mono ?_; rintro e w1 ⟨rfl, hq⟩)
    go_ret
    clear hS
    refine ⟨rfl, ?_⟩
    (repeat first | with_reducible exact Below.refl _ _ | with_reducible assumption | with_reducible refine Below.drew ?_ | with_reducible refine bdn ?_ _ | with_reducible refine bal ?_ _ | (with_reducible refine bst ?_ ?_ _; rotate_left; (simp <;> omega)) | (with_reducible refine btr ?_ (by with_reducible assumption)))
  · by_cases hb : b = b2
    · subst hb
      go_enter Try.func20, Try.ntmps20
      go_wp2_with (go_at_call 45; refine (hS _ (bal (bal (Below.refl _ _) _) _)).mono ?_; rintro e w1 ⟨rfl, hq⟩; obtain ⟨hc, hf⟩ := bcell hq)
      go_ret
      clear hS hc hf
      refine ⟨ret_bool (by cases s <;> cases s2 <;> simp), ?_⟩
      (repeat first | with_reducible exact Below.refl _ _ | with_reducible assumption | with_reducible refine Below.drew ?_ | with_reducible refine bdn ?_ _ | with_reducible refine bal ?_ _ | (with_reducible refine bst ?_ ?_ _; rotate_left; (simp <;> omega)) | (with_reducible refine btr ?_ (by with_reducible assumption)))
    · have d1 : (b == b2) = false := by simpa using hb
      have H := hid hb; clear hb
      go_enter Try.func20, Try.ntmps20
      go_wp2_with (go_at_call 45; refine (hS _ (bal (bal (Below.refl _ _) _) _)).mono ?_; rintro e w1 ⟨rfl, hq⟩; obtain ⟨hc, hf⟩ := bcell hq)
      go_ret
      clear hS hc hf
      refine ⟨ret_bool (by simp [H.out]), ?_⟩
      (repeat first | with_reducible exact Below.refl _ _ | with_reducible assumption | with_reducible refine Below.drew ?_ | with_reducible refine bdn ?_ _ | with_reducible refine bal ?_ _ | (with_reducible refine bst ?_ ?_ _; rotate_left; (simp <;> omega)) | (with_reducible refine btr ?_ (by with_reducible assumption)))
end Go.Proofs.Ytplocljoanaoeaa
