/- Contract of the model's FarAll. -/
import Derived.Test.YtplocljoanaoeaaFarE
import Derived.Test.YtplocljoanaoeaaLinYA
namespace Go.Proofs.Ytplocljoanaoeaa
set_option linter.unusedVariables false
set_option linter.unusedSimpArgs false
open Go.RowKit
/-- all of a system are so of these numbers -/
def allB (n : Nat) (L : Lst) (m : Nat) (N D : Nat → Int) : Bool := decide ((∀ k, k < n → atB (L.N k) (L.Z k) (L.B k) (L.S k) m N D = (true, true)) ∧ okS n L = true ∧ valsB m N D = true)
theorem allB_iff {n m : Nat} {L : Lst} {N D : Nat → Int} : allB n L m N D = true ↔ (∀ k, k < n → atB (L.N k) (L.Z k) (L.B k) (L.S k) m N D = (true, true)) ∧ okS n L = true ∧ valsB m N D = true := by unfold allB; exact decide_eq_true_iff
theorem allB_at {n m k : Nat} {L : Lst} {N D : Nat → Int} (hk : k < n) (h : atB (L.N k) (L.Z k) (L.B k) (L.S k) m N D ≠ (true, true)) : allB n L m N D = false := by
  cases e : allB n L m N D
  · rfl
  · exact absurd ((allB_iff.1 e).1 k hk) h
theorem sat_at {A : Option Addr} {n c : Nat} {Z : Nat → Int} {b : Int} {s : Bool} {B : Option Addr} {m d : Nat} {N D : Nat → Int} {w : World} (hn : n ≤ 9223372036854775806) (hA : Ints w A n Z) (hm : m ≤ 9223372036854775806) (hB : Rats w B m N D) {p q : Bool} (h : atB n Z b s m N D = (p, q)) (W : World) (hb : Below w.heap.size w W) :
    Calls Try.prog 57 #[.agg #[.slice A n c, .int .i64 b, .bool s], .slice B m d] W fun e w' => e = .returned (.tuple #[.bool p, .bool q]) ∧ Below W.heap.size W w' := by
  have := slinat_any A n c Z b s B m d N D W hn (hA.below hb) hm (hB.below hb)
  rw [h] at this
  exact this
theorem sl3ok_at {A : Option Addr} {n c : Nat} {L : Lst} {w : World} (hn : n ≤ 9223372036854775806) (hA : Lins w A n L) (hN : ∀ k, k < n → L.N k ≤ 1048576) {v : Bool} (h : okS n L = v) (W : World) (hb : Below w.heap.size w W) :
    Calls Try.prog 43 #[.slice A n c] W fun e w' => e = .returned (.bool v) ∧ Below W.heap.size W w' := by
  subst h; exact sl3ok_any A n c L W hn (hA.below hb) hN
set_option maxRecDepth 100000 in
set_option maxHeartbeats 2000000 in
theorem sfarall_any (A : Option Addr) (n c : Nat) (L : Lst) (B : Option Addr) (m d : Nat) (N D : Nat → Int) (w : World) (hn : n ≤ 9223372036854775806) (hA : Lins w A n L) (hN : ∀ k, k < n → L.N k ≤ 1048576) (hm : m ≤ 9223372036854775806) (hB : Rats w B m N D) :
    Calls Try.prog 28 #[.slice A n c, .slice B m d] w fun e w' => e = .returned (.bool (allB n L m N D)) ∧ Below w.heap.size w w' := by
  generalize hr : allB n L m N D = res
  have HR := hid hr; clear hr
  have hA0 := hA
  have HNN := hid hN; clear hN
  go_enter Try.func28, Try.ntmps28
  go_wp2
  go_loopw [5] (fun i wr => ∃ k : Nat, k ≤ n ∧ i = .int .i64 k ∧ Below w.heap.size w wr ∧ ∀ j, j < k → atB (L.N j) (L.Z j) (L.B j) (L.S j) m N D = (true, true)) (fun i _ => n - (intOf i).toNat)
  case atStart => exact ⟨0, Nat.zero_le _, rfl, Below.refl _ _, fun j hj => by omega⟩
  case round =>
    obtain ⟨k, hk, rfl, hb, he⟩ := hrel
    have HE := hid he; clear he
    by_cases hlt : k < n
    · rcases hA with h0 | ⟨g, off, rfl, hg, hcA⟩
      · omega
      obtain ⟨a, ca, a0, a1, a2, _, hI⟩ := hcA k hlt
      have hNk : L.N k ≤ 9223372036854775806 := Nat.le_trans (HNN.out k hlt) (by omega)
      have gg : g < wr.heap.size := Nat.lt_of_lt_of_le hg hb.size
      replace a0 := carry hb a0
      replace a1 := carry hb a1
      replace a2 := carry hb a2
      replace hI := hI.below hb
      have hBr := hB.below hb
      clear hcA hA0
      rcases hv : atB (L.N k) (L.Z k) (L.B k) (L.S k) m N D with ⟨p, q⟩
      have hO := fun W h => sat_at (c := ca) (d := d) hNk hI hm hBr hv W h
      cases q
      · have HF := hid (allB_at (n := n) hlt (by rw [hv]; simp)); clear hv
        go_wp2_with (go_at_call 57; refine (hO _ (Below.refl _ _)).mono ?_; rintro e w1 ⟨rfl, hq⟩)
        go_ret
        exact ⟨ret_bool (HF.out.symm.trans HR.out), btr hb hq⟩
      · cases p
        · have HF := hid (allB_at (n := n) hlt (by rw [hv]; simp)); clear hv
          go_wp2_with (go_at_call 57; refine (hO _ (Below.refl _ _)).mono ?_; rintro e w1 ⟨rfl, hq⟩)
          go_ret
          exact ⟨ret_bool (HF.out.symm.trans HR.out), btr hb hq⟩
        · have HV := hid hv; clear hv
          go_wp2_with (go_at_call 57; refine (hO _ (Below.refl _ _)).mono ?_; rintro e w1 ⟨rfl, hq⟩)
          go_roundw
          case rel =>
            refine ⟨k + 1, by omega, by go_num, btr hb hq, fun j hj => ?_⟩
            by_cases e : j = k
            · subst e; exact HV.out
            · exact HE.out j (by omega)
          case measure => simp [intOf]; omega
    · have hke : k = n := by omega
      subst hke
      cases hs : okS k L
      · have HF := hid (show allB k L m N D = false by cases e : allB k L m N D; rfl; have := (allB_iff.1 e).2.1; rw [hs] at this; cases this)
        have hO := fun W h => sl3ok_at (c := c) hn hA0 HNN.out hs W h
        go_wp2_with (go_at_call 43; refine (hO _ hb).mono ?_; rintro e w1 ⟨rfl, hq⟩)
        go_ret
        exact ⟨ret_bool (HF.out.symm.trans HR.out), btr hb hq⟩
      · have hO := fun W h => sl3ok_at (c := c) hn hA0 HNN.out hs W h
        have hV := fun v (h : valsB m N D = v) W hW => svals_at (c := d) hm hB h W hW
        cases hvv : valsB m N D
        · have HF := hid (show allB k L m N D = false by cases e : allB k L m N D; rfl; have := (allB_iff.1 e).2.2; rw [hvv] at this; cases this)
          go_wp2_with (first | (go_at_call 43; refine (hO _ hb).mono ?_; rintro e w1 ⟨rfl, hq⟩; have hb2 := btr hb hq) | (go_at_call 58; refine (hV _ hvv _ hb2).mono ?_; rintro e w2 ⟨rfl, hq2⟩))
          go_ret
          exact ⟨ret_bool (HF.out.symm.trans HR.out), btr hb2 hq2⟩
        · have HT := hid (allB_iff.2 ⟨HE.out, hs, hvv⟩)
          go_wp2_with (first | (go_at_call 43; refine (hO _ hb).mono ?_; rintro e w1 ⟨rfl, hq⟩; have hb2 := btr hb hq) | (go_at_call 58; refine (hV _ hvv _ hb2).mono ?_; rintro e w2 ⟨rfl, hq2⟩))
          go_ret
          exact ⟨ret_bool (HT.out.symm.trans HR.out), btr hb2 hq2⟩
end Go.Proofs.Ytplocljoanaoeaa
