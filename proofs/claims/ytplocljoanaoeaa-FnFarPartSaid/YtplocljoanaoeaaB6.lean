/- Several texts in one: FarM, FarH, FarN, FarQ. -/
import Derived.Test.YtplocljoanaoeaaFarL
import Derived.Test.YtplocljoanaoeaaBI
import Derived.Test.YtplocljoanaoeaaFarF
import Derived.Test.YtplocljoanaoeaaFarG
import Derived.Test.YtplocljoanaoeaaLinX
import Derived.Test.YtplocljoanaoeaaFarD
import Derived.Test.YtplocljoanaoeaaEqI
import Derived.Test.YtplocljoanaoeaaFarP
namespace Go.Proofs.Ytplocljoanaoeaa
set_option linter.unusedVariables false
set_option linter.unusedSimpArgs false
open Go.RowKit
def farOkB (R : LinR × Bool) : Bool := R.2 && badB R.1.1 R.1.2.1 R.1.2.2.1 R.1.2.2.2
set_option maxRecDepth 100000 in
set_option maxHeartbeats 2000000 in
theorem farok_any (A : Option Addr) (n c : Nat) (L : Lst) (B : Option Addr) (m d : Nat) (T : Nat → Int) (w : World) (hn : n ≤ 9223372036854775806) (hA : Lins w A n L) (hm : m ≤ 9223372036854775806) (hB : Ints w B m T) (hN : ∀ k, k < n → L.N k ≤ 1048576) :
    Calls Try.prog 13 #[.slice A n c, .slice B m d] w fun e w' => e = .returned (.bool (farOkB (farS n L m T))) ∧ Below w.heap.size w w' := by
  have hF := farsum_any A n c L B m d T w hn hA hm hB hN
  have hl := farS_len n L m T
  generalize farS n L m T = R at hF hl ⊢
  obtain ⟨⟨n9, Z9, b9, s9⟩, ok9⟩ := R
  simp only at hl
  clear hA hB hN
  cases ok9
  · go_enter Try.func13, Try.ntmps13
    go_wp2_with fail
    refine hF.mono ?_
    rintro e w1 ⟨v, rfl, ⟨A9, k9, rfl, h1, h2, hO⟩, hq⟩
    clear hF
    go_wp2
    go_ret
    exact ⟨rfl, bal hq _⟩
  · unfold farOkB
    simp only [Bool.true_and]
    go_enter Try.func13, Try.ntmps13
    go_wp2_with fail
    refine hF.mono ?_
    rintro e w1 ⟨v, rfl, ⟨A9, k9, rfl, h1, h2, hO⟩, hq⟩
    clear hF
    have hM := fun W (h : Ints W A9 n9 Z9) => linbad_any A9 n9 k9 Z9 b9 s9 W (by omega) h
    have hI := hO.ints
    simp only at hI
    go_wp2_with fail
    refine (hM _ (hI.below (bal (Below.refl _ _) _))).mono ?_
    rintro e w2 ⟨rfl, hq2⟩
    clear hM
    go_wp2
    go_ret
    exact ⟨rfl, btr (bal hq _) hq2⟩
set_option maxRecDepth 100000 in
set_option maxHeartbeats 2000000 in
theorem sfarok_any (A : Option Addr) (n c : Nat) (L : Lst) (B : Option Addr) (m d : Nat) (T : Nat → Int) (w : World) (hn : n ≤ 9223372036854775806) (hA : Lins w A n L) (hm : m ≤ 9223372036854775806) (hB : Ints w B m T) (hN : ∀ k, k < n → L.N k ≤ 1048576) :
    Calls Try.prog 14 #[.slice A n c, .slice B m d] w fun e w' => e = .returned (.bool (farOkB (farS n L m T))) ∧ Below w.heap.size w w' := by
  have hF := sfarsum_any A n c L B m d T w hn hA hm hB hN
  have hl := farS_len n L m T
  generalize farS n L m T = R at hF hl ⊢
  obtain ⟨⟨n9, Z9, b9, s9⟩, ok9⟩ := R
  simp only at hl
  clear hA hB hN
  cases ok9
  · go_enter Try.func14, Try.ntmps14
    go_wp2_with fail
    refine hF.mono ?_
    rintro e w1 ⟨v, rfl, ⟨A9, k9, rfl, h1, h2, hO⟩, hq⟩
    clear hF
    go_wp2
    go_ret
    exact ⟨rfl, bal hq _⟩
  · unfold farOkB
    simp only [Bool.true_and]
    go_enter Try.func14, Try.ntmps14
    go_wp2_with fail
    refine hF.mono ?_
    rintro e w1 ⟨v, rfl, ⟨A9, k9, rfl, h1, h2, hO⟩, hq⟩
    clear hF
    have hM := fun W (h : Ints W A9 n9 Z9) => slinbad_any A9 n9 k9 Z9 b9 s9 W (by omega) h
    have hI := hO.ints
    simp only at hI
    go_wp2_with fail
    refine (hM _ (hI.below (bal (Below.refl _ _) _))).mono ?_
    rintro e w2 ⟨rfl, hq2⟩
    clear hM
    go_wp2
    go_ret
    exact ⟨rfl, btr (bal hq _) hq2⟩
end Go.Proofs.Ytplocljoanaoeaa

namespace Go.Proofs.Ytplocljoanaoeaa
set_option linter.unusedVariables false
set_option linter.unusedSimpArgs false
open Go.RowKit
theorem lat_at {A : Option Addr} {n c : Nat} {Z : Nat → Int} {b : Int} {s : Bool} {B : Option Addr} {m d : Nat} {N D : Nat → Int} {w : World} (hn : n ≤ 9223372036854775806) (hA : Ints w A n Z) (hm : m ≤ 9223372036854775806) (hB : Rats w B m N D) {p q : Bool} (h : atB n Z b s m N D = (p, q)) (W : World) (hb : Below w.heap.size w W) :
    Calls Try.prog 21 #[.agg #[.slice A n c, .int .i64 b, .bool s], .slice B m d] W fun e w' => e = .returned (.tuple #[.bool p, .bool q]) ∧ Below W.heap.size W w' := by
  have := linat_any A n c Z b s B m d N D W (by omega) (hA.below hb) hm (hB.below hb)
  rw [h] at this
  exact this
set_option maxRecDepth 100000 in
set_option maxHeartbeats 2000000 in
theorem farall_any (A : Option Addr) (n c : Nat) (L : Lst) (B : Option Addr) (m d : Nat) (N D : Nat → Int) (w : World) (hn : n ≤ 9223372036854775806) (hA : Lins w A n L) (hN : ∀ k, k < n → L.N k ≤ 1048576) (hm : m ≤ 9223372036854775806) (hB : Rats w B m N D) :
    Calls Try.prog 16 #[.slice A n c, .slice B m d] w fun e w' => e = .returned (.bool (allB n L m N D)) ∧ Below w.heap.size w w' := by
  generalize hr : allB n L m N D = res
  have HR := hid hr; clear hr
  have HNN := hid hN; clear hN
  cases hs : okS n L
  · have HF := hid (show allB n L m N D = false by cases e : allB n L m N D; rfl; have := (allB_iff.1 e).2.1; rw [hs] at this; cases this)
    have hO := fun W h => issys_at (c := c) hn hA HNN.out hs W h
    clear hs
    go_enter Try.func16, Try.ntmps16
    go_wp2_with (go_at_call 38; refine (hO _ (Below.refl _ _)).mono ?_; rintro e w1 ⟨rfl, hq⟩)
    go_ret
    exact ⟨ret_bool (HF.out.symm.trans HR.out), hq⟩
  have hO := fun W h => issys_at (c := c) hn hA HNN.out hs W h
  have HS := hid hs; clear hs
  cases hv : valsB m N D
  · have HF := hid (show allB n L m N D = false by cases e : allB n L m N D; rfl; have := (allB_iff.1 e).2.2; rw [hv] at this; cases this)
    have hV := fun W h => isassign_at (c := d) hm hB hv W h
    clear hv
    go_enter Try.func16, Try.ntmps16
    go_wp2_with (first | (go_at_call 38; refine (hO _ (Below.refl _ _)).mono ?_; rintro e w1 ⟨rfl, hq⟩) | (go_at_call 39; refine (hV _ hq).mono ?_; rintro e w2 ⟨rfl, hq2⟩))
    go_ret
    exact ⟨ret_bool (HF.out.symm.trans HR.out), btr hq hq2⟩
  have hV := fun W h => isassign_at (c := d) hm hB hv W h
  have HV2 := hid hv; clear hv
  go_enter Try.func16, Try.ntmps16
  go_wp2_with (first | (go_at_call 38; refine (hO _ (Below.refl _ _)).mono ?_; rintro e w1 ⟨rfl, hq⟩) | (go_at_call 39; refine (hV _ hq).mono ?_; rintro e w2 ⟨rfl, hq2⟩))
  have hb0 := btr hq hq2
  clear hO hV hq hq2
  go_loopw [19] (fun i wr => ∃ k : Nat, k ≤ n ∧ i = .int .i64 k ∧ Below w.heap.size w wr ∧ ∀ j, j < k → atB (L.N j) (L.Z j) (L.B j) (L.S j) m N D = (true, true)) (fun i _ => n - (intOf i).toNat)
  case atStart => exact ⟨0, Nat.zero_le _, rfl, hb0, fun j hj => by omega⟩
  case round =>
    obtain ⟨k, hk, rfl, hb, he⟩ := hrel
    have HE := hid he; clear he
    clear hb0
    by_cases hlt : k < n
    · rcases hA with h0 | ⟨g, off, rfl, hg, hcA⟩
      · omega
      obtain ⟨a, ca, a0, a1, a2, _, hI⟩ := hcA k hlt
      have hNk : L.N k ≤ 9223372036854775806 := Nat.le_trans (HNN.out k hlt) (by omega)
      have gg : g < wr.heap.size := Nat.lt_of_lt_of_le hg hb.size
      replace a0 := carry hb a0
      replace a1 := carry hb a1
      replace a2 := carry hb a2
      replace hI := hI.below hb
      have hBr := hB.below hb
      clear hcA
      rcases hv : atB (L.N k) (L.Z k) (L.B k) (L.S k) m N D with ⟨p, q⟩
      have hO := fun W h => lat_at (c := ca) (d := d) hNk hI hm hBr hv W h
      cases q
      · have HF := hid (allB_at (n := n) hlt (by rw [hv]; simp)); clear hv
        go_wp2_with (go_at_call 21; refine (hO _ (bal (Below.refl _ _) _)).mono ?_; rintro e w1 ⟨rfl, hq⟩)
        go_ret
        exact ⟨ret_bool (HF.out.symm.trans HR.out), btr (bal hb _) hq⟩
      · cases p
        · have HF := hid (allB_at (n := n) hlt (by rw [hv]; simp)); clear hv
          go_wp2_with (go_at_call 21; refine (hO _ (bal (Below.refl _ _) _)).mono ?_; rintro e w1 ⟨rfl, hq⟩)
          go_ret
          exact ⟨ret_bool (HF.out.symm.trans HR.out), btr (bal hb _) hq⟩
        · have HV := hid hv; clear hv
          go_wp2_with (go_at_call 21; refine (hO _ (bal (Below.refl _ _) _)).mono ?_; rintro e w1 ⟨rfl, hq⟩)
          go_roundw
          case rel =>
            refine ⟨k + 1, by omega, by go_num, btr (bal hb _) hq, fun j hj => ?_⟩
            by_cases e : j = k
            · subst e; exact HV.out
            · exact HE.out j (by omega)
          case measure => simp [intOf]; omega
    · have hke : k = n := by omega
      subst hke
      have HT := hid (allB_iff.2 ⟨HE.out, HS.out, HV2.out⟩)
      go_wp2
      go_ret
      exact ⟨ret_bool (HT.out.symm.trans HR.out), hb⟩
end Go.Proofs.Ytplocljoanaoeaa

namespace Go.Proofs.Ytplocljoanaoeaa
set_option linter.unusedVariables false
set_option linter.unusedSimpArgs false
open Go.RowKit
end Go.Proofs.Ytplocljoanaoeaa

namespace Go.Proofs.Ytplocljoanaoeaa
set_option linter.unusedVariables false
set_option linter.unusedSimpArgs false
open Go.RowKit
theorem NewI.ownB {w w' : World} {g n : Nat} {t : TypeId} {Z : Nat → Int} (hg : w.heap.size ≤ g) (hr : w'.rowIs g t n (fun k => .int .i64 (Z k))) : OwnB w.heap.size w'.heap.size w' (some ⟨g, 0, none⟩) n Z :=
  .inr ⟨g, rfl, hg, hr.lt, hr.lt, fun k hk => ⟨hr.cell hk, hr.frozen k⟩⟩
theorem MarkP.wrt {lo hi : Nat} {w w' : World} {row : Option Nat} (hg : w.grownBy w' row) (hr : ∀ g, row = some g → lo ≤ g ∧ g < hi) : Wrt lo hi w w' := Wrt.of_grown hg hr
end Go.Proofs.Ytplocljoanaoeaa
