/- Contracts of FarOk, of the program and of the model. -/
import Derived.Test.YtgdjkaeojocfhaaFarL
import Derived.Test.YtgdjkaeojocfhaaBI
namespace Go.Proofs.Ytgdjkaeojocfhaa
set_option linter.unusedVariables false
set_option linter.unusedSimpArgs false
open Go.RowKit
def farOkB (R : LinR × Bool) : Bool := R.2 && badB R.1.1 R.1.2.1 R.1.2.2.1 R.1.2.2.2
set_option maxRecDepth 100000 in
set_option maxHeartbeats 2000000 in
theorem farok_any (A : Option Addr) (n c : Nat) (L : Lst) (B : Option Addr) (m d : Nat) (T : Nat → Int) (w : World) (hn : n ≤ 9223372036854775806) (hA : Lins w A n L) (hm : m ≤ 9223372036854775806) (hB : Ints w B m T) (hN : ∀ k, k < n → L.N k ≤ 1048576) :
    Calls Try.prog 11 #[.slice A n c, .slice B m d] w fun e w' => e = .returned (.bool (farOkB (farS n L m T))) ∧ Below w.heap.size w w' := by
  have hF := farsum_any A n c L B m d T w hn hA hm hB hN
  have hl := farS_len n L m T
  generalize farS n L m T = R at hF hl ⊢
  obtain ⟨⟨n9, Z9, b9, s9⟩, ok9⟩ := R
  simp only at hl
  clear hA hB hN
  cases ok9
  · go_enter Try.func11, Try.ntmps11
    go_wp2_with fail
    refine hF.mono ?_
    rintro e w1 ⟨v, rfl, ⟨A9, k9, rfl, h1, h2, hO⟩, hq⟩
    clear hF
    go_wp2
    go_ret
    exact ⟨rfl, bal hq _⟩
  · unfold farOkB
    simp only [Bool.true_and]
    go_enter Try.func11, Try.ntmps11
    go_wp2_with fail
    refine hF.mono ?_
    rintro e w1 ⟨v, rfl, ⟨A9, k9, rfl, h1, h2, hO⟩, hq⟩
    clear hF
    have hM := fun W (h : Ints W A9 n9 Z9) => linbad_any A9 n9 k9 Z9 b9 s9 W (by omega) h
    have hI := hO.ints
    simp only at hI
    go_wp2_with fail
    refine (hM _ (hI.below (bal (Below.refl _ _) _))).mono ?_
    rintro e w2 ⟨rfl, hq2⟩
    clear hM
    go_wp2
    go_ret
    exact ⟨rfl, btr (bal hq _) hq2⟩
set_option maxRecDepth 100000 in
set_option maxHeartbeats 2000000 in
theorem sfarok_any (A : Option Addr) (n c : Nat) (L : Lst) (B : Option Addr) (m d : Nat) (T : Nat → Int) (w : World) (hn : n ≤ 9223372036854775806) (hA : Lins w A n L) (hm : m ≤ 9223372036854775806) (hB : Ints w B m T) (hN : ∀ k, k < n → L.N k ≤ 1048576) :
    Calls Try.prog 24 #[.slice A n c, .slice B m d] w fun e w' => e = .returned (.bool (farOkB (farS n L m T))) ∧ Below w.heap.size w w' := by
  have hF := sfarsum_any A n c L B m d T w hn hA hm hB hN
  have hl := farS_len n L m T
  generalize farS n L m T = R at hF hl ⊢
  obtain ⟨⟨n9, Z9, b9, s9⟩, ok9⟩ := R
  simp only at hl
  clear hA hB hN
  cases ok9
  · go_enter Try.func24, Try.ntmps24
    go_wp2_with fail
    refine hF.mono ?_
    rintro e w1 ⟨v, rfl, ⟨A9, k9, rfl, h1, h2, hO⟩, hq⟩
    clear hF
    go_wp2
    go_ret
    exact ⟨rfl, bal hq _⟩
  · unfold farOkB
    simp only [Bool.true_and]
    go_enter Try.func24, Try.ntmps24
    go_wp2_with fail
    refine hF.mono ?_
    rintro e w1 ⟨v, rfl, ⟨A9, k9, rfl, h1, h2, hO⟩, hq⟩
    clear hF
    have hM := fun W (h : Ints W A9 n9 Z9) => slinbad_any A9 n9 k9 Z9 b9 s9 W (by omega) h
    have hI := hO.ints
    simp only at hI
    go_wp2_with fail
    refine (hM _ (hI.below (bal (Below.refl _ _) _))).mono ?_
    rintro e w2 ⟨rfl, hq2⟩
    clear hM
    go_wp2
    go_ret
    exact ⟨rfl, btr (bal hq _) hq2⟩
end Go.Proofs.Ytgdjkaeojocfhaa
