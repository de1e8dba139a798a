/- The sort of a term under a vocabulary: contracts of TermSort, program and model. -/
import Derived.Test.YtkafgfngckecgaaFindD
import Derived.Test.YtkafgfngckecgaaSigD
namespace Go.Proofs.Ytkafgfngckecgaa
set_option linter.unusedVariables false
set_option linter.unusedSimpArgs false
open Go.RowKit
/-- what TermSort answers -/
def tsE (n : Nat) (L : Sy) (t : Tm) : Ending := if sigB n L = true ∧ wellB t = true then SrtE (sortT n L t) else .returned (.tuple #[.int .i64 0, .bool false])
theorem tsE_no {n : Nat} {L : Sy} {t : Tm} (h : ¬ (sigB n L = true ∧ wellB t = true)) : tsE n L t = .returned (.tuple #[.int .i64 0, .bool false]) := if_neg h
theorem tsE_yes {n : Nat} {L : Sy} {t : Tm} (h1 : sigB n L = true) (h2 : wellB t = true) : tsE n L t = SrtE (sortT n L t) := if_pos ⟨h1, h2⟩
set_option maxHeartbeats 1000000 in
theorem termsort_any (n : Nat) (L : Sy) (hn : n ≤ 1048576) (t : Tm) (hF : Fits 1048576 t) (A B : Option Addr) (c d : Nat) (w : World) (hA : Syms w A n L) (hB : Kids 0 w t B) :
    Calls Try.prog 22 #[.agg #[.slice A n c], .agg #[.string t.nm, .slice B t.n d]] w fun e w' => e = tsE n L t ∧ Below w.heap.size w w' := by
  have q0 := bal (bal (Below.refl w.heap.size w) (.cells #[.slice A n c] 25)) (.cells #[.string t.nm, .slice B t.n d] 50)
  have b0 : ((w.alloc (.cells #[.slice A n c] 25)).alloc (.cells #[.string t.nm, .slice B t.n d] 50)).cell? ⟨w.heap.size, 0, none⟩ = some (.slice A n c) := by simp [go_sem]
  have b1 : ((w.alloc (.cells #[.slice A n c] 25)).alloc (.cells #[.string t.nm, .slice B t.n d] 50)).cell? ⟨w.heap.size + 1, 0, none⟩ = some (.string t.nm) := by simp [go_sem]
  have b2 : ((w.alloc (.cells #[.slice A n c] 25)).alloc (.cells #[.string t.nm, .slice B t.n d] 50)).cell? ⟨w.heap.size + 1, 1, none⟩ = some (.slice B t.n d) := by simp [go_sem]
  have hS := fun W (hb : Below w.heap.size w W) => sigok_any A n c L W (by omega) (hA.below hb)
  have hW := fun W (hb : Below w.heap.size w W) => well_any t hF B d W (hB.below hb)
  generalize hr : tsE n L t = res
  have HR := hid hr; clear hr
  cases hs : sigB n L
  · rw [hs] at hS
    have HF := hid (show Ending.returned (.tuple #[.int .i64 0, .bool false]) = res by rw [← HR.out, tsE_no (fun h => by rw [hs] at h; cases h.1)])
    clear hs hW hA hB
    go_enter Try.func22, Try.ntmps22
    go_wp2_with fail
    refine (hS _ q0).mono ?_
    rintro e w1 ⟨rfl, hq⟩
    clear hS
    go_wp2
    go_ret2
    exact ⟨HF.out, btr q0 hq⟩
  · rw [hs] at hS
    cases hw : wellB t
    · rw [hw] at hW
      have HF := hid (show Ending.returned (.tuple #[.int .i64 0, .bool false]) = res by rw [← HR.out, tsE_no (fun h => by rw [hw] at h; cases h.2)])
      clear hs hw hA hB
      go_enter Try.func22, Try.ntmps22
      go_wp2_with fail
      refine (hS _ q0).mono ?_
      rintro e w1 ⟨rfl, hq⟩
      clear hS
      replace b1 := carry hq b1
      replace b2 := carry hq b2
      go_wp2_with fail
      refine (hW _ (btr q0 hq)).mono ?_
      rintro e w2 ⟨rfl, hq2⟩
      clear hW
      go_wp2
      go_ret2
      exact ⟨HF.out, btr (btr q0 hq) hq2⟩
    · rw [hw] at hW
      have HY := hid (show SrtE (sortT n L t) = res by rw [← HR.out, tsE_yes hs hw])
      have hO := fun W (hb : Below w.heap.size w W) => sortof_any n L hn (sigB_iff.1 hs).2.2 (vs_of hs) t hF A B c d W (hA.below hb) (hB.below hb)
      clear hs hw hA hB
      go_enter Try.func22, Try.ntmps22
      go_wp2_with fail
      refine (hS _ q0).mono ?_
      rintro e w1 ⟨rfl, hq⟩
      clear hS
      replace b0 := carry hq b0
      replace b1 := carry hq b1
      replace b2 := carry hq b2
      replace q0 := btr q0 hq
      clear hq
      go_wp2_with fail
      refine (hW _ q0).mono ?_
      rintro e w2 ⟨rfl, hq⟩
      clear hW
      replace b0 := carry hq b0
      replace b1 := carry hq b1
      replace b2 := carry hq b2
      replace q0 := btr q0 hq
      clear hq
      generalize hse : sortT n L t = s at *
      clear hse
      by_cases h0 : 0 ≤ s
      · have HY2 := hid ((SrtE.yes h0).symm.trans HY.out)
        rw [SrtE.yes h0] at hO
        go_wp2_with fail
        refine (hO _ q0).mono ?_
        rintro e w3 ⟨rfl, hq⟩
        clear hO
        go_wp2
        go_ret2
        exact ⟨HY2.out, btr q0 hq⟩
      · have HY2 := hid ((SrtE.no h0).symm.trans HY.out)
        rw [SrtE.no h0] at hO
        go_wp2_with fail
        refine (hO _ q0).mono ?_
        rintro e w3 ⟨rfl, hq⟩
        clear hO
        go_wp2
        go_ret2
        exact ⟨HY2.out, btr q0 hq⟩
set_option maxHeartbeats 1000000 in
theorem stermsort_any (n : Nat) (L : Sy) (hn : n ≤ 1048576) (hN : SmY n L) (t : Tm) (hF : Fits 1048576 t) (A B : Option Addr) (c d : Nat) (w : World) (hA : Syms w A n L) (hB : Kids 0 w t B) :
    Calls Try.prog 19 #[.agg #[.slice A n c], .agg #[.string t.nm, .slice B t.n d]] w fun e w' => e = tsE n L t ∧ Below w.heap.size w w' := by
  have q0 := bal (bal (Below.refl w.heap.size w) (.cells #[.slice A n c] 25)) (.cells #[.string t.nm, .slice B t.n d] 50)
  have b0 : ((w.alloc (.cells #[.slice A n c] 25)).alloc (.cells #[.string t.nm, .slice B t.n d] 50)).cell? ⟨w.heap.size, 0, none⟩ = some (.slice A n c) := by simp [go_sem]
  have b1 : ((w.alloc (.cells #[.slice A n c] 25)).alloc (.cells #[.string t.nm, .slice B t.n d] 50)).cell? ⟨w.heap.size + 1, 0, none⟩ = some (.string t.nm) := by simp [go_sem]
  have b2 : ((w.alloc (.cells #[.slice A n c] 25)).alloc (.cells #[.string t.nm, .slice B t.n d] 50)).cell? ⟨w.heap.size + 1, 1, none⟩ = some (.slice B t.n d) := by simp [go_sem]
  have hS := fun W (hb : Below w.heap.size w W) => ssigok_any A n c L W (by omega) (hA.below hb) hN
  have hW := fun W (hb : Below w.heap.size w W) => right_any t hF B d W (hB.below hb)
  generalize hr : tsE n L t = res
  have HR := hid hr; clear hr
  cases hs : sigB n L
  · rw [hs] at hS
    have HF := hid (show Ending.returned (.tuple #[.int .i64 0, .bool false]) = res by rw [← HR.out, tsE_no (fun h => by rw [hs] at h; cases h.1)])
    clear hs hW hA hB
    go_enter Try.func19, Try.ntmps19
    go_wp2_with fail
    refine (hS _ q0).mono ?_
    rintro e w1 ⟨rfl, hq⟩
    clear hS
    go_wp2
    go_ret2
    exact ⟨HF.out, btr q0 hq⟩
  · rw [hs] at hS
    cases hw : wellB t
    · rw [hw] at hW
      have HF := hid (show Ending.returned (.tuple #[.int .i64 0, .bool false]) = res by rw [← HR.out, tsE_no (fun h => by rw [hw] at h; cases h.2)])
      clear hs hw hA hB
      go_enter Try.func19, Try.ntmps19
      go_wp2_with fail
      refine (hS _ q0).mono ?_
      rintro e w1 ⟨rfl, hq⟩
      clear hS
      replace b1 := carry hq b1
      replace b2 := carry hq b2
      go_wp2_with fail
      refine (hW _ (btr q0 hq)).mono ?_
      rintro e w2 ⟨rfl, hq2⟩
      clear hW
      go_wp2
      go_ret2
      exact ⟨HF.out, btr (btr q0 hq) hq2⟩
    · rw [hw] at hW
      have HY := hid (show SrtE (sortT n L t) = res by rw [← HR.out, tsE_yes hs hw])
      have hO := fun W (hb : Below w.heap.size w W) => of_any n L hn t hF A B c d W (hA.below hb) (hB.below hb)
      clear hs hw hA hB
      go_enter Try.func19, Try.ntmps19
      go_wp2_with fail
      refine (hS _ q0).mono ?_
      rintro e w1 ⟨rfl, hq⟩
      clear hS
      replace b0 := carry hq b0
      replace b1 := carry hq b1
      replace b2 := carry hq b2
      replace q0 := btr q0 hq
      clear hq
      go_wp2_with fail
      refine (hW _ q0).mono ?_
      rintro e w2 ⟨rfl, hq⟩
      clear hW
      replace b0 := carry hq b0
      replace b1 := carry hq b1
      replace b2 := carry hq b2
      replace q0 := btr q0 hq
      clear hq
      generalize hse : sortT n L t = s at *
      clear hse
      have lb0 := cell_lt b0
      have lb1 := cell_lt b1
      go_wp2_with fail
      refine (hO _ q0).mono ?_
      rintro e w3 ⟨rfl, hq⟩
      clear hO
      by_cases h0 : 0 ≤ s
      · have HY2 := hid ((SrtE.yes h0).symm.trans HY.out)
        have d1 : decide (s < 0) = false := by simp; omega
        go_wp2
        go_ret2
        exact ⟨HY2.out, btr q0 hq⟩
      · have HY2 := hid ((SrtE.no h0).symm.trans HY.out)
        have d1 : decide (s < 0) = true := by simp; omega
        go_wp2
        go_ret2
        exact ⟨HY2.out, btr q0 hq⟩
end Go.Proofs.Ytkafgfngckecgaa
