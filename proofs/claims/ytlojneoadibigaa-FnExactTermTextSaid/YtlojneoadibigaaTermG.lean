/- Walk of the exact law of TermText. -/
import Derived.Test.YtlojneoadibigaaTermF
import Derived.Test.YtlojneoadibigaaTermB
namespace Go.Proofs.Ytlojneoadibigaa
set_option linter.unusedVariables false
set_option linter.unusedSimpArgs false
open Go.RowKit
set_option maxRecDepth 100000 in
set_option maxHeartbeats 4000000 in
theorem walk_ExactTermText (t : Tm) (A : Option Addr) (c : Nat) (w : World) (hF : Fits 9223372036854775807 t) (hA : Kids 0 w t A) :
    Calls Try.prog 3 #[.agg #[.string t.nm, .slice A t.n c]] w fun e w' => e = .returned (.bool true) ∧ Below w.heap.size w w' := by
  have hS := fun W (h : Below w.heap.size w W) => szterm_any t hF A c 1048576 W (by omega) (hA.below h)
  have H : KcL [(w.heap.size, 0, .string t.nm), (w.heap.size, 1, .slice A t.n c)] (w.alloc (.cells #[.string t.nm, .slice A t.n c] 24)) := ⟨by simp [go_sem], by simp [go_sem], trivial⟩
  have q0 := bal (Below.refl w.heap.size w) (.cells #[.string t.nm, .slice A t.n c] 24)
  have HF := hid hF
  go_enter Try.func3, Try.ntmps3
  have HH_ := H; obtain ⟨c0, c1, _⟩ := HH_
  go_wp2_with fail
  refine (hS _ q0).mono ?_
  rintro e w1 ⟨r, rfl, hr, hq⟩
  clear c0 c1
  replace H := H.below hq
  replace q0 := btr q0 hq
  clear hS hq
  rcases hr with hr | ⟨r1, r2, hN⟩
  · go_wp2
    go_ret
    exact ⟨rfl, q0⟩
  have hT := fun W (h : Below w.heap.size w W) => toterm_any t hN A c W (hA.below h)
  have hP := fun (A3 : Option Addr) k3 W h1 => stermtext_any t hN A3 k3 W h1
  have hI := fun (A3 : Option Addr) k3 W h1 => termtext_any t hN A3 k3 W h1
  generalize (⟨(textT t).toArray⟩ : ByteArray) = ra at hP hI
  have dk : (ra.toList == ra.toList) = true := by simp
  clear hN r2 hA
  have HH_ := H; obtain ⟨c0, c1, _⟩ := HH_
  go_wp2_with fail
  refine (hT _ q0).mono ?_
  rintro e w2 ⟨A2, rfl, O2, hq⟩
  clear c0 c1
  replace H := H.below hq
  replace q0 := btr q0 hq
  clear hq
  have HH_ := H; obtain ⟨c0, c1, _⟩ := HH_
  go_wp2_with fail
  refine (hP A2 t.n _ (O2.mono (Nat.zero_le _))).mono ?_
  rintro e w3 ⟨rfl, hq⟩
  clear c0 c1
  replace H := H.below hq
  replace q0 := btr q0 hq
  replace O2 := O2.below hq
  clear hq O2
  have HH_ := H; obtain ⟨c0, c1, _⟩ := HH_
  go_wp2_with fail
  refine (hT _ q0).mono ?_
  rintro e w4 ⟨A4, rfl, O4, hq⟩
  clear c0 c1
  replace H := H.below hq
  replace q0 := btr q0 hq
  clear hq
  have N : KcL [(w4.heap.size, 0, .string t.nm), (w4.heap.size, 1, .slice A4 t.n t.n)] (w4.alloc (.cells #[.string t.nm, .slice A4 t.n t.n] 29)) := ⟨by simp [go_sem], by simp [go_sem], trivial⟩
  have al := bal (Below.refl w4.heap.size w4) (.cells #[.string t.nm, .slice A4 t.n t.n] 29)
  replace H := (H.below al).app N
  replace q0 := btr q0 al
  replace O4 := O4.below al
  clear N al
  have HH_ := H; obtain ⟨c0, c1, c2, c3, _⟩ := HH_
  go_wp2_with fail
  refine (hI A4 t.n _ (O4.mono (Nat.zero_le _))).mono ?_
  rintro e w5 ⟨rfl, hq⟩
  clear c0 c1 c2 c3
  replace H := H.below hq
  replace q0 := btr q0 hq
  replace O4 := O4.below hq
  clear hq
  have HH_ := H; obtain ⟨c0, c1, c2, c3, _⟩ := HH_
  have l0 := cell_lt c0
  have l1 := cell_lt c1
  have l2 := cell_lt c2
  have l3 := cell_lt c3
  have gc := @gro_cell w5
  go_wp2_with fail
  refine region_grow_call 2 rfl (by kernel_rfl) (by kernel_rfl) rfl ?_; simp only [List.take_succ_cons, List.take_zero]; (repeat (go_big_quiet_step (fail))); refine wpQuiet_nil ?_
  intro w6 hq
  clear gc l0 l1 l2 l3
  clear c0 c1 c2 c3
  refine ⟨6, #[.agg #[.string t.nm, .slice A t.n c]], by kernel_rfl, ?_⟩
  refine (hT _ (btr q0 hq)).mono ?_
  rintro e w7 ⟨B8, rfl, O8, hq8⟩
  refine ⟨_, rfl, btr hq hq8, ?_⟩
  replace H := H.below (btr hq hq8)
  replace q0 := btr q0 (btr hq hq8)
  replace O4 := O4.below (btr hq hq8)
  clear hq hq8
  have HH_ := H; obtain ⟨c0, c1, c2, c3, _⟩ := HH_
  go_wp2_with fail
  refine (eqterm_same t HF.out _ _ _ _ _ (O4.mono (Nat.zero_le _)) (O8.mono (Nat.zero_le _))).mono ?_
  rintro e w8 ⟨rfl, hq⟩
  clear c0 c1 c2 c3
  replace H := H.below hq
  replace q0 := btr q0 hq
  replace O4 := O4.below hq
  clear hq O8
  go_wp2_with fail
  go_ret
  exact ⟨rfl, q0⟩
end Go.Proofs.Ytlojneoadibigaa
