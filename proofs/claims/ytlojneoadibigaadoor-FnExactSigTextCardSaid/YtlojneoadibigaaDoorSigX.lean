/- Walk of the exact law of SigText. -/
import Derived.Test.YtlojneoadibigaaDoorSigW
namespace Go.Proofs.YtlojneoadibigaaDoor
set_option linter.unusedVariables false
set_option linter.unusedSimpArgs false
open Go.RowKit
set_option maxRecDepth 100000 in
set_option maxHeartbeats 4000000 in
theorem walk_ExactSigText (A : Option Addr) (n c : Nat) (L : Sy) (w : World) (hn : n ≤ 9223372036854775807) (hA : Syms w A n L) :
    Calls Tryd.prog 5 #[.agg #[.slice A n c]] w fun e w' => e = .returned (.bool true) ∧ Below w.heap.size w w' := by
  have hS := fun W (h : Below w.heap.size w W) => szsig_any A n c L 1048576 W hn (by omega) (hA.below h)
  have H : KcL [(w.heap.size, 0, .slice A n c)] (w.alloc (.cells #[.slice A n c] 36)) := ⟨by simp [go_sem], trivial⟩
  have q0 := bal (Below.refl w.heap.size w) (.cells #[.slice A n c] 36)
  go_enter Tryd.func5, Tryd.ntmps5
  have HH_ := H; obtain ⟨c0, _⟩ := HH_
  go_wp2_with fail
  refine (hS _ q0).mono ?_
  rintro e w1 ⟨r, rfl, hr, hq⟩
  clear c0
  replace H := H.below hq
  replace q0 := btr q0 hq
  clear hS hq
  rcases hr with hr | ⟨r1, r2, hn2, hN⟩
  · go_wp2
    go_ret
    exact ⟨rfl, q0⟩
  have hn3 : n ≤ 1048576 := by omega
  have hN3 : SmY n L := fun k hk => by have := hN k hk; omega
  clear hN hn2 r2
  have hT := fun W (h : Below w.heap.size w W) => tosig_any A n c L W hn3 (hA.below h) hN3
  have hP := fun (A3 : Option Addr) k3 W h1 => ssigtext_any A3 n k3 L W (by omega) h1 hN3
  have hI := fun (A3 : Option Addr) k3 W h1 => sigtext_any A3 n k3 L W (by omega) h1
  generalize (⟨(sigT n L).toArray⟩ : ByteArray) = ra at hP hI
  have dk : (ra.toList == ra.toList) = true := by simp
  have HN := hid hN3; clear hN3 hA
  have HH_ := H; obtain ⟨c0, _⟩ := HH_
  go_wp2_with fail
  refine (hT _ q0).mono ?_
  rintro e w2 ⟨A2, rfl, O2, hq⟩
  clear c0
  replace H := H.below hq
  replace q0 := btr q0 hq
  clear hq
  have HH_ := H; obtain ⟨c0, _⟩ := HH_
  go_wp2_with fail
  refine (hP A2 n _ (O2.syms HN.out)).mono ?_
  rintro e w3 ⟨rfl, hq⟩
  clear c0
  replace H := H.below hq
  replace q0 := btr q0 hq
  replace O2 := O2.below hq
  clear hq O2
  have HH_ := H; obtain ⟨c0, _⟩ := HH_
  go_wp2_with fail
  refine (hT _ q0).mono ?_
  rintro e w4 ⟨A4, rfl, O4, hq⟩
  clear c0
  replace H := H.below hq
  replace q0 := btr q0 hq
  clear hq
  have N : KcL [(w4.heap.size, 0, .slice A4 n n)] (w4.alloc (.cells #[.slice A4 n n] 41)) := ⟨by simp [go_sem], trivial⟩
  have al := bal (Below.refl w4.heap.size w4) (.cells #[.slice A4 n n] 41)
  replace H := (H.below al).app N
  replace q0 := btr q0 al
  replace O4 := O4.below al
  clear N al
  have HH_ := H; obtain ⟨c0, c1, _⟩ := HH_
  go_wp2_with fail
  refine (hI A4 n _ (O4.syms HN.out)).mono ?_
  rintro e w5 ⟨rfl, hq⟩
  clear c0 c1
  replace H := H.below hq
  replace q0 := btr q0 hq
  replace O4 := O4.below hq
  clear hq
  have HH_ := H; obtain ⟨c0, c1, _⟩ := HH_
  have l0 := cell_lt c0
  have l1 := cell_lt c1
  have gc := @gro_cell w5
  go_wp2_with fail
  refine region_grow_call 2 rfl (by kernel_rfl) (by kernel_rfl) rfl ?_; simp only [List.take_succ_cons, List.take_zero]; (repeat (go_big_quiet_step (fail))); refine wpQuiet_nil ?_
  intro w6 hq
  clear gc l0 l1
  clear c0 c1
  refine ⟨17, #[.agg #[.slice A n c]], by kernel_rfl, ?_⟩
  refine (hT _ (btr q0 hq)).mono ?_
  rintro e w7 ⟨B8, rfl, O8, hq8⟩
  refine ⟨_, rfl, btr hq hq8, ?_⟩
  replace H := H.below (btr hq hq8)
  replace q0 := btr q0 (btr hq hq8)
  replace O4 := O4.below (btr hq hq8)
  clear hq hq8
  have HH_ := H; obtain ⟨c0, c1, _⟩ := HH_
  go_wp2_with fail
  refine (eqsig_same (by omega) (O4.syms HN.out) (O8.syms HN.out)).mono ?_
  rintro e w8 ⟨rfl, hq⟩
  clear c0 c1
  replace H := H.below hq
  replace q0 := btr q0 hq
  replace O4 := O4.below hq
  clear hq O8
  go_wp2_with fail
  go_ret
  exact ⟨rfl, q0⟩
end Go.Proofs.YtlojneoadibigaaDoor
