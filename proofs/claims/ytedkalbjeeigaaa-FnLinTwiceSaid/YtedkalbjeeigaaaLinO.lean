/- Walks of the exact laws of constraints that answer a bool: LinOk, LinBad, LinFree. -/
import Derived.Test.YtedkalbjeeigaaaLinN
namespace Go.Proofs.Ytedkalbjeeigaaa
set_option linter.unusedVariables false
set_option linter.unusedSimpArgs false
open Go.RowKit
theorem new3 (w : World) (x y z : Value) (t : TypeId) : (w.alloc (.cells #[x, y, z] t)).cell? ⟨w.heap.size, 0, none⟩ = some x ∧ (w.alloc (.cells #[x, y, z] t)).cell? ⟨w.heap.size, 1, none⟩ = some y ∧ (w.alloc (.cells #[x, y, z] t)).cell? ⟨w.heap.size, 2, none⟩ = some z := by
  refine ⟨?_, ?_, ?_⟩ <;> simp [go_sem]
theorem eqlin_same {A B : Option Addr} {n c d : Nat} {Z : Nat → Int} {b : Int} {s : Bool} {w : World} (hn : n ≤ 9223372036854775807) (hA : Ints w A n Z) (hB : Ints w B n Z) :
    Calls Try.prog 38 #[.agg #[.slice A n c, .int .i64 b, .bool s], .agg #[.slice B n d, .int .i64 b, .bool s]] w fun e w' => e = .returned (.bool true) ∧ Below w.heap.size w w' := by
  have h := eqlin_any A B n n c d Z Z b b s s w hn hn hA hB
  rw [eqL_self] at h
  exact h
set_option maxHeartbeats 2000000 in
theorem walk_ExactLinOk (A : Option Addr) (n c : Nat) (Z : Nat → Int) (b : Int) (s : Bool) (w : World) (hn : n ≤ 9223372036854775807) (hA : Ints w A n Z) :
    Calls Try.prog 10 #[.agg #[.slice A n c, .int .i64 b, .bool s]] w fun e w' => e = .returned (.bool true) ∧ Below w.heap.size w w' := by
  have hS := fun W => szlin_any A n c b 1048576 s W hn (by omega)
  obtain ⟨c0, c1, c2⟩ := new3 w (.slice A n c) (.int .i64 b) (.bool s) 42
  have q0 := bal (Below.refl w.heap.size w) (.cells #[.slice A n c, .int .i64 b, .bool s] 42)
  by_cases hb : (1048576 : Int) < n
  · rw [if_pos hb] at hS
    clear hb
    go_enter Try.func10, Try.ntmps10
    go_wp2_with (go_at_call 36; refine (hS _).mono ?_; rintro e w1 ⟨rfl, hq⟩)
    go_ret
    exact ⟨rfl, btr q0 hq⟩
  · rw [if_neg hb] at hS
    have hn2 : n ≤ 1048576 := by omega
    have hl : 0 ≤ (1048576 : Int) - n := by omega
    generalize (1048576 : Int) - n = l at hS hl
    have hT := fun W (h : Below w.heap.size w W) => tolin_any A n c Z b s W hn2 (hA.below h)
    clear hb
    go_enter Try.func10, Try.ntmps10
    go_wp2_with fail
    refine (hS _).mono ?_
    rintro e w1 ⟨rfl, hq⟩
    replace c0 := carry hq c0
    replace c1 := carry hq c1
    replace c2 := carry hq c2
    replace q0 := btr q0 hq
    clear hS hq
    go_wp2_with fail
    refine (hT _ q0).mono ?_
    rintro e w2 ⟨v, rfl, ⟨A2, k2, rfl, _, _, hO2⟩, hq⟩
    replace c0 := carry hq c0
    replace c1 := carry hq c1
    replace c2 := carry hq c2
    replace q0 := btr q0 hq
    clear hq
    go_wp2_with fail
    refine (slinok_any A2 n k2 Z b s w2 (by omega) hO2.ints).mono ?_
    rintro e w3 ⟨rfl, hq⟩
    replace c0 := carry hq c0
    replace c1 := carry hq c1
    replace c2 := carry hq c2
    replace q0 := btr q0 hq
    clear hq hO2
    go_wp2_with fail
    refine (hT _ q0).mono ?_
    rintro e w4 ⟨v, rfl, ⟨A4, k4, rfl, _, _, hO4⟩, hq⟩
    replace c0 := carryA (.cells #[.slice A4 n k4, .int .i64 b, .bool s] 25) (carry hq c0)
    replace c1 := carryA (.cells #[.slice A4 n k4, .int .i64 b, .bool s] 25) (carry hq c1)
    replace c2 := carryA (.cells #[.slice A4 n k4, .int .i64 b, .bool s] 25) (carry hq c2)
    replace q0 := btr (btr q0 hq) (bal (Below.refl _ _) (.cells #[.slice A4 n k4, .int .i64 b, .bool s] 25))
    replace hO4 := hO4.below (bal (Below.refl _ _) (.cells #[.slice A4 n k4, .int .i64 b, .bool s] 25))
    clear hq
    obtain ⟨x0, x1, x2⟩ := new3 w4 (.slice A4 n k4) (.int .i64 b) (.bool s) 25
    go_wp2_with fail
    refine (linok_any A4 n k4 Z b s _ (by omega) hO4.ints).mono ?_
    rintro e w5 ⟨rfl, hq⟩
    replace c0 := carry hq c0
    replace c1 := carry hq c1
    replace c2 := carry hq c2
    replace x0 := carry hq x0
    replace x1 := carry hq x1
    replace x2 := carry hq x2
    replace q0 := btr q0 hq
    replace hO4 := hO4.below hq
    clear hq
    generalize okL n Z b = ok
    have dk : (ok != ok) = false := by simp
    have lc := cell_lt c0
    have lx := cell_lt x0
    have gc := @gro_cell w5
    go_wp2_with fail
    refine region_grow_call 2 rfl (by kernel_rfl) (by kernel_rfl) rfl ?_; simp only [List.take_succ_cons, List.take_zero]; (repeat (go_big_quiet_step (fail))); refine wpQuiet_nil ?_
    intro w6 hq
    clear gc
    refine ⟨37, #[.agg #[.slice A n c, .int .i64 b, .bool s]], by kernel_rfl, ?_⟩
    refine (hT _ (btr q0 hq)).mono ?_
    rintro e w7 ⟨v, rfl, ⟨A7, k7, rfl, _, _, hO7⟩, hq7⟩
    refine ⟨_, rfl, btr hq hq7, ?_⟩
    go_wp2_with fail
    refine (eqlin_same (by omega) (hO4.ints.below (btr hq hq7)) hO7.ints).mono ?_
    rintro e w8 ⟨rfl, hq8⟩
    clear hO4 hO7
    go_wp2_with fail
    go_ret
    exact ⟨rfl, btr (btr (btr q0 hq) hq7) hq8⟩
set_option maxHeartbeats 2000000 in
theorem walk_ExactLinBad (A : Option Addr) (n c : Nat) (Z : Nat → Int) (b : Int) (s : Bool) (w : World) (hn : n ≤ 9223372036854775807) (hA : Ints w A n Z) :
    Calls Try.prog 14 #[.agg #[.slice A n c, .int .i64 b, .bool s]] w fun e w' => e = .returned (.bool true) ∧ Below w.heap.size w w' := by
  have hS := fun W => szlin_any A n c b 1048576 s W hn (by omega)
  obtain ⟨c0, c1, c2⟩ := new3 w (.slice A n c) (.int .i64 b) (.bool s) 42
  have q0 := bal (Below.refl w.heap.size w) (.cells #[.slice A n c, .int .i64 b, .bool s] 42)
  by_cases hb : (1048576 : Int) < n
  · rw [if_pos hb] at hS
    clear hb
    go_enter Try.func14, Try.ntmps14
    go_wp2_with (go_at_call 36; refine (hS _).mono ?_; rintro e w1 ⟨rfl, hq⟩)
    go_ret
    exact ⟨rfl, btr q0 hq⟩
  · rw [if_neg hb] at hS
    have hn2 : n ≤ 1048576 := by omega
    have hl : 0 ≤ (1048576 : Int) - n := by omega
    generalize (1048576 : Int) - n = l at hS hl
    have hT := fun W (h : Below w.heap.size w W) => tolin_any A n c Z b s W hn2 (hA.below h)
    clear hb
    go_enter Try.func14, Try.ntmps14
    go_wp2_with fail
    refine (hS _).mono ?_
    rintro e w1 ⟨rfl, hq⟩
    replace c0 := carry hq c0
    replace c1 := carry hq c1
    replace c2 := carry hq c2
    replace q0 := btr q0 hq
    clear hS hq
    go_wp2_with fail
    refine (hT _ q0).mono ?_
    rintro e w2 ⟨v, rfl, ⟨A2, k2, rfl, _, _, hO2⟩, hq⟩
    replace c0 := carry hq c0
    replace c1 := carry hq c1
    replace c2 := carry hq c2
    replace q0 := btr q0 hq
    clear hq
    go_wp2_with fail
    refine (slinbad_any A2 n k2 Z b s w2 (by omega) hO2.ints).mono ?_
    rintro e w3 ⟨rfl, hq⟩
    replace c0 := carry hq c0
    replace c1 := carry hq c1
    replace c2 := carry hq c2
    replace q0 := btr q0 hq
    clear hq hO2
    go_wp2_with fail
    refine (hT _ q0).mono ?_
    rintro e w4 ⟨v, rfl, ⟨A4, k4, rfl, _, _, hO4⟩, hq⟩
    replace c0 := carryA (.cells #[.slice A4 n k4, .int .i64 b, .bool s] 25) (carry hq c0)
    replace c1 := carryA (.cells #[.slice A4 n k4, .int .i64 b, .bool s] 25) (carry hq c1)
    replace c2 := carryA (.cells #[.slice A4 n k4, .int .i64 b, .bool s] 25) (carry hq c2)
    replace q0 := btr (btr q0 hq) (bal (Below.refl _ _) (.cells #[.slice A4 n k4, .int .i64 b, .bool s] 25))
    replace hO4 := hO4.below (bal (Below.refl _ _) (.cells #[.slice A4 n k4, .int .i64 b, .bool s] 25))
    clear hq
    obtain ⟨x0, x1, x2⟩ := new3 w4 (.slice A4 n k4) (.int .i64 b) (.bool s) 25
    go_wp2_with fail
    refine (linbad_any A4 n k4 Z b s _ (by omega) hO4.ints).mono ?_
    rintro e w5 ⟨rfl, hq⟩
    replace c0 := carry hq c0
    replace c1 := carry hq c1
    replace c2 := carry hq c2
    replace x0 := carry hq x0
    replace x1 := carry hq x1
    replace x2 := carry hq x2
    replace q0 := btr q0 hq
    replace hO4 := hO4.below hq
    clear hq
    generalize badB n Z b s = ok
    have dk : (ok != ok) = false := by simp
    have lc := cell_lt c0
    have lx := cell_lt x0
    have gc := @gro_cell w5
    go_wp2_with fail
    refine region_grow_call 2 rfl (by kernel_rfl) (by kernel_rfl) rfl ?_; simp only [List.take_succ_cons, List.take_zero]; (repeat (go_big_quiet_step (fail))); refine wpQuiet_nil ?_
    intro w6 hq
    clear gc
    refine ⟨37, #[.agg #[.slice A n c, .int .i64 b, .bool s]], by kernel_rfl, ?_⟩
    refine (hT _ (btr q0 hq)).mono ?_
    rintro e w7 ⟨v, rfl, ⟨A7, k7, rfl, _, _, hO7⟩, hq7⟩
    refine ⟨_, rfl, btr hq hq7, ?_⟩
    go_wp2_with fail
    refine (eqlin_same (by omega) (hO4.ints.below (btr hq hq7)) hO7.ints).mono ?_
    rintro e w8 ⟨rfl, hq8⟩
    clear hO4 hO7
    go_wp2_with fail
    go_ret
    exact ⟨rfl, btr (btr (btr q0 hq) hq7) hq8⟩
set_option maxHeartbeats 2000000 in
theorem walk_ExactLinFree (A : Option Addr) (n c : Nat) (Z : Nat → Int) (b : Int) (s : Bool) (w : World) (hn : n ≤ 9223372036854775807) (hA : Ints w A n Z) :
    Calls Try.prog 15 #[.agg #[.slice A n c, .int .i64 b, .bool s]] w fun e w' => e = .returned (.bool true) ∧ Below w.heap.size w w' := by
  have hS := fun W => szlin_any A n c b 1048576 s W hn (by omega)
  obtain ⟨c0, c1, c2⟩ := new3 w (.slice A n c) (.int .i64 b) (.bool s) 42
  have q0 := bal (Below.refl w.heap.size w) (.cells #[.slice A n c, .int .i64 b, .bool s] 42)
  by_cases hb : (1048576 : Int) < n
  · rw [if_pos hb] at hS
    clear hb
    go_enter Try.func15, Try.ntmps15
    go_wp2_with (go_at_call 36; refine (hS _).mono ?_; rintro e w1 ⟨rfl, hq⟩)
    go_ret
    exact ⟨rfl, btr q0 hq⟩
  · rw [if_neg hb] at hS
    have hn2 : n ≤ 1048576 := by omega
    have hl : 0 ≤ (1048576 : Int) - n := by omega
    generalize (1048576 : Int) - n = l at hS hl
    have hT := fun W (h : Below w.heap.size w W) => tolin_any A n c Z b s W hn2 (hA.below h)
    clear hb
    go_enter Try.func15, Try.ntmps15
    go_wp2_with fail
    refine (hS _).mono ?_
    rintro e w1 ⟨rfl, hq⟩
    replace c0 := carry hq c0
    replace c1 := carry hq c1
    replace c2 := carry hq c2
    replace q0 := btr q0 hq
    clear hS hq
    go_wp2_with fail
    refine (hT _ q0).mono ?_
    rintro e w2 ⟨v, rfl, ⟨A2, k2, rfl, _, _, hO2⟩, hq⟩
    replace c0 := carry hq c0
    replace c1 := carry hq c1
    replace c2 := carry hq c2
    replace q0 := btr q0 hq
    clear hq
    go_wp2_with fail
    refine (slinfree_any A2 n k2 Z b s w2 (by omega) hO2.ints).mono ?_
    rintro e w3 ⟨rfl, hq⟩
    replace c0 := carry hq c0
    replace c1 := carry hq c1
    replace c2 := carry hq c2
    replace q0 := btr q0 hq
    clear hq hO2
    go_wp2_with fail
    refine (hT _ q0).mono ?_
    rintro e w4 ⟨v, rfl, ⟨A4, k4, rfl, _, _, hO4⟩, hq⟩
    replace c0 := carryA (.cells #[.slice A4 n k4, .int .i64 b, .bool s] 25) (carry hq c0)
    replace c1 := carryA (.cells #[.slice A4 n k4, .int .i64 b, .bool s] 25) (carry hq c1)
    replace c2 := carryA (.cells #[.slice A4 n k4, .int .i64 b, .bool s] 25) (carry hq c2)
    replace q0 := btr (btr q0 hq) (bal (Below.refl _ _) (.cells #[.slice A4 n k4, .int .i64 b, .bool s] 25))
    replace hO4 := hO4.below (bal (Below.refl _ _) (.cells #[.slice A4 n k4, .int .i64 b, .bool s] 25))
    clear hq
    obtain ⟨x0, x1, x2⟩ := new3 w4 (.slice A4 n k4) (.int .i64 b) (.bool s) 25
    go_wp2_with fail
    refine (linfree_any A4 n k4 Z b s _ (by omega) hO4.ints).mono ?_
    rintro e w5 ⟨rfl, hq⟩
    replace c0 := carry hq c0
    replace c1 := carry hq c1
    replace c2 := carry hq c2
    replace x0 := carry hq x0
    replace x1 := carry hq x1
    replace x2 := carry hq x2
    replace q0 := btr q0 hq
    replace hO4 := hO4.below hq
    clear hq
    generalize freeB n Z b s = ok
    have dk : (ok != ok) = false := by simp
    have lc := cell_lt c0
    have lx := cell_lt x0
    have gc := @gro_cell w5
    go_wp2_with fail
    refine region_grow_call 2 rfl (by kernel_rfl) (by kernel_rfl) rfl ?_; simp only [List.take_succ_cons, List.take_zero]; (repeat (go_big_quiet_step (fail))); refine wpQuiet_nil ?_
    intro w6 hq
    clear gc
    refine ⟨37, #[.agg #[.slice A n c, .int .i64 b, .bool s]], by kernel_rfl, ?_⟩
    refine (hT _ (btr q0 hq)).mono ?_
    rintro e w7 ⟨v, rfl, ⟨A7, k7, rfl, _, _, hO7⟩, hq7⟩
    refine ⟨_, rfl, btr hq hq7, ?_⟩
    go_wp2_with fail
    refine (eqlin_same (by omega) (hO4.ints.below (btr hq hq7)) hO7.ints).mono ?_
    rintro e w8 ⟨rfl, hq8⟩
    clear hO4 hO7
    go_wp2_with fail
    go_ret
    exact ⟨rfl, btr (btr (btr q0 hq) hq7) hq8⟩
end Go.Proofs.Ytedkalbjeeigaaa
