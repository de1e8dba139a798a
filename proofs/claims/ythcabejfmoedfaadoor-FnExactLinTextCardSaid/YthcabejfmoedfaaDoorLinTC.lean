/- The law FnExactLinText: the walk. -/
import Derived.Test.YthcabejfmoedfaaDoorLinTB
import Derived.Test.YthcabejfmoedfaaDoorLinO
namespace Go.Proofs.YthcabejfmoedfaaDoor
set_option linter.unusedVariables false
set_option linter.unusedSimpArgs false
open Go.Shelf Go.RowKit Go.Joins
set_option maxRecDepth 100000 in
set_option maxHeartbeats 2000000 in
theorem walk_ExactLinText (A : Option Addr) (n c : Nat) (Z : Nat → Int) (b : Int) (s : Bool) (w : World) (hn : n ≤ 9223372036854775807) (hA : Ints w A n Z) (htab : Lib.TabIs Tryd.prog w "internal/strconv.uint64pow10" .u64 Lib.pow10Tab) :
    Calls Tryd.prog 5 #[.agg #[.slice A n c, .int .i64 b, .bool s]] w fun e w' => e = .returned (.bool true) ∧ Below w.heap.size w w' := by
  have hS := fun W => szlin_any A n c b 1048576 s W hn (by omega)
  obtain ⟨c0, c1, c2⟩ := new3 w (.slice A n c) (.int .i64 b) (.bool s) 36
  have q0 := bal (Below.refl w.heap.size w) (.cells #[.slice A n c, .int .i64 b, .bool s] 36)
  by_cases hb : (1048576 : Int) < n
  · rw [if_pos hb] at hS
    clear hb
    go_enter Tryd.func5, Tryd.ntmps5
    go_wp2_with (go_at_call 19; refine (hS _).mono ?_; rintro e w1 ⟨rfl, hq⟩)
    go_ret
    exact ⟨rfl, btr q0 hq⟩
  · rw [if_neg hb] at hS
    have hn2 : n ≤ 1048576 := by omega
    have hl : 0 ≤ (1048576 : Int) - n := by omega
    generalize (1048576 : Int) - n = l at hS hl
    have hT := fun W (h : Below w.heap.size w W) => tolin_any A n c Z b s W hn2 (hA.below h)
    clear hb
    go_enter Tryd.func5, Tryd.ntmps5
    go_wp2_with fail
    refine (hS _).mono ?_
    rintro e w1 ⟨rfl, hq⟩
    replace c0 := carry hq c0
    replace c1 := carry hq c1
    replace c2 := carry hq c2
    replace q0 := btr q0 hq
    clear hS hq
    go_wp2_with fail
    refine (hT _ q0).mono ?_
    rintro e w2 ⟨v, rfl, ⟨A2, k2, rfl, _, _, hO2⟩, hq⟩
    replace c0 := carry hq c0
    replace c1 := carry hq c1
    replace c2 := carry hq c2
    replace q0 := btr q0 hq
    clear hq
    go_wp2_with fail
    refine (slintext_any A2 n k2 Z b s w2 (by omega) hO2.ints).mono ?_
    rintro e w3 ⟨rfl, hq⟩
    replace c0 := carry hq c0
    replace c1 := carry hq c1
    replace c2 := carry hq c2
    replace q0 := btr q0 hq
    clear hq hO2
    go_wp2_with fail
    refine (hT _ q0).mono ?_
    rintro e w4 ⟨v, rfl, ⟨A4, k4, rfl, _, _, hO4⟩, hq⟩
    replace c0 := carryA (.cells #[.slice A4 n k4, .int .i64 b, .bool s] 39) (carry hq c0)
    replace c1 := carryA (.cells #[.slice A4 n k4, .int .i64 b, .bool s] 39) (carry hq c1)
    replace c2 := carryA (.cells #[.slice A4 n k4, .int .i64 b, .bool s] 39) (carry hq c2)
    replace q0 := btr (btr q0 hq) (bal (Below.refl _ _) (.cells #[.slice A4 n k4, .int .i64 b, .bool s] 39))
    replace hO4 := hO4.below (bal (Below.refl _ _) (.cells #[.slice A4 n k4, .int .i64 b, .bool s] 39))
    clear hq
    obtain ⟨x0, x1, x2⟩ := new3 w4 (.slice A4 n k4) (.int .i64 b) (.bool s) 39
    go_wp2_with fail
    refine (lintext_any A4 n k4 Z b s _ (by omega) hO4.ints (tab_keep htab q0)).mono ?_
    rintro e w5 ⟨rfl, hq⟩
    replace c0 := carry hq c0
    replace c1 := carry hq c1
    replace c2 := carry hq c2
    replace x0 := carry hq x0
    replace x1 := carry hq x1
    replace x2 := carry hq x2
    replace q0 := btr q0 hq
    replace hO4 := hO4.below hq
    clear hq
    generalize (⟨(linTxt n Z b s).toArray⟩ : ByteArray) = X
    have dk : (X.toList == X.toList) = true := by simp
    have lc := cell_lt c0
    have lx := cell_lt x0
    have gc := @gro_cell w5
    go_wp2_with fail
    refine region_grow_call 2 rfl (by kernel_rfl) (by kernel_rfl) rfl ?_; simp only [List.take_succ_cons, List.take_zero]; (repeat (go_big_quiet_step (fail))); refine wpQuiet_nil ?_
    intro w6 hq
    clear gc
    refine ⟨21, #[.agg #[.slice A n c, .int .i64 b, .bool s]], by kernel_rfl, ?_⟩
    refine (hT _ (btr q0 hq)).mono ?_
    rintro e w7 ⟨v, rfl, ⟨A7, k7, rfl, _, _, hO7⟩, hq7⟩
    refine ⟨_, rfl, btr hq hq7, ?_⟩
    go_wp2_with fail
    refine (eqlin_same (by omega) (hO4.ints.below (btr hq hq7)) hO7.ints).mono ?_
    rintro e w8 ⟨rfl, hq8⟩
    clear hO4 hO7
    go_wp2_with fail
    go_ret
    exact ⟨rfl, btr (btr (btr q0 hq) hq7) hq8⟩
end Go.Proofs.YthcabejfmoedfaaDoor
