/- Walk of the exact law of LinAt. -/
import Derived.Test.YtbdmofmoegmigaaLinYA
import Derived.Test.YtbdmofmoegmigaaLinO
namespace Go.Proofs.Ytbdmofmoegmigaa
set_option linter.unusedVariables false
set_option linter.unusedSimpArgs false
open Go.RowKit
theorem rats_row {w w1 : World} {g n : Nat} {N D : Nat → Int} (h : w.rowIs g 62 (n * 2) (ratV N D)) (hb : Below w.heap.size w w1) : Rats w1 (some ⟨g, 0, none⟩) n N D := (Rats.of_row h).below hb
set_option maxRecDepth 100000 in
set_option maxHeartbeats 4000000 in
theorem walk_ExactLinAt (A : Option Addr) (n c : Nat) (Z : Nat → Int) (b : Int) (s : Bool) (B : Option Addr) (m d : Nat) (N D : Nat → Int) (w : World) (hn : n ≤ 9223372036854775807) (hA : Ints w A n Z) (hm : m ≤ 9223372036854775807) (hB : Rats w B m N D) :
    Calls Try.prog 19 #[.agg #[.slice A n c, .int .i64 b, .bool s], .slice B m d] w fun e w' => e = .returned (.bool true) ∧ Below w.heap.size w w' := by
  have hS := fun W => szlin_any A n c b 1048576 s W hn (by omega)
  obtain ⟨c0, c1, c2⟩ := new3 w (.slice A n c) (.int .i64 b) (.bool s) 63
  have q0 := bal (Below.refl w.heap.size w) (.cells #[.slice A n c, .int .i64 b, .bool s] 63)
  by_cases hb : (1048576 : Int) < n
  · rw [if_pos hb] at hS
    clear hb
    go_enter Try.func19, Try.ntmps19
    go_wp2_with (go_at_call 62; refine (hS _).mono ?_; rintro e w1 ⟨rfl, hq⟩)
    go_ret
    exact ⟨rfl, btr q0 hq⟩
  rw [if_neg hb] at hS
  have hn2 : n ≤ 1048576 := by omega
  have hl : 0 ≤ (1048576 : Int) - n ∧ (1048576 : Int) - n ≤ 1048576 := by omega
  have hl0 := hl.1
  have hS2 := fun W => szrats_any B m d ((1048576 : Int) - n) W hm hl
  by_cases hb2 : (1048576 : Int) - n < m
  · rw [if_pos hb2] at hS2
    clear hb2 hb hl
    generalize (1048576 : Int) - n = l at hS hl0 hS2
    go_enter Try.func19, Try.ntmps19
    go_wp2_with (first | (go_at_call 62; refine (hS _).mono ?_; rintro e w1 ⟨rfl, hq⟩) | (go_at_call 63; refine (hS2 _).mono ?_; rintro e w2 ⟨rfl, rfl⟩))
    go_ret
    exact ⟨rfl, btr q0 hq⟩
  rw [if_neg hb2] at hS2
  have hm2 : m ≤ 1048576 := by omega
  have hl2 : 0 ≤ (1048576 : Int) - n - m := by omega
  generalize (1048576 : Int) - n - m = l2 at hS2 hl2
  clear hb hb2 hl
  generalize (1048576 : Int) - n = l at hS hl0 hS2
  have hT := fun W (h : Below w.heap.size w W) => tolin_any A n c Z b s W hn2 (hA.below h)
  have hR := fun W (h : Below w.heap.size w W) => torats_any B m d N D W hm2 (hB.below h)
  have hP := fun (A3 : Option Addr) k3 (g4 : Nat) k4 W h1 h2 => slinat_any A3 n k3 Z b s (some ⟨g4, 0, none⟩) m k4 N D W (by omega) h1 (by omega) h2
  have hI := fun (A3 : Option Addr) k3 (g4 : Nat) k4 W h1 h2 => linat_any A3 n k3 Z b s (some ⟨g4, 0, none⟩) m k4 N D W (by omega) h1 (by omega) h2
  generalize atB n Z b s m N D = r at hP hI
  obtain ⟨ra, rb⟩ := r
  simp only at hP hI
  have dk : (ra != ra) = false := by simp
  have dk2 : (rb != rb) = false := by simp
  go_enter Try.func19, Try.ntmps19
  go_wp2_with fail
  refine (hS _).mono ?_
  rintro e w1 ⟨rfl, hq⟩
  replace c0 := carry hq c0
  replace c1 := carry hq c1
  replace c2 := carry hq c2
  replace q0 := btr q0 hq
  clear hS hq
  go_wp2_with fail
  refine (hS2 _).mono ?_
  rintro e w1' ⟨rfl, rfl⟩
  clear hS2
  go_wp2_with fail
  refine (hT _ q0).mono ?_
  rintro e w2 ⟨v, rfl, ⟨A2, k2, rfl, _, _, hO2⟩, hq⟩
  replace c0 := carry hq c0
  replace c1 := carry hq c1
  replace c2 := carry hq c2
  replace q0 := btr q0 hq
  clear hq
  go_wp2_with fail
  refine (hR _ q0).mono ?_
  rintro e w3 ⟨g3, rfl, hg3, hr3, hq⟩
  replace c0 := carry hq c0
  replace c1 := carry hq c1
  replace c2 := carry hq c2
  replace q0 := btr q0 hq
  replace hO2 := hO2.below hq
  clear hq
  go_wp2_with fail
  refine (hP A2 k2 g3 m _ hO2.ints (Rats.of_row hr3)).mono ?_
  rintro e w4 ⟨rfl, hq⟩
  replace c0 := carry hq c0
  replace c1 := carry hq c1
  replace c2 := carry hq c2
  replace q0 := btr q0 hq
  clear hq hO2 hr3
  go_wp2_with fail
  refine (hT _ q0).mono ?_
  rintro e w5 ⟨v, rfl, ⟨A4, k4, rfl, _, _, hO4⟩, hq⟩
  replace c0 := carryA (.cells #[.slice A4 n k4, .int .i64 b, .bool s] 25) (carry hq c0)
  replace c1 := carryA (.cells #[.slice A4 n k4, .int .i64 b, .bool s] 25) (carry hq c1)
  replace c2 := carryA (.cells #[.slice A4 n k4, .int .i64 b, .bool s] 25) (carry hq c2)
  replace q0 := btr (btr q0 hq) (bal (Below.refl _ _) (.cells #[.slice A4 n k4, .int .i64 b, .bool s] 25))
  replace hO4 := hO4.below (bal (Below.refl _ _) (.cells #[.slice A4 n k4, .int .i64 b, .bool s] 25))
  clear hq
  obtain ⟨x0, x1, x2⟩ := new3 w5 (.slice A4 n k4) (.int .i64 b) (.bool s) 25
  go_wp2_with fail
  refine (hR _ q0).mono ?_
  rintro e w6 ⟨g6, rfl, hg6, hr6, hq⟩
  replace c0 := carry hq c0
  replace c1 := carry hq c1
  replace c2 := carry hq c2
  replace x0 := carry hq x0
  replace x1 := carry hq x1
  replace x2 := carry hq x2
  replace q0 := btr q0 hq
  replace hO4 := hO4.below hq
  clear hq
  go_wp2_with fail
  refine (hI A4 k4 g6 m _ hO4.ints (Rats.of_row hr6)).mono ?_
  rintro e w7 ⟨rfl, hq⟩
  replace c0 := carry hq c0
  replace c1 := carry hq c1
  replace c2 := carry hq c2
  replace x0 := carry hq x0
  replace x1 := carry hq x1
  replace x2 := carry hq x2
  replace q0 := btr q0 hq
  replace hO4 := hO4.below hq
  replace hr6 := row_below hr6 hq
  clear hq
  have lc := cell_lt c0
  have lx := cell_lt x0
  have gc := @gro_cell w7
  go_wp2_with fail
  refine region_grow_call 2 rfl (by kernel_rfl) (by kernel_rfl) rfl ?_; simp only [List.take_succ_cons, List.take_zero]; (repeat (go_big_quiet_step (fail))); refine wpQuiet_nil ?_
  intro w8 hq
  clear gc
  refine ⟨64, #[.agg #[.slice A n c, .int .i64 b, .bool s]], by kernel_rfl, ?_⟩
  refine (hT _ (btr q0 hq)).mono ?_
  rintro e w9 ⟨v, rfl, ⟨A7, k7, rfl, _, _, hO7⟩, hq7⟩
  refine ⟨_, rfl, btr hq hq7, ?_⟩
  go_wp2_with fail
  refine (eqlin_same (by omega) (hO4.ints.below (btr hq hq7)) hO7.ints).mono ?_
  rintro e wa ⟨rfl, hq8⟩
  have q1 := btr (btr hq hq7) hq8
  replace q0 := btr q0 q1
  replace hr6 := row_below hr6 q1
  clear hO4 hO7 hq hq7 hq8 q1
  go_wp2_with fail
  refine (hR _ q0).mono ?_
  rintro e wb ⟨gb, rfl, hgb, hrb, hq⟩
  go_wp2_with fail
  refine (eqrats_same (some ⟨g6, 0, none⟩) (some ⟨gb, 0, none⟩) m m m N D _ (by omega) (rats_row hr6 hq) (Rats.of_row hrb)).mono ?_
  rintro e wc ⟨rfl, hq9⟩
  go_wp2_with fail
  go_ret
  exact ⟨rfl, btr (btr q0 hq) hq9⟩
end Go.Proofs.Ytbdmofmoegmigaa
