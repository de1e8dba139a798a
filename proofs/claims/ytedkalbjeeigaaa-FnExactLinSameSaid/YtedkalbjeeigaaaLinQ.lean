/- Walk of the exact law of LinSame. -/
import Derived.Test.YtedkalbjeeigaaaLinO
import Derived.Test.YtedkalbjeeigaaaLinP
import Derived.Test.YtedkalbjeeigaaaPerm
namespace Go.Proofs.Ytedkalbjeeigaaa
set_option linter.unusedVariables false
set_option linter.unusedSimpArgs false
open Go.RowKit
/-- six cells -/
def C6 (a b : Nat) (x0 x1 x2 y0 y1 y2 : Value) (w : World) : Prop := w.cell? ⟨a, 0, none⟩ = some x0 ∧ w.cell? ⟨a, 1, none⟩ = some x1 ∧ w.cell? ⟨a, 2, none⟩ = some x2 ∧ w.cell? ⟨b, 0, none⟩ = some y0 ∧ w.cell? ⟨b, 1, none⟩ = some y1 ∧ w.cell? ⟨b, 2, none⟩ = some y2
theorem C6.below {a b : Nat} {x0 x1 x2 y0 y1 y2 : Value} {w w' : World} (hb : Below w.heap.size w w') (h : C6 a b x0 x1 x2 y0 y1 y2 w) : C6 a b x0 x1 x2 y0 y1 y2 w' :=
  ⟨carry hb h.1, carry hb h.2.1, carry hb h.2.2.1, carry hb h.2.2.2.1, carry hb h.2.2.2.2.1, carry hb h.2.2.2.2.2⟩
theorem C6.new (w : World) (x0 x1 x2 y0 y1 y2 : Value) (t : TypeId) : C6 w.heap.size (w.heap.size + 1) x0 x1 x2 y0 y1 y2 ((w.alloc (.cells #[x0, x1, x2] t)).alloc (.cells #[y0, y1, y2] t)) := by
  obtain ⟨a0, a1, a2⟩ := new3x w x0 x1 x2 t (.cells #[y0, y1, y2] t)
  refine ⟨a0, a1, a2, ?_, ?_, ?_⟩ <;> simp [go_sem]
set_option maxHeartbeats 4000000 in
set_option maxRecDepth 100000 in
theorem walk_ExactLinSame (A : Option Addr) (n c : Nat) (Z : Nat → Int) (b : Int) (s : Bool) (A' : Option Addr) (n' c' : Nat) (Z' : Nat → Int) (b' : Int) (s' : Bool) (w : World) (hn : n ≤ 9223372036854775807) (hA : Ints w A n Z) (hn' : n' ≤ 9223372036854775807) (hA' : Ints w A' n' Z') :
    Calls Try.prog 16 #[.agg #[.slice A n c, .int .i64 b, .bool s], .agg #[.slice A' n' c', .int .i64 b', .bool s']] w fun e w' => e = .returned (.bool true) ∧ Below w.heap.size w w' := by
  have hS := fun W => szlin_any A n c b 1048576 s W hn (by omega)
  have h6 := C6.new w (.slice A n c) (.int .i64 b) (.bool s) (.slice A' n' c') (.int .i64 b') (.bool s') 42
  obtain ⟨c0, c1, c2, c3, c4, c5⟩ := h6
  have q0 := bal (bal (Below.refl w.heap.size w) (.cells #[.slice A n c, .int .i64 b, .bool s] 42)) (.cells #[.slice A' n' c', .int .i64 b', .bool s'] 42)
  by_cases hb : (1048576 : Int) < n
  · rw [if_pos hb] at hS
    clear hb
    go_enter Try.func16, Try.ntmps16
    go_wp2_with (go_at_call 36; refine (hS _).mono ?_; rintro e w1 ⟨rfl, hq⟩)
    go_ret
    exact ⟨rfl, btr q0 hq⟩
  rw [if_neg hb] at hS
  have hl : 0 ≤ (1048576 : Int) - n ∧ (1048576 : Int) - n ≤ 1048576 := by omega
  have hS' := fun W => szlin_any A' n' c' b' ((1048576 : Int) - n) s' W hn' hl
  have hl0 := hl.1
  by_cases hb' : (1048576 : Int) - n < n'
  · rw [if_pos hb'] at hS'
    clear hb hb' hl
    generalize (1048576 : Int) - n = l at hS hS' hl0
    go_enter Try.func16, Try.ntmps16
    go_wp2_with fail
    refine (hS _).mono ?_
    rintro e w1 ⟨rfl, hq⟩
    replace c3 := carry hq c3
    replace c4 := carry hq c4
    replace c5 := carry hq c5
    go_wp2_with fail
    refine (hS' _).mono ?_
    rintro e w2 ⟨rfl, hq2⟩
    go_wp2_with fail
    go_ret
    exact ⟨rfl, btr (btr q0 hq) hq2⟩
  rw [if_neg hb'] at hS'
  have hn2 : n ≤ 1048576 := by omega
  have hn3 : n' ≤ 1048576 := by omega
  have hl1 : 0 ≤ (1048576 : Int) - n - n' := by omega
  generalize (1048576 : Int) - n - n' = l2 at hS' hl1
  clear hl hb hb'
  generalize (1048576 : Int) - n = l at hS hS' hl0
  have hT := fun W (h : Below w.heap.size w W) => tolin_any A n c Z b s W hn2 (hA.below h)
  have hT' := fun W (h : Below w.heap.size w W) => tolin_any A' n' c' Z' b' s' W hn3 (hA'.below h)
  have H : KcL [(w.heap.size, 0, .slice A n c), (w.heap.size, 1, .int .i64 b), (w.heap.size, 2, .bool s), (w.heap.size + 1, 0, .slice A' n' c'), (w.heap.size + 1, 1, .int .i64 b'), (w.heap.size + 1, 2, .bool s')] ((w.alloc (.cells #[.slice A n c, .int .i64 b, .bool s] 42)).alloc (.cells #[.slice A' n' c', .int .i64 b', .bool s'] 42)) := ⟨c0, c1, c2, c3, c4, c5, trivial⟩
  go_enter Try.func16, Try.ntmps16
  go_wp2_with fail
  refine (hS _).mono ?_
  rintro e w1 ⟨rfl, hq⟩
  clear c0 c1 c2 c3 c4 c5
  replace H := H.below hq
  have HH_ := H; obtain ⟨c0, c1, c2, c3, c4, c5, _⟩ := HH_
  replace q0 := btr q0 hq
  clear hS hq
  go_wp2_with fail
  refine (hS' _).mono ?_
  rintro e w2 ⟨rfl, hq⟩
  clear c0 c1 c2 c3 c4 c5
  replace H := H.below hq
  have HH_ := H; obtain ⟨c0, c1, c2, c3, c4, c5, _⟩ := HH_
  replace q0 := btr q0 hq
  clear hS' hq
  have lc := cell_lt c0
  have lc3 := cell_lt c3
  have gc := @gro_cell w2
  go_wp2_with fail
  refine region_grow_pcall [0, 2] 1 3 rfl (by kernel_rfl) (by kernel_rfl) rfl ?_; simp only [pickOps, List.getElem?_cons_zero, List.getElem?_cons_succ, List.drop_succ_cons, List.drop_zero]; (repeat (go_big_quiet_step (fail))); refine wpQuiet_nil ?_
  intro w3 hq
  clear gc
  refine ⟨37, #[.agg #[.slice A n c, .int .i64 b, .bool s]], by kernel_rfl, ?_⟩
  refine (hT _ (btr q0 hq)).mono ?_
  rintro e w4 ⟨v, rfl, ⟨A4, k4, rfl, _, _, hO4⟩, hq4⟩
  refine ⟨_, rfl, btr hq hq4, ?_⟩
  replace H := H.below (btr hq hq4)
  replace q0 := btr (btr q0 hq) hq4
  clear hq hq4 lc lc3
  clear c0 c1 c2 c3 c4 c5
  go_wp2_with fail
  refine (hT' _ q0).mono ?_
  rintro e w5 ⟨v, rfl, ⟨A5, k5, rfl, _, _, hO5⟩, hq⟩
  replace H := H.below hq
  replace q0 := btr q0 hq
  replace hO4 := hO4.below hq
  clear hq
  go_wp2_with fail
  refine (slinsame_any A4 A5 n n' k4 k5 Z Z' b b' s s' w5 (by omega) (by omega) hO4.ints hO5.ints).mono ?_
  rintro e w6 ⟨rfl, hq⟩
  replace H := H.below hq
  replace q0 := btr q0 hq
  clear hq hO4 hO5
  have HH_ := H; obtain ⟨c0, c1, c2, c3, c4, c5, _⟩ := HH_
  go_wp2_with fail
  refine (hT _ q0).mono ?_
  rintro e w7 ⟨v, rfl, ⟨A7, k7, rfl, _, _, hO7⟩, hq⟩
  clear c0 c1 c2 c3 c4 c5
  have N := KcL.new3 w7 (.slice A7 n k7) (.int .i64 b) (.bool s) 25 rfl
  have al := bal (Below.refl w7.heap.size w7) (.cells #[.slice A7 n k7, .int .i64 b, .bool s] 25)
  replace H := (H.below (btr hq al)).app N
  replace q0 := btr (btr q0 hq) al
  replace hO7 := hO7.below al
  clear hq al N
  have HH_ := H; obtain ⟨c0, c1, c2, c3, c4, c5, c6, c7, c8, _⟩ := HH_
  go_wp2_with fail
  refine (hT' _ q0).mono ?_
  rintro e w8 ⟨v, rfl, ⟨A8, k8, rfl, _, _, hO8⟩, hq⟩
  clear c0 c1 c2 c3 c4 c5 c6 c7 c8
  have N := KcL.new3 w8 (.slice A8 n' k8) (.int .i64 b') (.bool s') 25 rfl
  have al := bal (Below.refl w8.heap.size w8) (.cells #[.slice A8 n' k8, .int .i64 b', .bool s'] 25)
  replace H := (H.below (btr hq al)).app N
  replace q0 := btr (btr q0 hq) al
  replace hO7 := hO7.below (btr hq al)
  replace hO8 := hO8.below al
  clear hq al N
  have HH_ := H; obtain ⟨c0, c1, c2, c3, c4, c5, c6, c7, c8, c9, c10, c11, _⟩ := HH_
  go_wp2_with fail
  refine (linsame_any A7 A8 n n' k7 k8 Z Z' b b' s s' _ (by omega) (by omega) hO7.ints hO8.ints).mono ?_
  rintro e w9 ⟨rfl, hq⟩
  clear c0 c1 c2 c3 c4 c5 c6 c7 c8 c9 c10 c11
  generalize eqL n Z b s n' Z' b' s' = ans
  have dk : (ans != ans) = false := by simp
  replace H := H.below hq
  replace q0 := btr q0 hq
  replace hO7 := hO7.below hq
  replace hO8 := hO8.below hq
  clear hq
  have HH_ := H; obtain ⟨c0, c1, c2, c3, c4, c5, c6, c7, c8, c9, c10, c11, _⟩ := HH_
  have l0 := cell_lt c0
  have l3 := cell_lt c3
  have l6 := cell_lt c6
  have l9 := cell_lt c9
  have gc := @gro_cell w9
  go_wp2_with fail
  refine region_grow_call 2 rfl (by kernel_rfl) (by kernel_rfl) rfl ?_; simp only [List.take_succ_cons, List.take_zero]; (repeat (go_big_quiet_step (fail))); refine wpQuiet_nil ?_
  intro w10 hq
  clear gc l0 l3 l6 l9
  clear c0 c1 c2 c3 c4 c5 c6 c7 c8 c9 c10 c11
  refine ⟨37, #[.agg #[.slice A n c, .int .i64 b, .bool s]], by kernel_rfl, ?_⟩
  refine (hT _ (btr q0 hq)).mono ?_
  rintro e w11 ⟨v, rfl, ⟨A11, k11, rfl, _, _, hO11⟩, hq11⟩
  refine ⟨_, rfl, btr hq hq11, ?_⟩
  replace H := H.below (btr hq hq11)
  replace q0 := btr (btr q0 hq) hq11
  replace hO7 := hO7.below (btr hq hq11)
  replace hO8 := hO8.below (btr hq hq11)
  clear hq hq11
  go_wp2_with fail
  refine (eqlin_same (by omega) hO7.ints hO11.ints).mono ?_
  rintro e w12 ⟨rfl, hq⟩
  replace H := H.below hq
  replace q0 := btr q0 hq
  replace hO8 := hO8.below hq
  clear hO7 hO11 hq
  have HH_ := H; obtain ⟨c0, c1, c2, c3, c4, c5, c6, c7, c8, c9, c10, c11, _⟩ := HH_
  have l0 := cell_lt c0
  have l3 := cell_lt c3
  have l6 := cell_lt c6
  have l9 := cell_lt c9
  have gc := @gro_cell w12
  go_wp2_with fail
  refine region_grow_call 2 rfl (by kernel_rfl) (by kernel_rfl) rfl ?_; simp only [List.take_succ_cons, List.take_zero]; (repeat (go_big_quiet_step (fail))); refine wpQuiet_nil ?_
  intro w13 hq
  clear gc
  refine ⟨37, #[.agg #[.slice A' n' c', .int .i64 b', .bool s']], by kernel_rfl, ?_⟩
  refine (hT' _ (btr q0 hq)).mono ?_
  rintro e w14 ⟨v, rfl, ⟨A14, k14, rfl, _, _, hO14⟩, hq14⟩
  refine ⟨_, rfl, btr hq hq14, ?_⟩
  go_wp2_with fail
  refine (eqlin_same (by omega) (hO8.below (btr hq hq14)).ints hO14.ints).mono ?_
  rintro e w15 ⟨rfl, hq15⟩
  go_wp2_with fail
  go_ret
  exact ⟨rfl, btr (btr (btr q0 hq) hq14) hq15⟩
end Go.Proofs.Ytedkalbjeeigaaa
