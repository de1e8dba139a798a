/- Contracts of the small functions on a row of four numbers and a bound. -/
import Derived.Test.YtbdmofmoegmigaaLinA
import Derived.Test.YtbdmofmoegmigaaTail
import Derived.Test.YtbdmofmoegmigaaMath
import Derived.LoopN
namespace Go.Proofs.Ytbdmofmoegmigaa
set_option linter.unusedVariables false
set_option linter.unusedSimpArgs false
open Go.RowKit
theorem coefrange_any (n : Int) (w : World) :
    Calls Try.prog 150 #[.int .i64 n] w fun e w' => e = .returned (.bool (inC n)) ∧ w' = w := by
  by_cases h : -1000000 ≤ n
  · by_cases h2 : n ≤ 1000000
    · go_enter Try.func150, Try.ntmps150
      go_wp2
      go_ret
      exact ⟨ret_bool (by simp [inC]; omega), rfl⟩
    · go_enter Try.func150, Try.ntmps150
      go_wp2
      go_ret
      exact ⟨ret_bool (by simp [inC]; omega), rfl⟩
  · go_enter Try.func150, Try.ntmps150
    go_wp2
    go_ret
    exact ⟨ret_bool (by simp [inC]; omega), rfl⟩
theorem mult_any (n : Int) (w : World) :
    Calls Try.prog 93 #[.int .i64 n] w fun e w' => e = .returned (.bool (decide (0 ≤ n ∧ n ≤ 1000000))) ∧ w' = w := by
  by_cases h : 0 ≤ n
  · by_cases h2 : n ≤ 1000000
    · go_enter Try.func93, Try.ntmps93
      go_wp2
      go_ret
      exact ⟨ret_bool (by simp; omega), rfl⟩
    · go_enter Try.func93, Try.ntmps93
      go_wp2
      go_ret
      exact ⟨ret_bool (by simp; omega), rfl⟩
  · go_enter Try.func93, Try.ntmps93
    go_wp2
    go_ret
    exact ⟨ret_bool (by simp; omega), rfl⟩
theorem coefrange_at (n : Int) (w : World) {v : Bool} (h : inC n = v) :
    Calls Try.prog 150 #[.int .i64 n] w fun e w' => e = .returned (.bool v) ∧ w' = w := by subst h; exact coefrange_any n w
theorem idx0 (x0 x1 x2 x3 : Value) (w : World) : (Instr.index 88 (.agg #[x0, x1, x2, x3]) (.int .i64 0)).run Try.prog w = .ok x0 w := by kernel_rfl
theorem idx1 (x0 x1 x2 x3 : Value) (w : World) : (Instr.index 88 (.agg #[x0, x1, x2, x3]) (.int .i64 1)).run Try.prog w = .ok x1 w := by kernel_rfl
theorem idx2 (x0 x1 x2 x3 : Value) (w : World) : (Instr.index 88 (.agg #[x0, x1, x2, x3]) (.int .i64 2)).run Try.prog w = .ok x2 w := by kernel_rfl
theorem idx3 (x0 x1 x2 x3 : Value) (w : World) : (Instr.index 88 (.agg #[x0, x1, x2, x3]) (.int .i64 3)).run Try.prog w = .ok x3 w := by kernel_rfl
def rngB (c0 c1 c2 c3 b : Int) : Bool := inC c0 && inC c1 && inC c2 && inC c3 && inC b
set_option maxRecDepth 100000 in
set_option maxHeartbeats 1000000 in
theorem inrange_any (c0 c1 c2 c3 b : Int) (s : Bool) (w : World) :
    Calls Try.prog 125 #[.agg #[.int .i64 c0, .int .i64 c1, .int .i64 c2, .int .i64 c3, .int .i64 b, .bool s]] w fun e w' => e = .returned (.bool (rngB c0 c1 c2 c3 b)) ∧ Below w.heap.size w w' := by
  unfold rngB
  cases h0 : inC c0
  · have H0 := hid h0; clear h0
    have i0 := idx0
    have i1 := idx1
    have i2 := idx2
    have i3 := idx3
    go_enter Try.func125, Try.ntmps125
    go_wp2
    refine wp_loop_rounds 1 ?_
    rw [rounds_succ]
    go_wp2_with (go_at_call 150; refine (coefrange_at _ _ H0.out).mono ?_; rintro e w' ⟨rfl, rfl⟩)
    go_ret
    exact ⟨ret_bool (by simp), bal (Below.refl _ _) _⟩
  have H0 := hid h0; clear h0
  cases h1 : inC c1
  · have H1 := hid h1; clear h1
    have i0 := idx0
    have i1 := idx1
    have i2 := idx2
    have i3 := idx3
    go_enter Try.func125, Try.ntmps125
    go_wp2
    refine wp_loop_rounds 2 ?_
    rw [rounds_succ]
    go_wp2_with (go_at_call 150; refine (coefrange_at _ _ H0.out).mono ?_; rintro e w' ⟨rfl, rfl⟩)
    rw [rounds_succ]
    go_wp2_with (go_at_call 150; refine (coefrange_at _ _ H1.out).mono ?_; rintro e w' ⟨rfl, rfl⟩)
    go_ret
    exact ⟨ret_bool (by simp), bal (Below.refl _ _) _⟩
  have H1 := hid h1; clear h1
  cases h2 : inC c2
  · have H2 := hid h2; clear h2
    have i0 := idx0
    have i1 := idx1
    have i2 := idx2
    have i3 := idx3
    go_enter Try.func125, Try.ntmps125
    go_wp2
    refine wp_loop_rounds 3 ?_
    rw [rounds_succ]
    go_wp2_with (go_at_call 150; refine (coefrange_at _ _ H0.out).mono ?_; rintro e w' ⟨rfl, rfl⟩)
    rw [rounds_succ]
    go_wp2_with (go_at_call 150; refine (coefrange_at _ _ H1.out).mono ?_; rintro e w' ⟨rfl, rfl⟩)
    rw [rounds_succ]
    go_wp2_with (go_at_call 150; refine (coefrange_at _ _ H2.out).mono ?_; rintro e w' ⟨rfl, rfl⟩)
    go_ret
    exact ⟨ret_bool (by simp), bal (Below.refl _ _) _⟩
  have H2 := hid h2; clear h2
  cases h3 : inC c3
  · have H3 := hid h3; clear h3
    have i0 := idx0
    have i1 := idx1
    have i2 := idx2
    have i3 := idx3
    go_enter Try.func125, Try.ntmps125
    go_wp2
    refine wp_loop_rounds 4 ?_
    rw [rounds_succ]
    go_wp2_with (go_at_call 150; refine (coefrange_at _ _ H0.out).mono ?_; rintro e w' ⟨rfl, rfl⟩)
    rw [rounds_succ]
    go_wp2_with (go_at_call 150; refine (coefrange_at _ _ H1.out).mono ?_; rintro e w' ⟨rfl, rfl⟩)
    rw [rounds_succ]
    go_wp2_with (go_at_call 150; refine (coefrange_at _ _ H2.out).mono ?_; rintro e w' ⟨rfl, rfl⟩)
    rw [rounds_succ]
    go_wp2_with (go_at_call 150; refine (coefrange_at _ _ H3.out).mono ?_; rintro e w' ⟨rfl, rfl⟩)
    go_ret
    exact ⟨ret_bool (by simp), bal (Below.refl _ _) _⟩
  have H3 := hid h3; clear h3
  have i0 := idx0
  have i1 := idx1
  have i2 := idx2
  have i3 := idx3
  go_enter Try.func125, Try.ntmps125
  go_wp2
  refine wp_loop_rounds 5 ?_
  rw [rounds_succ]
  go_wp2_with (go_at_call 150; refine (coefrange_at _ _ H0.out).mono ?_; rintro e w' ⟨rfl, rfl⟩)
  rw [rounds_succ]
  go_wp2_with (go_at_call 150; refine (coefrange_at _ _ H1.out).mono ?_; rintro e w' ⟨rfl, rfl⟩)
  rw [rounds_succ]
  go_wp2_with (go_at_call 150; refine (coefrange_at _ _ H2.out).mono ?_; rintro e w' ⟨rfl, rfl⟩)
  rw [rounds_succ]
  go_wp2_with (go_at_call 150; refine (coefrange_at _ _ H3.out).mono ?_; rintro e w' ⟨rfl, rfl⟩)
  rw [rounds_succ]
  go_wp2_with (go_at_call 150; refine (coefrange_any _ _).mono ?_; rintro e w' ⟨rfl, rfl⟩)
  go_ret
  exact ⟨ret_bool (by simp), bal (Below.refl _ _) _⟩
set_option maxRecDepth 100000 in
theorem eqrow (x0 x1 x2 x3 y0 y1 y2 y3 : Int) (w : World) : (Op.equalIn 10000 88 (.agg #[.int .i64 x0, .int .i64 x1, .int .i64 x2, .int .i64 x3]) (.agg #[.int .i64 y0, .int .i64 y1, .int .i64 y2, .int .i64 y3])).run Try.prog w = .ok (decide (x0 = y0 ∧ x1 = y1 ∧ x2 = y2 ∧ x3 = y3)) w := by
  have u3 := Try.underlying2
  have a3 := Try.isAgg2
  have z3 := Try.sizeOf2
  rw [show (10000 : Nat) = 9999 + 1 from rfl, Op.equalIn]
  simp only [Sem.run_bind, run_underlying Try.underlying88, Result.andThen_ok]
  simp only [Std.Legacy.Range.forIn_eq_forIn_range', Std.Legacy.Range.size, Nat.sub_zero, Nat.add_sub_cancel, Nat.div_one, List.range'_succ, List.range'_zero, List.forIn_cons, List.forIn_nil]
  by_cases h0 : x0 = y0 <;> by_cases h1 : x1 = y1 <;> by_cases h2 : x2 = y2 <;> by_cases h3 : x3 = y3 <;> simp [go_sem, u3, a3, z3, h0, h1, h2, h3]
set_option maxRecDepth 100000 in
theorem zero_any (c0 c1 c2 c3 : Int) (w : World) :
    Calls Try.prog 99 #[.agg #[.int .i64 c0, .int .i64 c1, .int .i64 c2, .int .i64 c3]] w fun e w' => e = .returned (.bool (decide (c0 = 0 ∧ c1 = 0 ∧ c2 = 0 ∧ c3 = 0))) ∧ Below w.heap.size w w' := by
  have he := eqrow c0 c1 c2 c3 0 0 0 0
  go_enter Try.func99, Try.ntmps99
  go_wp2
  go_ret
  exact ⟨ret_bool (by simp), bal (Below.refl _ _) _⟩
def refB (b : Int) (s : Bool) : Bool := decide (b < 0) || (decide (b = 0) && s)
theorem refuses_any (c0 c1 c2 c3 b : Int) (s : Bool) (w : World) :
    Calls Try.prog 100 #[.agg #[.int .i64 c0, .int .i64 c1, .int .i64 c2, .int .i64 c3, .int .i64 b, .bool s]] w fun e w' => e = .returned (.bool (refB b s)) ∧ Below w.heap.size w w' := by
  by_cases h : b < 0
  · go_enter Try.func100, Try.ntmps100
    go_wp2
    go_ret
    exact ⟨ret_bool (by simp [refB, h]), bal (Below.refl _ _) _⟩
  · by_cases h0 : b = 0
    · subst h0
      go_enter Try.func100, Try.ntmps100
      go_wp2
      go_ret
      exact ⟨ret_bool (by simp [refB]), bal (Below.refl _ _) _⟩
    · have h0' : (b == 0) = false := by simpa using h0
      go_enter Try.func100, Try.ntmps100
      go_wp2
      go_ret
      exact ⟨ret_bool (by simp [refB, h, h0]), bal (Below.refl _ _) _⟩
theorem mul_bd6 {x y : Int} (hx : -1000000 ≤ x ∧ x ≤ 1000000) (hy : -1000000 ≤ y ∧ y ≤ 1000000) : -1000000000000 ≤ x * y ∧ x * y ≤ 1000000000000 := by
  have := mul_bd 1000000 1000000 hx hy; omega
set_option maxRecDepth 100000 in
set_option maxHeartbeats 1000000 in
theorem ctimes_any (c0 c1 c2 c3 m : Int) (w : World) (h0 : -1000000 ≤ c0 ∧ c0 ≤ 1000000) (h1 : -1000000 ≤ c1 ∧ c1 ≤ 1000000) (h2 : -1000000 ≤ c2 ∧ c2 ≤ 1000000) (h3 : -1000000 ≤ c3 ∧ c3 ≤ 1000000) (hm : -1000000 ≤ m ∧ m ≤ 1000000) :
    Calls Try.prog 126 #[.agg #[.int .i64 c0, .int .i64 c1, .int .i64 c2, .int .i64 c3], .int .i64 m] w fun e w' => e = .returned (.agg #[.int .i64 (c0 * m), .int .i64 (c1 * m), .int .i64 (c2 * m), .int .i64 (c3 * m)]) ∧ Below w.heap.size w w' := by
  obtain ⟨p0, q0⟩ := mul_bd6 h0 hm
  obtain ⟨p1, q1⟩ := mul_bd6 h1 hm
  obtain ⟨p2, q2⟩ := mul_bd6 h2 hm
  obtain ⟨p3, q3⟩ := mul_bd6 h3 hm
  go_enter Try.func126, Try.ntmps126
  go_wp2
  refine wp_loop_rounds 5 ?_
  rw [rounds_succ]
  go_wp2
  rw [rounds_succ]
  go_wp2
  rw [rounds_succ]
  go_wp2
  rw [rounds_succ]
  go_wp2
  rw [rounds_succ]
  go_wp2
  refine bodyPost_ret (v := .agg #[.int .i64 (c0 * m), .int .i64 (c1 * m), .int .i64 (c2 * m), .int .i64 (c3 * m)]) (by simp [results, Try.results126, go_sem]) rfl ⟨rfl, ?_⟩
  (repeat first | with_reducible exact Below.refl _ _ | with_reducible assumption | with_reducible refine Below.drew ?_ | with_reducible refine bdn ?_ _ | with_reducible refine bal ?_ _ | (with_reducible refine bst ?_ ?_ _; rotate_left; (simp <;> omega)) | (with_reducible refine btr ?_ (by with_reducible assumption)))
end Go.Proofs.Ytbdmofmoegmigaa
