/- Contracts of both RatMid and both RatLess. -/
import Derived.Test.YtbdmofmoegmigaaRatF
namespace Go.Proofs.Ytbdmofmoegmigaa
set_option linter.unusedVariables false
set_option linter.unusedSimpArgs false
open Go.RowKit
theorem three_cells {w1 : World} {b : Nat} {u v : Value} (hb : b < w1.heap.size) (h0 : w1.cell? ⟨b, 0, none⟩ = some u) (h1 : w1.cell? ⟨b, 1, none⟩ = some v) :
    (∀ x y o, (((w1.setCell ⟨b, 0, none⟩ x).setCell ⟨b, 1, none⟩ y).alloc o).cell? ⟨b, 0, none⟩ = some x) ∧ (∀ x y o, (((w1.setCell ⟨b, 0, none⟩ x).setCell ⟨b, 1, none⟩ y).alloc o).cell? ⟨b, 1, none⟩ = some y) := by
  obtain ⟨t0, t1⟩ := two_cells h0 h1
  refine ⟨fun x y o => ?_, fun x y o => ?_⟩
  · rw [World.cell?_alloc_lt _ _ _ (by simpa [World.setCell] using hb)]; exact t0 x y
  · rw [World.cell?_alloc_lt _ _ _ (by simpa [World.setCell] using hb)]; exact t1 x y
theorem least_val {n d : Int} (hd : 1 ≤ d) (h : (leastR n d).2.2 = true) : okB (leastR n d).1 (leastR n d).2.1 = true := by
  cases h1 : okB (n.tdiv (Int.gcd n d : Int)) (d / (Int.gcd n d : Int))
  · rw [least_bad hd h1] at h; cases h
  · rw [least_ok hd h1]; exact h1
theorem add_val {a b c d : Int} (h : (addR a b c d).2.2 = true) : okB (addR a b c d).1 (addR a b c d).2.1 = true := by
  by_cases k : okB a b = true ∧ okB c d = true
  · have x := okB_iff.1 k.1; have y := okB_iff.1 k.2
    rw [add_yes k.1 k.2] at h ⊢
    exact least_val (mul_pos9 (by omega) (by omega)) h
  · rw [add_no k] at h; cases h
theorem mul_val {a b c d : Int} (h : (mulR a b c d).2.2 = true) : okB (mulR a b c d).1 (mulR a b c d).2.1 = true := by
  by_cases k : okB a b = true ∧ okB c d = true
  · have x := okB_iff.1 k.1; have y := okB_iff.1 k.2
    rw [mul_yes k.1 k.2] at h ⊢
    exact least_val (mul_pos9 (by omega) (by omega)) h
  · rw [mul_no k] at h; cases h
theorem ok12 : okB 1 2 = true := by decide +kernel
theorem mid_no {a b c d : Int} (h : (addR a b c d).2.2 = false) : midR a b c d = (0, 0, false) := by unfold midR; rw [if_neg (by simp [h])]
theorem mid_yes {a b c d : Int} (h : (addR a b c d).2.2 = true) : midR a b c d = mulR (addR a b c d).1 (addR a b c d).2.1 1 2 := by unfold midR; rw [if_pos h]

theorem smid_any (a b c d : Int) (w : World) :
    Calls Try.prog 160 #[.agg #[.int .i64 a, .int .i64 b], .agg #[.int .i64 c, .int .i64 d]] w fun e w' => e = .returned (.tuple #[.agg #[.int .i64 (midR a b c d).1, .int .i64 (midR a b c d).2.1], .bool (midR a b c d).2.2]) ∧ Below w.heap.size w w' := by
  cases h1 : (addR a b c d).2.2
  · rw [mid_no h1]
    go_enter Try.func160, Try.ntmps160
    go_wp2_with (first | (go_at_call 134; refine (sadd_any _ _ _ _ _).mono ?_; rintro e w1 ⟨rfl, hb⟩; obtain ⟨_, _, _, _, e0, e1, f0, f1, hz, _⟩ := keep2 hb))
    obtain ⟨t0, t1⟩ := three_cells (by omega) e0 e1
    refine bodyPost_ret (v := .tuple #[.agg #[.int .i64 0, .int .i64 0], .bool false]) (by simp [results, Try.results160, go_sem, t0, t1]) rfl ⟨rfl, ?_⟩
    exact bal (bst (bst (btr (bal (bal (bal (Below.refl _ _) _) _) _) hb) (by simp <;> omega) _) (by simp <;> omega) _) _
  · rw [mid_yes h1]
    go_enter Try.func160, Try.ntmps160
    go_wp2_with (first | (go_at_call 134; refine (sadd_any _ _ _ _ _).mono ?_; rintro e w1 ⟨rfl, hb⟩; obtain ⟨_, _, _, _, e0, e1, f0, f1, hz, _⟩ := keep2 hb) | (go_at_call 133; refine (smul_any _ _ _ _ _).mono ?_; rintro e w2 ⟨rfl, hq⟩; have hb2 := btr (bal hb _) hq; obtain ⟨_, _, _, _, g0, g1, k0, k1, hy, _⟩ := keep2 hb2))
    obtain ⟨t0, t1⟩ := two_cells g0 g1
    refine bodyPost_ret (v := .tuple #[.agg #[.int .i64 (mulR (addR a b c d).1 (addR a b c d).2.1 1 2).1, .int .i64 (mulR (addR a b c d).1 (addR a b c d).2.1 1 2).2.1], .bool (mulR (addR a b c d).1 (addR a b c d).2.1 1 2).2.2]) (by simp [results, Try.results160, go_sem, t0, t1]) rfl ⟨rfl, ?_⟩
    exact bst (bst (btr (bal (bal (bal (Below.refl _ _) _) _) _) hb2) (by simp <;> omega) _) (by simp <;> omega) _

theorem rmid_any (a b c d : Int) (w : World) :
    Calls Try.prog 164 #[.agg #[.int .i64 a, .int .i64 b], .agg #[.int .i64 c, .int .i64 d]] w fun e w' => e = .returned (.tuple #[.agg #[.int .i64 (midR a b c d).1, .int .i64 (midR a b c d).2.1], .bool (midR a b c d).2.2]) ∧ Below w.heap.size w w' := by
  cases h1 : (addR a b c d).2.2
  · rw [mid_no h1]
    go_enter Try.func164, Try.ntmps164
    go_wp2_with (first | (go_at_call 128; refine (radd_any _ _ _ _ _).mono ?_; rintro e w1 ⟨rfl, hb⟩; obtain ⟨_, _, _, _, e0, e1, f0, f1, hz, _⟩ := keep2 hb))
    obtain ⟨t0, t1⟩ := three_cells (by omega) e0 e1
    refine bodyPost_ret (v := .tuple #[.agg #[.int .i64 0, .int .i64 0], .bool false]) (by simp [results, Try.results164, go_sem, t0, t1]) rfl ⟨rfl, ?_⟩
    exact bal (bst (bst (btr (bal (bal (bal (Below.refl _ _) _) _) _) hb) (by simp <;> omega) _) (by simp <;> omega) _) _
  · have v1 := add_val h1
    obtain ⟨a1, a2, b1, b2, _⟩ := okB_iff.1 v1
    rw [mid_yes h1, mul_yes v1 ok12]
    go_enter Try.func164, Try.ntmps164
    go_wp2_with (first | (go_at_call 128; refine (radd_any _ _ _ _ _).mono ?_; rintro e w1 ⟨rfl, hb⟩; obtain ⟨_, _, _, _, e0, e1, f0, f1, hz, _⟩ := keep2 hb) | (go_at_call 129; refine (wide_any _ _ _).mono ?_; rintro e w2 ⟨rfl, hq⟩; have hb2 := btr (bal hb _) hq) | (go_at_call 151; refine (times_any _ _ _ _ _ (by omega) (by omega) (by omega) (by omega)).mono ?_; rintro e w3 ⟨rfl, hq3⟩; have hb3 := btr hb2 hq3) | (go_at_call 152; refine (narrow_any _ _ _ (by omega) (by omega)).mono ?_; rintro e w4 ⟨rfl, hq4⟩; have hb4 := btr hb3 hq4; obtain ⟨_, _, _, _, g0, g1, k0, k1, hy, _⟩ := keep2 hb4))
    obtain ⟨t0, t1⟩ := two_cells g0 g1
    refine bodyPost_ret (v := .tuple #[.agg #[.int .i64 (leastR ((addR a b c d).1 * 1) ((addR a b c d).2.1 * 2)).1, .int .i64 (leastR ((addR a b c d).1 * 1) ((addR a b c d).2.1 * 2)).2.1], .bool (leastR ((addR a b c d).1 * 1) ((addR a b c d).2.1 * 2)).2.2]) (by simp [results, Try.results164, go_sem, t0, t1]) rfl ⟨rfl, ?_⟩
    exact bst (bst (btr (bal (bal (bal (Below.refl _ _) _) _) _) hb4) (by simp <;> omega) _) (by simp <;> omega) _
end Go.Proofs.Ytbdmofmoegmigaa
