/- Contracts of the methods of a wide constraint: the sum, the multiple, the negation. -/
import Derived.Test.YtbdmofmoegmigaaLinB
import Derived.Test.YtbdmofmoegmigaaSetN
namespace Go.Proofs.Ytbdmofmoegmigaa
set_option linter.unusedVariables false
set_option linter.unusedSimpArgs false
open Go.RowKit
set_option maxRecDepth 100000 in
set_option maxHeartbeats 1000000 in
theorem cplus_any (c0 c1 c2 c3 d0 d1 d2 d3 : Int) (w : World) (h0 : -1000000000000 ≤ c0 ∧ c0 ≤ 1000000000000) (h1 : -1000000000000 ≤ c1 ∧ c1 ≤ 1000000000000) (h2 : -1000000000000 ≤ c2 ∧ c2 ≤ 1000000000000) (h3 : -1000000000000 ≤ c3 ∧ c3 ≤ 1000000000000)
    (k0 : -1000000000000 ≤ d0 ∧ d0 ≤ 1000000000000) (k1 : -1000000000000 ≤ d1 ∧ d1 ≤ 1000000000000) (k2 : -1000000000000 ≤ d2 ∧ d2 ≤ 1000000000000) (k3 : -1000000000000 ≤ d3 ∧ d3 ≤ 1000000000000) :
    Calls Try.prog 131 #[.agg #[.int .i64 c0, .int .i64 c1, .int .i64 c2, .int .i64 c3], .agg #[.int .i64 d0, .int .i64 d1, .int .i64 d2, .int .i64 d3]] w fun e w' => e = .returned (.agg #[.int .i64 (c0 + d0), .int .i64 (c1 + d1), .int .i64 (c2 + d2), .int .i64 (c3 + d3)]) ∧ Below w.heap.size w w' := by
  obtain ⟨p0, q0⟩ := h0
  obtain ⟨p1, q1⟩ := h1
  obtain ⟨p2, q2⟩ := h2
  obtain ⟨p3, q3⟩ := h3
  obtain ⟨r0, s0⟩ := k0
  obtain ⟨r1, s1⟩ := k1
  obtain ⟨r2, s2⟩ := k2
  obtain ⟨r3, s3⟩ := k3
  have sd := set_drewN
  go_enter Try.func131, Try.ntmps131
  go_wp2
  refine wp_loop_rounds 5 ?_
  rw [rounds_succ]
  go_wp2
  refine region_drew_tail 8 (by kernel_rfl) (by kernel_rfl) ?_; simp only [List.take_succ_cons, List.take_zero, List.drop_succ_cons, List.drop_zero]; (repeat (go_big_quiet_step (fail))); refine wpQuiet_nil ?_; intro nq
  go_wp2
  rw [rounds_succ]
  go_wp2
  refine region_drew_tail 8 (by kernel_rfl) (by kernel_rfl) ?_; simp only [List.take_succ_cons, List.take_zero, List.drop_succ_cons, List.drop_zero]; (repeat (go_big_quiet_step (fail))); refine wpQuiet_nil ?_; intro nq
  go_wp2
  rw [rounds_succ]
  go_wp2
  refine region_drew_tail 8 (by kernel_rfl) (by kernel_rfl) ?_; simp only [List.take_succ_cons, List.take_zero, List.drop_succ_cons, List.drop_zero]; (repeat (go_big_quiet_step (fail))); refine wpQuiet_nil ?_; intro nq
  go_wp2
  rw [rounds_succ]
  go_wp2
  refine region_drew_tail 8 (by kernel_rfl) (by kernel_rfl) ?_; simp only [List.take_succ_cons, List.take_zero, List.drop_succ_cons, List.drop_zero]; (repeat (go_big_quiet_step (fail))); refine wpQuiet_nil ?_; intro nq
  go_wp2
  rw [rounds_succ]
  go_wp2
  refine bodyPost_ret (v := .agg #[.int .i64 (c0 + d0), .int .i64 (c1 + d1), .int .i64 (c2 + d2), .int .i64 (c3 + d3)]) (by simp [results, Try.results131, go_sem]) rfl ⟨rfl, ?_⟩
  (repeat first | with_reducible exact Below.refl _ _ | with_reducible assumption | with_reducible refine Below.drew ?_ | with_reducible refine bdn ?_ _ | with_reducible refine bal ?_ _ | (with_reducible refine bst ?_ ?_ _; rotate_left; (simp <;> omega)) | (with_reducible refine btr ?_ (by with_reducible assumption)))
theorem ctimes_neg (c0 c1 c2 c3 : Int) (w : World) (h0 : -1000000 ≤ c0 ∧ c0 ≤ 1000000) (h1 : -1000000 ≤ c1 ∧ c1 ≤ 1000000) (h2 : -1000000 ≤ c2 ∧ c2 ≤ 1000000) (h3 : -1000000 ≤ c3 ∧ c3 ≤ 1000000) :
    Calls Try.prog 126 #[.agg #[.int .i64 c0, .int .i64 c1, .int .i64 c2, .int .i64 c3], .int .i64 (-1)] w fun e w' => e = .returned (.agg #[.int .i64 (-c0), .int .i64 (-c1), .int .i64 (-c2), .int .i64 (-c3)]) ∧ Below w.heap.size w w' := by
  have h := ctimes_any c0 c1 c2 c3 (-1) w h0 h1 h2 h3 (by omega)
  simp only [show ∀ x : Int, x * -1 = -x from fun x => by omega] at h
  exact h
set_option maxRecDepth 100000 in
set_option maxHeartbeats 1000000 in
theorem negated_any (c0 c1 c2 c3 b : Int) (s : Bool) (w : World) (h0 : -1000000 ≤ c0 ∧ c0 ≤ 1000000) (h1 : -1000000 ≤ c1 ∧ c1 ≤ 1000000) (h2 : -1000000 ≤ c2 ∧ c2 ≤ 1000000) (h3 : -1000000 ≤ c3 ∧ c3 ≤ 1000000) (hb : -1000000 ≤ b ∧ b ≤ 1000000) :
    Calls Try.prog 85 #[.agg #[.int .i64 c0, .int .i64 c1, .int .i64 c2, .int .i64 c3, .int .i64 b, .bool s]] w fun e w' => e = .returned (.agg #[.int .i64 (-c0), .int .i64 (-c1), .int .i64 (-c2), .int .i64 (-c3), .int .i64 (-b), .bool (!s)]) ∧ Below w.heap.size w w' := by
  obtain ⟨b1, b2⟩ := hb
  go_enter Try.func85, Try.ntmps85
  go_wp2
  have gc := @gro_cell ((w.alloc (.cells #[.int .i64 c0, .int .i64 c1, .int .i64 c2, .int .i64 c3, .int .i64 b, .bool s] 90)).alloc (.cells #[.int .i64 0, .int .i64 0, .int .i64 0, .int .i64 0, .int .i64 0, .bool false] 90))
  refine region_grow_tail 10 (by kernel_rfl) (by kernel_rfl) ?_; simp only [List.take_succ_cons, List.take_zero, List.drop_succ_cons, List.drop_zero]; (repeat (go_big_quiet_step ((go_at_call 126; exact grow_call _ (ctimes_neg _ _ _ _ _ h0 h1 h2 h3))))); refine wpQuiet_nil ?_
  intro w1 hq
  clear gc
  obtain ⟨hc, hf⟩ := bcell hq
  go_wp2
  have e0 : w1.cell? ⟨w.heap.size + 1, 0, none⟩ = some (.int .i64 0) := by rw [hc _ _ (by simp <;> omega)]; simp [go_sem]
  have e1 : w1.cell? ⟨w.heap.size + 1, 1, none⟩ = some (.int .i64 0) := by rw [hc _ _ (by simp <;> omega)]; simp [go_sem]
  have e2 : w1.cell? ⟨w.heap.size + 1, 2, none⟩ = some (.int .i64 0) := by rw [hc _ _ (by simp <;> omega)]; simp [go_sem]
  have e3 : w1.cell? ⟨w.heap.size + 1, 3, none⟩ = some (.int .i64 0) := by rw [hc _ _ (by simp <;> omega)]; simp [go_sem]
  have e4 : w1.cell? ⟨w.heap.size + 1, 4, none⟩ = some (.int .i64 0) := by rw [hc _ _ (by simp <;> omega)]; simp [go_sem]
  have e5 : w1.cell? ⟨w.heap.size + 1, 5, none⟩ = some (.bool false) := by rw [hc _ _ (by simp <;> omega)]; simp [go_sem]
  obtain ⟨t0, t1, t2, t3, t4, t5⟩ := set6 e0 e1 e2 e3 e4 e5 (.int .i64 (-c0)) (.int .i64 (-c1)) (.int .i64 (-c2)) (.int .i64 (-c3)) (.int .i64 (-b)) (.bool (!s))
  refine bodyPost_ret (v := .agg #[.int .i64 (-c0), .int .i64 (-c1), .int .i64 (-c2), .int .i64 (-c3), .int .i64 (-b), .bool (!s)]) (by simp [results, Try.results85, go_sem, t0, t1, t2, t3, t4, t5]) rfl ⟨rfl, ?_⟩
  (repeat first | with_reducible exact Below.refl _ _ | with_reducible assumption | with_reducible refine Below.drew ?_ | with_reducible refine bdn ?_ _ | with_reducible refine bal ?_ _ | (with_reducible refine bst ?_ ?_ _; rotate_left; (simp <;> omega)) | (with_reducible refine btr ?_ (by with_reducible assumption)))
set_option maxRecDepth 100000 in
set_option maxHeartbeats 1000000 in
theorem wtimes_no (c0 c1 c2 c3 b m : Int) (w : World) (h0 : -1000000 ≤ c0 ∧ c0 ≤ 1000000) (h1 : -1000000 ≤ c1 ∧ c1 ≤ 1000000) (h2 : -1000000 ≤ c2 ∧ c2 ≤ 1000000) (h3 : -1000000 ≤ c3 ∧ c3 ≤ 1000000) (hb : -1000000 ≤ b ∧ b ≤ 1000000) (hm : 0 ≤ m ∧ m ≤ 1000000) :
    Calls Try.prog 94 #[.agg #[.int .i64 c0, .int .i64 c1, .int .i64 c2, .int .i64 c3, .int .i64 b, .bool false], .int .i64 m] w fun e w' => e = .returned (.agg #[.int .i64 (c0 * m), .int .i64 (c1 * m), .int .i64 (c2 * m), .int .i64 (c3 * m), .int .i64 (b * m), .bool false]) ∧ Below w.heap.size w w' := by
  obtain ⟨p1, p2⟩ := mul_bd6 hb (y := m) (by omega)
  go_enter Try.func94, Try.ntmps94
  go_wp2
  have gc := @gro_cell ((w.alloc (.cells #[.int .i64 c0, .int .i64 c1, .int .i64 c2, .int .i64 c3, .int .i64 b, .bool false] 90)).alloc (.cells #[.int .i64 0, .int .i64 0, .int .i64 0, .int .i64 0, .int .i64 0, .bool false] 90))
  refine region_grow_tail 15 (by kernel_rfl) (by kernel_rfl) ?_; simp only [List.take_succ_cons, List.take_zero, List.drop_succ_cons, List.drop_zero]; (repeat (go_big_quiet_step ((go_at_call 126; exact grow_call _ (ctimes_any _ _ _ _ _ _ h0 h1 h2 h3 (by omega)))))); refine wpQuiet_nil ?_
  intro w1 hq
  clear gc
  obtain ⟨hc, hf⟩ := bcell hq
  go_wp2
  have e0 : w1.cell? ⟨w.heap.size + 1, 0, none⟩ = some (.int .i64 0) := by rw [hc _ _ (by simp <;> omega)]; simp [go_sem]
  have e1 : w1.cell? ⟨w.heap.size + 1, 1, none⟩ = some (.int .i64 0) := by rw [hc _ _ (by simp <;> omega)]; simp [go_sem]
  have e2 : w1.cell? ⟨w.heap.size + 1, 2, none⟩ = some (.int .i64 0) := by rw [hc _ _ (by simp <;> omega)]; simp [go_sem]
  have e3 : w1.cell? ⟨w.heap.size + 1, 3, none⟩ = some (.int .i64 0) := by rw [hc _ _ (by simp <;> omega)]; simp [go_sem]
  have e4 : w1.cell? ⟨w.heap.size + 1, 4, none⟩ = some (.int .i64 0) := by rw [hc _ _ (by simp <;> omega)]; simp [go_sem]
  have e5 : w1.cell? ⟨w.heap.size + 1, 5, none⟩ = some (.bool false) := by rw [hc _ _ (by simp <;> omega)]; simp [go_sem]
  obtain ⟨t0, t1, t2, t3, t4, t5⟩ := set6 e0 e1 e2 e3 e4 e5 (.int .i64 (c0 * m)) (.int .i64 (c1 * m)) (.int .i64 (c2 * m)) (.int .i64 (c3 * m)) (.int .i64 (b * m)) (.bool false)
  refine bodyPost_ret (v := .agg #[.int .i64 (c0 * m), .int .i64 (c1 * m), .int .i64 (c2 * m), .int .i64 (c3 * m), .int .i64 (b * m), .bool false]) (by simp [results, Try.results94, go_sem, t0, t1, t2, t3, t4, t5]) rfl ⟨rfl, ?_⟩
  (repeat first | with_reducible exact Below.refl _ _ | with_reducible assumption | with_reducible refine Below.drew ?_ | with_reducible refine bdn ?_ _ | with_reducible refine bal ?_ _ | (with_reducible refine bst ?_ ?_ _; rotate_left; (simp <;> omega)) | (with_reducible refine btr ?_ (by with_reducible assumption)))
end Go.Proofs.Ytbdmofmoegmigaa
