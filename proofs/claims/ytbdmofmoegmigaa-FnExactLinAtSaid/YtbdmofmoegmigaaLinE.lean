/- The sum of two wide constraints. -/
import Derived.Test.YtbdmofmoegmigaaLinD
namespace Go.Proofs.Ytbdmofmoegmigaa
set_option linter.unusedVariables false
set_option linter.unusedSimpArgs false
open Go.RowKit
set_option maxRecDepth 100000 in
set_option maxHeartbeats 1000000 in
theorem wplus_yes (a0 a1 a2 a3 a d0 d1 d2 d3 d : Int) (s u : Bool) (w : World) (h0 : -1000000000000 ≤ a0 ∧ a0 ≤ 1000000000000) (h1 : -1000000000000 ≤ a1 ∧ a1 ≤ 1000000000000) (h2 : -1000000000000 ≤ a2 ∧ a2 ≤ 1000000000000) (h3 : -1000000000000 ≤ a3 ∧ a3 ≤ 1000000000000) (h : -1000000000000 ≤ a ∧ a ≤ 1000000000000) (k0 : -1000000000000 ≤ d0 ∧ d0 ≤ 1000000000000) (k1 : -1000000000000 ≤ d1 ∧ d1 ≤ 1000000000000) (k2 : -1000000000000 ≤ d2 ∧ d2 ≤ 1000000000000) (k3 : -1000000000000 ≤ d3 ∧ d3 ≤ 1000000000000) (k : -1000000000000 ≤ d ∧ d ≤ 1000000000000) :
    Calls Try.prog 96 #[.agg #[.int .i64 a0, .int .i64 a1, .int .i64 a2, .int .i64 a3, .int .i64 a, .bool true], .agg #[.int .i64 d0, .int .i64 d1, .int .i64 d2, .int .i64 d3, .int .i64 d, .bool u]] w fun e w' => e = .returned (.agg #[.int .i64 (a0 + d0), .int .i64 (a1 + d1), .int .i64 (a2 + d2), .int .i64 (a3 + d3), .int .i64 (a + d), .bool true]) ∧ Below w.heap.size w w' := by
  obtain ⟨p1, p2⟩ := h
  obtain ⟨p3, p4⟩ := k
  go_enter Try.func96, Try.ntmps96
  go_wp2
  have gc := @gro_cell (((w.alloc (.cells #[.int .i64 a0, .int .i64 a1, .int .i64 a2, .int .i64 a3, .int .i64 a, .bool true] 90)).alloc (.cells #[.int .i64 d0, .int .i64 d1, .int .i64 d2, .int .i64 d3, .int .i64 d, .bool u] 90)).alloc (.cells #[.int .i64 0, .int .i64 0, .int .i64 0, .int .i64 0, .int .i64 0, .bool false] 90))
  refine region_grow_tail 17 (by kernel_rfl) (by kernel_rfl) ?_; simp only [List.take_succ_cons, List.take_zero, List.drop_succ_cons, List.drop_zero]; (repeat (go_big_quiet_step ((go_at_call 131; exact grow_call _ (cplus_any _ _ _ _ _ _ _ _ _ h0 h1 h2 h3 k0 k1 k2 k3))))); refine wpQuiet_nil ?_
  intro w1 hq
  clear gc
  obtain ⟨hc, hf⟩ := bcell hq
  go_wp2
  have e0 : w1.cell? ⟨w.heap.size + 1 + 1, 0, none⟩ = some (.int .i64 0) := by rw [hc _ _ (by simp <;> omega)]; simp [go_sem]
  have e1 : w1.cell? ⟨w.heap.size + 1 + 1, 1, none⟩ = some (.int .i64 0) := by rw [hc _ _ (by simp <;> omega)]; simp [go_sem]
  have e2 : w1.cell? ⟨w.heap.size + 1 + 1, 2, none⟩ = some (.int .i64 0) := by rw [hc _ _ (by simp <;> omega)]; simp [go_sem]
  have e3 : w1.cell? ⟨w.heap.size + 1 + 1, 3, none⟩ = some (.int .i64 0) := by rw [hc _ _ (by simp <;> omega)]; simp [go_sem]
  have e4 : w1.cell? ⟨w.heap.size + 1 + 1, 4, none⟩ = some (.int .i64 0) := by rw [hc _ _ (by simp <;> omega)]; simp [go_sem]
  have e5 : w1.cell? ⟨w.heap.size + 1 + 1, 5, none⟩ = some (.bool false) := by rw [hc _ _ (by simp <;> omega)]; simp [go_sem]
  obtain ⟨t0, t1, t2, t3, t4, t5⟩ := set6 e0 e1 e2 e3 e4 e5 (.int .i64 (a0 + d0)) (.int .i64 (a1 + d1)) (.int .i64 (a2 + d2)) (.int .i64 (a3 + d3)) (.int .i64 (a + d)) (.bool true)
  clear p1 p2 p3 p4 h0 h1 h2 h3 k0 k1 k2 k3 hc hf
  refine bodyPost_ret (v := .agg #[.int .i64 (a0 + d0), .int .i64 (a1 + d1), .int .i64 (a2 + d2), .int .i64 (a3 + d3), .int .i64 (a + d), .bool true]) (by simp [results, Try.results96, go_sem, t0, t1, t2, t3, t4, t5]) rfl ⟨rfl, ?_⟩
  (repeat first | with_reducible exact Below.refl _ _ | with_reducible assumption | with_reducible refine Below.drew ?_ | with_reducible refine bdn ?_ _ | with_reducible refine bal ?_ _ | (with_reducible refine bst ?_ ?_ _; rotate_left; (simp <;> omega)) | (with_reducible refine btr ?_ (by with_reducible assumption)))
set_option maxRecDepth 100000 in
set_option maxHeartbeats 1000000 in
theorem wplus_no (a0 a1 a2 a3 a d0 d1 d2 d3 d : Int) (s u : Bool) (w : World) (h0 : -1000000000000 ≤ a0 ∧ a0 ≤ 1000000000000) (h1 : -1000000000000 ≤ a1 ∧ a1 ≤ 1000000000000) (h2 : -1000000000000 ≤ a2 ∧ a2 ≤ 1000000000000) (h3 : -1000000000000 ≤ a3 ∧ a3 ≤ 1000000000000) (h : -1000000000000 ≤ a ∧ a ≤ 1000000000000) (k0 : -1000000000000 ≤ d0 ∧ d0 ≤ 1000000000000) (k1 : -1000000000000 ≤ d1 ∧ d1 ≤ 1000000000000) (k2 : -1000000000000 ≤ d2 ∧ d2 ≤ 1000000000000) (k3 : -1000000000000 ≤ d3 ∧ d3 ≤ 1000000000000) (k : -1000000000000 ≤ d ∧ d ≤ 1000000000000) :
    Calls Try.prog 96 #[.agg #[.int .i64 a0, .int .i64 a1, .int .i64 a2, .int .i64 a3, .int .i64 a, .bool false], .agg #[.int .i64 d0, .int .i64 d1, .int .i64 d2, .int .i64 d3, .int .i64 d, .bool u]] w fun e w' => e = .returned (.agg #[.int .i64 (a0 + d0), .int .i64 (a1 + d1), .int .i64 (a2 + d2), .int .i64 (a3 + d3), .int .i64 (a + d), .bool u]) ∧ Below w.heap.size w w' := by
  obtain ⟨p1, p2⟩ := h
  obtain ⟨p3, p4⟩ := k
  go_enter Try.func96, Try.ntmps96
  go_wp2
  have gc := @gro_cell (((w.alloc (.cells #[.int .i64 a0, .int .i64 a1, .int .i64 a2, .int .i64 a3, .int .i64 a, .bool false] 90)).alloc (.cells #[.int .i64 d0, .int .i64 d1, .int .i64 d2, .int .i64 d3, .int .i64 d, .bool u] 90)).alloc (.cells #[.int .i64 0, .int .i64 0, .int .i64 0, .int .i64 0, .int .i64 0, .bool false] 90))
  refine region_grow_tail 17 (by kernel_rfl) (by kernel_rfl) ?_; simp only [List.take_succ_cons, List.take_zero, List.drop_succ_cons, List.drop_zero]; (repeat (go_big_quiet_step ((go_at_call 131; exact grow_call _ (cplus_any _ _ _ _ _ _ _ _ _ h0 h1 h2 h3 k0 k1 k2 k3))))); refine wpQuiet_nil ?_
  intro w1 hq
  clear gc
  obtain ⟨hc, hf⟩ := bcell hq
  go_wp2
  have e0 : w1.cell? ⟨w.heap.size + 1 + 1, 0, none⟩ = some (.int .i64 0) := by rw [hc _ _ (by simp <;> omega)]; simp [go_sem]
  have e1 : w1.cell? ⟨w.heap.size + 1 + 1, 1, none⟩ = some (.int .i64 0) := by rw [hc _ _ (by simp <;> omega)]; simp [go_sem]
  have e2 : w1.cell? ⟨w.heap.size + 1 + 1, 2, none⟩ = some (.int .i64 0) := by rw [hc _ _ (by simp <;> omega)]; simp [go_sem]
  have e3 : w1.cell? ⟨w.heap.size + 1 + 1, 3, none⟩ = some (.int .i64 0) := by rw [hc _ _ (by simp <;> omega)]; simp [go_sem]
  have e4 : w1.cell? ⟨w.heap.size + 1 + 1, 4, none⟩ = some (.int .i64 0) := by rw [hc _ _ (by simp <;> omega)]; simp [go_sem]
  have e5 : w1.cell? ⟨w.heap.size + 1 + 1, 5, none⟩ = some (.bool false) := by rw [hc _ _ (by simp <;> omega)]; simp [go_sem]
  obtain ⟨t0, t1, t2, t3, t4, t5⟩ := set6 e0 e1 e2 e3 e4 e5 (.int .i64 (a0 + d0)) (.int .i64 (a1 + d1)) (.int .i64 (a2 + d2)) (.int .i64 (a3 + d3)) (.int .i64 (a + d)) (.bool u)
  clear p1 p2 p3 p4 h0 h1 h2 h3 k0 k1 k2 k3 hc hf
  refine bodyPost_ret (v := .agg #[.int .i64 (a0 + d0), .int .i64 (a1 + d1), .int .i64 (a2 + d2), .int .i64 (a3 + d3), .int .i64 (a + d), .bool u]) (by simp [results, Try.results96, go_sem, t0, t1, t2, t3, t4, t5]) rfl ⟨rfl, ?_⟩
  (repeat first | with_reducible exact Below.refl _ _ | with_reducible assumption | with_reducible refine Below.drew ?_ | with_reducible refine bdn ?_ _ | with_reducible refine bal ?_ _ | (with_reducible refine bst ?_ ?_ _; rotate_left; (simp <;> omega)) | (with_reducible refine btr ?_ (by with_reducible assumption)))
theorem wplus_any (a0 a1 a2 a3 a d0 d1 d2 d3 d : Int) (s u : Bool) (w : World) (h0 : -1000000000000 ≤ a0 ∧ a0 ≤ 1000000000000) (h1 : -1000000000000 ≤ a1 ∧ a1 ≤ 1000000000000) (h2 : -1000000000000 ≤ a2 ∧ a2 ≤ 1000000000000) (h3 : -1000000000000 ≤ a3 ∧ a3 ≤ 1000000000000) (h : -1000000000000 ≤ a ∧ a ≤ 1000000000000) (k0 : -1000000000000 ≤ d0 ∧ d0 ≤ 1000000000000) (k1 : -1000000000000 ≤ d1 ∧ d1 ≤ 1000000000000) (k2 : -1000000000000 ≤ d2 ∧ d2 ≤ 1000000000000) (k3 : -1000000000000 ≤ d3 ∧ d3 ≤ 1000000000000) (k : -1000000000000 ≤ d ∧ d ≤ 1000000000000) :
    Calls Try.prog 96 #[.agg #[.int .i64 a0, .int .i64 a1, .int .i64 a2, .int .i64 a3, .int .i64 a, .bool s], .agg #[.int .i64 d0, .int .i64 d1, .int .i64 d2, .int .i64 d3, .int .i64 d, .bool u]] w fun e w' => e = .returned (.agg #[.int .i64 (a0 + d0), .int .i64 (a1 + d1), .int .i64 (a2 + d2), .int .i64 (a3 + d3), .int .i64 (a + d), .bool (s || u)]) ∧ Below w.heap.size w w' := by
  cases s
  · exact wplus_no a0 a1 a2 a3 a d0 d1 d2 d3 d false u w h0 h1 h2 h3 h k0 k1 k2 k3 k
  · exact wplus_yes a0 a1 a2 a3 a d0 d1 d2 d3 d true u w h0 h1 h2 h3 h k0 k1 k2 k3 k
end Go.Proofs.Ytbdmofmoegmigaa
