/- The multiple of a wide constraint that is strict. -/
import Derived.Test.YtbdmofmoegmigaaLinC
namespace Go.Proofs.Ytbdmofmoegmigaa
set_option linter.unusedVariables false
set_option linter.unusedSimpArgs false
open Go.RowKit
set_option maxRecDepth 100000 in
set_option maxHeartbeats 1000000 in
theorem wtimes_yes (c0 c1 c2 c3 b m : Int) (w : World) (h0 : -1000000 ≤ c0 ∧ c0 ≤ 1000000) (h1 : -1000000 ≤ c1 ∧ c1 ≤ 1000000) (h2 : -1000000 ≤ c2 ∧ c2 ≤ 1000000) (h3 : -1000000 ≤ c3 ∧ c3 ≤ 1000000) (hb : -1000000 ≤ b ∧ b ≤ 1000000) (hm : 0 ≤ m ∧ m ≤ 1000000) (hp : 0 < m) :
    Calls Try.prog 94 #[.agg #[.int .i64 c0, .int .i64 c1, .int .i64 c2, .int .i64 c3, .int .i64 b, .bool true], .int .i64 m] w fun e w' => e = .returned (.agg #[.int .i64 (c0 * m), .int .i64 (c1 * m), .int .i64 (c2 * m), .int .i64 (c3 * m), .int .i64 (b * m), .bool true]) ∧ Below w.heap.size w w' := by
  obtain ⟨p1, p2⟩ := mul_bd6 hb (y := m) (by omega)
  have hd : decide (0 < m) = true := by simpa using hp
  go_enter Try.func94, Try.ntmps94
  go_wp2
  have gc := @gro_cell ((w.alloc (.cells #[.int .i64 c0, .int .i64 c1, .int .i64 c2, .int .i64 c3, .int .i64 b, .bool true] 90)).alloc (.cells #[.int .i64 0, .int .i64 0, .int .i64 0, .int .i64 0, .int .i64 0, .bool false] 90))
  refine region_grow_tail 15 (by kernel_rfl) (by kernel_rfl) ?_; simp only [List.take_succ_cons, List.take_zero, List.drop_succ_cons, List.drop_zero]; (repeat (go_big_quiet_step ((go_at_call 126; exact grow_call _ (ctimes_any _ _ _ _ _ _ h0 h1 h2 h3 (by omega)))))); refine wpQuiet_nil ?_
  intro w1 hq
  clear gc
  obtain ⟨hc, hf⟩ := bcell hq
  go_wp2
  have e0 : w1.cell? ⟨w.heap.size + 1, 0, none⟩ = some (.int .i64 0) := by rw [hc _ _ (by simp <;> omega)]; simp [go_sem]
  have e1 : w1.cell? ⟨w.heap.size + 1, 1, none⟩ = some (.int .i64 0) := by rw [hc _ _ (by simp <;> omega)]; simp [go_sem]
  have e2 : w1.cell? ⟨w.heap.size + 1, 2, none⟩ = some (.int .i64 0) := by rw [hc _ _ (by simp <;> omega)]; simp [go_sem]
  have e3 : w1.cell? ⟨w.heap.size + 1, 3, none⟩ = some (.int .i64 0) := by rw [hc _ _ (by simp <;> omega)]; simp [go_sem]
  have e4 : w1.cell? ⟨w.heap.size + 1, 4, none⟩ = some (.int .i64 0) := by rw [hc _ _ (by simp <;> omega)]; simp [go_sem]
  have e5 : w1.cell? ⟨w.heap.size + 1, 5, none⟩ = some (.bool false) := by rw [hc _ _ (by simp <;> omega)]; simp [go_sem]
  obtain ⟨t0, t1, t2, t3, t4, t5⟩ := set6 e0 e1 e2 e3 e4 e5 (.int .i64 (c0 * m)) (.int .i64 (c1 * m)) (.int .i64 (c2 * m)) (.int .i64 (c3 * m)) (.int .i64 (b * m)) (.bool true)
  clear hd p1 p2 h0 h1 h2 h3 hb hm hp hc hf
  refine bodyPost_ret (v := .agg #[.int .i64 (c0 * m), .int .i64 (c1 * m), .int .i64 (c2 * m), .int .i64 (c3 * m), .int .i64 (b * m), .bool true]) (by simp [results, Try.results94, go_sem, t0, t1, t2, t3, t4, t5]) rfl ⟨rfl, ?_⟩
  (repeat first | with_reducible exact Below.refl _ _ | with_reducible assumption | with_reducible refine Below.drew ?_ | with_reducible refine bdn ?_ _ | with_reducible refine bal ?_ _ | (with_reducible refine bst ?_ ?_ _; rotate_left; (simp <;> omega)) | (with_reducible refine btr ?_ (by with_reducible assumption)))
set_option maxRecDepth 100000 in
set_option maxHeartbeats 1000000 in
theorem wtimes_nil (c0 c1 c2 c3 b m : Int) (w : World) (h0 : -1000000 ≤ c0 ∧ c0 ≤ 1000000) (h1 : -1000000 ≤ c1 ∧ c1 ≤ 1000000) (h2 : -1000000 ≤ c2 ∧ c2 ≤ 1000000) (h3 : -1000000 ≤ c3 ∧ c3 ≤ 1000000) (hb : -1000000 ≤ b ∧ b ≤ 1000000) (hm : 0 ≤ m ∧ m ≤ 1000000) (hp : ¬ 0 < m) :
    Calls Try.prog 94 #[.agg #[.int .i64 c0, .int .i64 c1, .int .i64 c2, .int .i64 c3, .int .i64 b, .bool true], .int .i64 m] w fun e w' => e = .returned (.agg #[.int .i64 (c0 * m), .int .i64 (c1 * m), .int .i64 (c2 * m), .int .i64 (c3 * m), .int .i64 (b * m), .bool false]) ∧ Below w.heap.size w w' := by
  obtain ⟨p1, p2⟩ := mul_bd6 hb (y := m) (by omega)
  have hd : decide (0 < m) = false := by simpa using hp
  go_enter Try.func94, Try.ntmps94
  go_wp2
  have gc := @gro_cell ((w.alloc (.cells #[.int .i64 c0, .int .i64 c1, .int .i64 c2, .int .i64 c3, .int .i64 b, .bool true] 90)).alloc (.cells #[.int .i64 0, .int .i64 0, .int .i64 0, .int .i64 0, .int .i64 0, .bool false] 90))
  refine region_grow_tail 15 (by kernel_rfl) (by kernel_rfl) ?_; simp only [List.take_succ_cons, List.take_zero, List.drop_succ_cons, List.drop_zero]; (repeat (go_big_quiet_step ((go_at_call 126; exact grow_call _ (ctimes_any _ _ _ _ _ _ h0 h1 h2 h3 (by omega)))))); refine wpQuiet_nil ?_
  intro w1 hq
  clear gc
  obtain ⟨hc, hf⟩ := bcell hq
  go_wp2
  have e0 : w1.cell? ⟨w.heap.size + 1, 0, none⟩ = some (.int .i64 0) := by rw [hc _ _ (by simp <;> omega)]; simp [go_sem]
  have e1 : w1.cell? ⟨w.heap.size + 1, 1, none⟩ = some (.int .i64 0) := by rw [hc _ _ (by simp <;> omega)]; simp [go_sem]
  have e2 : w1.cell? ⟨w.heap.size + 1, 2, none⟩ = some (.int .i64 0) := by rw [hc _ _ (by simp <;> omega)]; simp [go_sem]
  have e3 : w1.cell? ⟨w.heap.size + 1, 3, none⟩ = some (.int .i64 0) := by rw [hc _ _ (by simp <;> omega)]; simp [go_sem]
  have e4 : w1.cell? ⟨w.heap.size + 1, 4, none⟩ = some (.int .i64 0) := by rw [hc _ _ (by simp <;> omega)]; simp [go_sem]
  have e5 : w1.cell? ⟨w.heap.size + 1, 5, none⟩ = some (.bool false) := by rw [hc _ _ (by simp <;> omega)]; simp [go_sem]
  obtain ⟨t0, t1, t2, t3, t4, t5⟩ := set6 e0 e1 e2 e3 e4 e5 (.int .i64 (c0 * m)) (.int .i64 (c1 * m)) (.int .i64 (c2 * m)) (.int .i64 (c3 * m)) (.int .i64 (b * m)) (.bool false)
  clear hd p1 p2 h0 h1 h2 h3 hb hm hp hc hf
  refine bodyPost_ret (v := .agg #[.int .i64 (c0 * m), .int .i64 (c1 * m), .int .i64 (c2 * m), .int .i64 (c3 * m), .int .i64 (b * m), .bool false]) (by simp [results, Try.results94, go_sem, t0, t1, t2, t3, t4, t5]) rfl ⟨rfl, ?_⟩
  (repeat first | with_reducible exact Below.refl _ _ | with_reducible assumption | with_reducible refine Below.drew ?_ | with_reducible refine bdn ?_ _ | with_reducible refine bal ?_ _ | (with_reducible refine bst ?_ ?_ _; rotate_left; (simp <;> omega)) | (with_reducible refine btr ?_ (by with_reducible assumption)))
theorem wtimes_any (c0 c1 c2 c3 b m : Int) (s : Bool) (w : World) (h0 : -1000000 ≤ c0 ∧ c0 ≤ 1000000) (h1 : -1000000 ≤ c1 ∧ c1 ≤ 1000000) (h2 : -1000000 ≤ c2 ∧ c2 ≤ 1000000) (h3 : -1000000 ≤ c3 ∧ c3 ≤ 1000000) (hb : -1000000 ≤ b ∧ b ≤ 1000000) (hm : 0 ≤ m ∧ m ≤ 1000000) :
    Calls Try.prog 94 #[.agg #[.int .i64 c0, .int .i64 c1, .int .i64 c2, .int .i64 c3, .int .i64 b, .bool s], .int .i64 m] w fun e w' => e = .returned (.agg #[.int .i64 (c0 * m), .int .i64 (c1 * m), .int .i64 (c2 * m), .int .i64 (c3 * m), .int .i64 (b * m), .bool (s && decide (0 < m))]) ∧ Below w.heap.size w w' := by
  cases s
  · exact wtimes_no c0 c1 c2 c3 b m w h0 h1 h2 h3 hb hm
  · by_cases hp : 0 < m
    · rw [decide_eq_true hp]; exact wtimes_yes c0 c1 c2 c3 b m w h0 h1 h2 h3 hb hm hp
    · rw [decide_eq_false hp]; exact wtimes_nil c0 c1 c2 c3 b m w h0 h1 h2 h3 hb hm hp
end Go.Proofs.Ytbdmofmoegmigaa
