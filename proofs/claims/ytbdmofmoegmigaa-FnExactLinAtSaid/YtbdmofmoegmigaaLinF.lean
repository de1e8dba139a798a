/- Contract of the program's Lin.wide: a constraint as a row of its own, and whether it is valid. -/
import Derived.Test.YtbdmofmoegmigaaLinE
namespace Go.Proofs.Ytbdmofmoegmigaa
set_option linter.unusedVariables false
set_option linter.unusedSimpArgs false
open Go.RowKit
theorem rng_ok (Z : Nat → Int) (b : Int) : rngB (Z 0) (Z 1) (Z 2) (Z 3) b = okL 4 Z b := by
  unfold rngB
  cases e : okL 4 Z b
  · cases h : (inC (Z 0) && inC (Z 1) && inC (Z 2) && inC (Z 3) && inC b)
    · rfl
    · simp only [Bool.and_eq_true] at h
      obtain ⟨⟨⟨⟨h0, h1⟩, h2⟩, h3⟩, h4⟩ := h
      rw [okL_iff.2 ⟨rfl, fun k hk => by have : k = 0 ∨ k = 1 ∨ k = 2 ∨ k = 3 := by omega
                                         rcases this with rfl | rfl | rfl | rfl <;> assumption, h4⟩] at e
      cases e
  · obtain ⟨_, h1, h2⟩ := okL_iff.1 e
    rw [h1 0 (by omega), h1 1 (by omega), h1 2 (by omega), h1 3 (by omega), h2]; rfl
set_option maxRecDepth 100000 in
theorem wide_no (A : Option Addr) (n c : Nat) (b : Int) (s : Bool) (w : World) (hn : n ≤ 9223372036854775807) (h : n ≠ 4) :
    Calls Try.prog 84 #[.agg #[.slice A n c, .int .i64 b, .bool s]] w fun e w' => e = .returned (.tuple #[.agg #[.int .i64 0, .int .i64 0, .int .i64 0, .int .i64 0, .int .i64 0, .bool false], .bool false]) ∧ Below w.heap.size w w' := by
  have hd : ((n : Int) != 4) = true := by simp; omega
  have h0 := hid h; clear h
  go_enter Try.func84, Try.ntmps84
  go_wp2
  refine bodyPost_ret (v := .tuple #[.agg #[.int .i64 0, .int .i64 0, .int .i64 0, .int .i64 0, .int .i64 0, .bool false], .bool false]) (by simp [results, Try.results84, go_sem]) rfl ⟨rfl, ?_⟩
  (repeat first | with_reducible exact Below.refl _ _ | with_reducible assumption | with_reducible refine Below.drew ?_ | with_reducible refine bdn ?_ _ | with_reducible refine bal ?_ _ | (with_reducible refine bst ?_ ?_ _; rotate_left; (simp <;> omega)) | (with_reducible refine btr ?_ (by with_reducible assumption)))
set_option maxRecDepth 100000 in
set_option maxHeartbeats 2000000 in
theorem wide_yes (g off c : Nat) (z0 z1 z2 z3 b : Int) (s : Bool) (w : World) (hg : g < w.heap.size) (c0 : w.cell? ⟨g, off, none⟩ = some (.int .i64 z0)) (c1 : w.cell? ⟨g, off + 1, none⟩ = some (.int .i64 z1)) (c2 : w.cell? ⟨g, off + 2, none⟩ = some (.int .i64 z2)) (c3 : w.cell? ⟨g, off + 3, none⟩ = some (.int .i64 z3)) :
    Calls Try.prog 84 #[.agg #[.slice (some ⟨g, off, none⟩) 4 c, .int .i64 b, .bool s]] w fun e w' => e = .returned (.tuple #[.agg #[.int .i64 z0, .int .i64 z1, .int .i64 z2, .int .i64 z3, .int .i64 b, .bool s], .bool (rngB z0 z1 z2 z3 b)]) ∧ Below w.heap.size w w' := by
  have ca := fun (W : World) (x : Obj) (o : Nat) (h : g < W.heap.size) => World.cell?_alloc_lt W x ⟨g, o, none⟩ h
  have hg1 : g < w.heap.size + 1 := by omega
  have hg2 : g < w.heap.size + 1 + 1 := by omega
  go_enter Try.func84, Try.ntmps84
  go_wp2
  refine wp_loop_rounds 5 ?_
  rw [rounds_succ]
  go_wp2
  rw [rounds_succ]
  go_wp2
  rw [rounds_succ]
  go_wp2
  rw [rounds_succ]
  go_wp2
  rw [rounds_succ]
  go_wp2
  clear ca hg1 hg2 c0 c1 c2 c3 hg
  have gc := @gro_cell (((w.alloc (.cells #[.slice (some ⟨g, off, none⟩) 4 c, .int .i64 b, .bool s] 25)).alloc (.cells #[.int .i64 0, .int .i64 0, .int .i64 0, .int .i64 0, .int .i64 0, .bool false] 90)).alloc (.cells #[.int .i64 z0, .int .i64 z1, .int .i64 z2, .int .i64 z3, .int .i64 b, .bool s] 90))
  refine region_grow_tail 3 (by kernel_rfl) (by kernel_rfl) ?_; simp only [List.take_succ_cons, List.take_zero, List.drop_succ_cons, List.drop_zero]; (repeat (go_big_quiet_step ((go_at_call 125; exact grow_call _ (inrange_any _ _ _ _ _ _ _))))); refine wpQuiet_nil ?_
  intro w1 hq
  clear gc
  obtain ⟨hc, hf⟩ := bcell hq
  go_wp2
  have e0 : w1.cell? ⟨w.heap.size + 1, 0, none⟩ = some (.int .i64 0) := by rw [hc _ _ (by simp <;> omega)]; simp [go_sem]
  have e1 : w1.cell? ⟨w.heap.size + 1, 1, none⟩ = some (.int .i64 0) := by rw [hc _ _ (by simp <;> omega)]; simp [go_sem]
  have e2 : w1.cell? ⟨w.heap.size + 1, 2, none⟩ = some (.int .i64 0) := by rw [hc _ _ (by simp <;> omega)]; simp [go_sem]
  have e3 : w1.cell? ⟨w.heap.size + 1, 3, none⟩ = some (.int .i64 0) := by rw [hc _ _ (by simp <;> omega)]; simp [go_sem]
  have e4 : w1.cell? ⟨w.heap.size + 1, 4, none⟩ = some (.int .i64 0) := by rw [hc _ _ (by simp <;> omega)]; simp [go_sem]
  have e5 : w1.cell? ⟨w.heap.size + 1, 5, none⟩ = some (.bool false) := by rw [hc _ _ (by simp <;> omega)]; simp [go_sem]
  obtain ⟨t0, t1, t2, t3, t4, t5⟩ := set6 e0 e1 e2 e3 e4 e5 (.int .i64 z0) (.int .i64 z1) (.int .i64 z2) (.int .i64 z3) (.int .i64 b) (.bool s)
  clear hc hf
  refine bodyPost_ret (v := .tuple #[.agg #[.int .i64 z0, .int .i64 z1, .int .i64 z2, .int .i64 z3, .int .i64 b, .bool s], .bool (rngB z0 z1 z2 z3 b)]) (by simp [results, Try.results84, go_sem, t0, t1, t2, t3, t4, t5]) rfl ⟨rfl, ?_⟩
  (repeat first | with_reducible exact Below.refl _ _ | with_reducible assumption | with_reducible refine Below.drew ?_ | with_reducible refine bdn ?_ _ | with_reducible refine bal ?_ _ | (with_reducible refine bst ?_ ?_ _; rotate_left; (simp <;> omega)) | (with_reducible refine btr ?_ (by with_reducible assumption)))
/-- at a row that reads as Z: the numbers, and whether it is valid -/
def wideV (n : Nat) (Z : Nat → Int) (b : Int) (s : Bool) : Array Value := if n = 4 then #[.int .i64 (Z 0), .int .i64 (Z 1), .int .i64 (Z 2), .int .i64 (Z 3), .int .i64 b, .bool s] else #[.int .i64 0, .int .i64 0, .int .i64 0, .int .i64 0, .int .i64 0, .bool false]
theorem wide_at (A : Option Addr) (n c : Nat) (Z : Nat → Int) (b : Int) (s : Bool) (w : World) (hn : n ≤ 9223372036854775807) (hA : Ints w A n Z) :
    Calls Try.prog 84 #[.agg #[.slice A n c, .int .i64 b, .bool s]] w fun e w' => e = .returned (.tuple #[.agg (wideV n Z b s), .bool (okL n Z b)]) ∧ Below w.heap.size w w' := by
  by_cases h : n = 4
  · subst h
    rcases hA with h0 | ⟨g, off, rfl, hg, hc⟩
    · omega
    · unfold wideV; rw [if_pos rfl, ← rng_ok]
      exact wide_yes g off c _ _ _ _ b s w hg (hc 0 (by omega)) (hc 1 (by omega)) (hc 2 (by omega)) (hc 3 (by omega))
  · unfold wideV; rw [if_neg h, okL_len h]
    exact wide_no A n c b s w hn h
theorem wide_v4 {n : Nat} {Z : Nat → Int} {b : Int} {s : Bool} (h : okL n Z b = true) : wideV n Z b s = #[.int .i64 (Z 0), .int .i64 (Z 1), .int .i64 (Z 2), .int .i64 (Z 3), .int .i64 b, .bool s] := by
  unfold wideV; rw [if_pos (okL_iff.1 h).1]
theorem wideV_six (n : Nat) (Z : Nat → Int) (b : Int) (s : Bool) : ∃ x0 x1 x2 x3 x4 : Int, ∃ u : Bool, wideV n Z b s = #[.int .i64 x0, .int .i64 x1, .int .i64 x2, .int .i64 x3, .int .i64 x4, .bool u] := by
  unfold wideV; by_cases h : n = 4
  · rw [if_pos h]; exact ⟨_, _, _, _, _, _, rfl⟩
  · rw [if_neg h]; exact ⟨_, _, _, _, _, _, rfl⟩
end Go.Proofs.Ytbdmofmoegmigaa
