/- Contract of the program's fold over two wide constraints. -/
import Derived.Test.YtplocljoanaoeaaBL
import Derived.Test.YtplocljoanaoeaaBT
namespace Go.Proofs.Ytplocljoanaoeaa
set_option linter.unusedVariables false
set_option linter.unusedSimpArgs false
open Go.RowKit
theorem wplus_zero (d0 d1 d2 d3 d : Int) (u : Bool) (w : World) (k0 : -1000000000000 ≤ d0 ∧ d0 ≤ 1000000000000) (k1 : -1000000000000 ≤ d1 ∧ d1 ≤ 1000000000000) (k2 : -1000000000000 ≤ d2 ∧ d2 ≤ 1000000000000) (k3 : -1000000000000 ≤ d3 ∧ d3 ≤ 1000000000000) (k : -1000000000000 ≤ d ∧ d ≤ 1000000000000) :
    Calls Try.prog 75 #[.agg #[.int .i64 0, .int .i64 0, .int .i64 0, .int .i64 0, .int .i64 0, .bool false], .agg #[.int .i64 d0, .int .i64 d1, .int .i64 d2, .int .i64 d3, .int .i64 d, .bool u]] w fun e w' => e = .returned (.agg #[.int .i64 d0, .int .i64 d1, .int .i64 d2, .int .i64 d3, .int .i64 d, .bool u]) ∧ Below w.heap.size w w' := by
  have h := wplus_any 0 0 0 0 0 d0 d1 d2 d3 d false u w (by omega) (by omega) (by omega) (by omega) (by omega) k0 k1 k2 k3 k
  simp only [Int.zero_add, Bool.false_or] at h
  exact h
/-- w2 is w1 but for stores to block p -/
structure Sto (p : Nat) (w1 w2 : World) : Prop where
  os : w2.os = w1.os
  tape : w2.tape = w1.tape
  output : w2.output = w1.output
  size : w2.heap.size = w1.heap.size
  block : ∀ k, k ≠ p → w2.heap[k]? = w1.heap[k]?
  frozen : ∀ b o, w2.frozen? ⟨b, o, none⟩ = w1.frozen? ⟨b, o, none⟩
theorem Sto.refl (p : Nat) (w : World) : Sto p w w := ⟨rfl, rfl, rfl, rfl, fun _ _ => rfl, fun _ _ => rfl⟩
theorem Sto.set {p : Nat} {w1 w2 : World} (h : Sto p w1 w2) (o : Nat) (v : Value) : Sto p w1 (w2.setCell ⟨p, o, none⟩ v) :=
  ⟨h.os, h.tape, h.output, by simpa [World.setCell] using h.size, fun k hk => (Below.heap_setCell w2 ⟨p, o, none⟩ v k hk).trans (h.block k hk), fun b q => by rw [← h.frozen b q]; simp [go_sem]⟩
theorem Sto.cell {p : Nat} {w1 w2 : World} (h : Sto p w1 w2) {b o : Nat} {v : Value} (hb : b ≠ p) (hc : w1.cell? ⟨b, o, none⟩ = some v) : w2.cell? ⟨b, o, none⟩ = some v :=
  (World.cell?_of_block (w := w1) (a := ⟨b, o, none⟩) (h.block b hb)).trans hc
theorem Sto.below {p B : Nat} {a w1 w2 : World} (h : Sto p w1 w2) (hB : B ≤ p) (hq : Below B a w1) : Below B a w2 :=
  ⟨h.os.trans hq.os, h.tape.trans hq.tape, h.output.trans hq.output, by rw [h.size]; exact hq.size, fun k hk => (h.block k (by omega)).trans (hq.block k hk)⟩
theorem Sto.froz {p : Nat} {w1 w2 : World} (h : Sto p w1 w2) {b o : Nat} {v : Bool} (hc : w1.frozen? ⟨b, o, none⟩ = v) : w2.frozen? ⟨b, o, none⟩ = v := (h.frozen b o).trans hc
set_option maxRecDepth 100000 in
set_option maxHeartbeats 2000000 in
theorem fold_any (g : Nat) (x0 x1 x2 x3 x y0 y1 y2 y3 y : Int) (s u : Bool) (w : World) (hg : g < w.heap.size)
    (c0 : w.cell? ⟨g, 0, none⟩ = some (.int .i64 x0)) (c1 : w.cell? ⟨g, 1, none⟩ = some (.int .i64 x1)) (c2 : w.cell? ⟨g, 2, none⟩ = some (.int .i64 x2)) (c3 : w.cell? ⟨g, 3, none⟩ = some (.int .i64 x3)) (c4 : w.cell? ⟨g, 4, none⟩ = some (.int .i64 x)) (c5 : w.cell? ⟨g, 5, none⟩ = some (.bool s))
    (c6 : w.cell? ⟨g, 6, none⟩ = some (.int .i64 y0)) (c7 : w.cell? ⟨g, 7, none⟩ = some (.int .i64 y1)) (c8 : w.cell? ⟨g, 8, none⟩ = some (.int .i64 y2)) (c9 : w.cell? ⟨g, 9, none⟩ = some (.int .i64 y3)) (c10 : w.cell? ⟨g, 10, none⟩ = some (.int .i64 y)) (c11 : w.cell? ⟨g, 11, none⟩ = some (.bool u))
    (h0 : -1000000000000 ≤ x0 ∧ x0 ≤ 1000000000000) (h1 : -1000000000000 ≤ x1 ∧ x1 ≤ 1000000000000) (h2 : -1000000000000 ≤ x2 ∧ x2 ≤ 1000000000000) (h3 : -1000000000000 ≤ x3 ∧ x3 ≤ 1000000000000) (h : -1000000000000 ≤ x ∧ x ≤ 1000000000000)
    (k0 : -1000000000000 ≤ y0 ∧ y0 ≤ 1000000000000) (k1 : -1000000000000 ≤ y1 ∧ y1 ≤ 1000000000000) (k2 : -1000000000000 ≤ y2 ∧ y2 ≤ 1000000000000) (k3 : -1000000000000 ≤ y3 ∧ y3 ≤ 1000000000000) (k : -1000000000000 ≤ y ∧ y ≤ 1000000000000) :
    Calls Try.prog 74 #[.slice (some ⟨g, 0, none⟩) 2 2, .agg #[.int .i64 0, .int .i64 0, .int .i64 0, .int .i64 0, .int .i64 0, .bool false], .func (.func 75) #[] #[]] w fun e w' =>
      e = .returned (.agg #[.int .i64 (x0 + y0), .int .i64 (x1 + y1), .int .i64 (x2 + y2), .int .i64 (x3 + y3), .int .i64 (x + y), .bool (s || u)]) ∧ Below w.heap.size w w' := by
  have ca := fun (W : World) (o : Obj) (p : Nat) (h : g < W.heap.size) => World.cell?_alloc_lt W o ⟨g, p, none⟩ h
  have hg1 : g < w.heap.size + 1 := by omega
  have hg2 : g < w.heap.size + 1 + 1 := by omega
  go_enter Try.func74, Try.ntmps74
  go_wp2
  refine wp_loop_rounds 3 ?_
  rw [rounds_succ]
  go_wp2_with fail
  refine (wplus_zero _ _ _ _ _ _ _ h0 h1 h2 h3 h).mono ?_
  rintro e w1 ⟨rfl, hq⟩
  obtain ⟨hc, hf⟩ := bcell hq
  have q1 := btr (bal (bal (bal (Below.refl w.heap.size w) _) _) _) hq
  have e0 : w1.cell? ⟨w.heap.size, 0, none⟩ = some (.int .i64 0) := by rw [hc _ _ (by simp <;> omega)]; simp [go_sem]
  have e1 : w1.cell? ⟨w.heap.size, 1, none⟩ = some (.int .i64 0) := by rw [hc _ _ (by simp <;> omega)]; simp [go_sem]
  have e2 : w1.cell? ⟨w.heap.size, 2, none⟩ = some (.int .i64 0) := by rw [hc _ _ (by simp <;> omega)]; simp [go_sem]
  have e3 : w1.cell? ⟨w.heap.size, 3, none⟩ = some (.int .i64 0) := by rw [hc _ _ (by simp <;> omega)]; simp [go_sem]
  have e4 : w1.cell? ⟨w.heap.size, 4, none⟩ = some (.int .i64 0) := by rw [hc _ _ (by simp <;> omega)]; simp [go_sem]
  have e5 : w1.cell? ⟨w.heap.size, 5, none⟩ = some (.bool false) := by rw [hc _ _ (by simp <;> omega)]; simp [go_sem]
  have r0 : w1.cell? ⟨w.heap.size + 1, 0, none⟩ = some (.int .i64 0) := by rw [hc _ _ (by simp <;> omega)]; simp [go_sem]
  have r1 : w1.cell? ⟨w.heap.size + 1, 1, none⟩ = some (.int .i64 0) := by rw [hc _ _ (by simp <;> omega)]; simp [go_sem]
  have r2 : w1.cell? ⟨w.heap.size + 1, 2, none⟩ = some (.int .i64 0) := by rw [hc _ _ (by simp <;> omega)]; simp [go_sem]
  have r3 : w1.cell? ⟨w.heap.size + 1, 3, none⟩ = some (.int .i64 0) := by rw [hc _ _ (by simp <;> omega)]; simp [go_sem]
  have r4 : w1.cell? ⟨w.heap.size + 1, 4, none⟩ = some (.int .i64 0) := by rw [hc _ _ (by simp <;> omega)]; simp [go_sem]
  have r5 : w1.cell? ⟨w.heap.size + 1, 5, none⟩ = some (.bool false) := by rw [hc _ _ (by simp <;> omega)]; simp [go_sem]
  have fz : ∀ o, w1.frozen? ⟨w.heap.size, o, none⟩ = false := fun o => by rw [hf _ _ (by simp <;> omega)]; simp [go_sem]
  have fr : ∀ o, w1.frozen? ⟨w.heap.size + 1, o, none⟩ = false := fun o => by rw [hf _ _ (by simp <;> omega)]; simp [go_sem]
  replace c6 := carry q1 c6
  replace c7 := carry q1 c7
  replace c8 := carry q1 c8
  replace c9 := carry q1 c9
  replace c10 := carry q1 c10
  replace c11 := carry q1 c11
  clear hc hf hq c0 c1 c2 c3 c4 c5 ca hg1 hg2
  have H0 := hid (And.intro h0 (And.intro h1 (And.intro h2 (And.intro h3 h))))
  have K0 := hid (And.intro k0 (And.intro k1 (And.intro k2 (And.intro k3 k))))
  clear h0 h1 h2 h3 h k0 k1 k2 k3 k
  go_wp2_with fail
  obtain ⟨t0, t1, t2, t3, t4, t5⟩ := set6 e0 e1 e2 e3 e4 e5 (.int .i64 x0) (.int .i64 x1) (.int .i64 x2) (.int .i64 x3) (.int .i64 x) (.bool s)
  have hS := (((((((Sto.refl w.heap.size w1).set 0 (.int .i64 x0)).set 1 (.int .i64 x1)).set 2 (.int .i64 x2)).set 3 (.int .i64 x3)).set 4 (.int .i64 x)).set 5 (.bool s))
  generalize (((((w1.setCell ⟨w.heap.size, 0, none⟩ (.int .i64 x0)).setCell ⟨w.heap.size, 1, none⟩ (.int .i64 x1)).setCell ⟨w.heap.size, 2, none⟩ (.int .i64 x2)).setCell ⟨w.heap.size, 3, none⟩ (.int .i64 x3)).setCell ⟨w.heap.size, 4, none⟩ (.int .i64 x)).setCell ⟨w.heap.size, 5, none⟩ (.bool s) = w2 at *
  have hgp : g ≠ w.heap.size := by omega
  replace c6 := hS.cell hgp c6
  replace c7 := hS.cell hgp c7
  replace c8 := hS.cell hgp c8
  replace c9 := hS.cell hgp c9
  replace c10 := hS.cell hgp c10
  replace c11 := hS.cell hgp c11
  replace r0 := hS.cell (by omega) r0
  replace r1 := hS.cell (by omega) r1
  replace r2 := hS.cell (by omega) r2
  replace r3 := hS.cell (by omega) r3
  replace r4 := hS.cell (by omega) r4
  replace r5 := hS.cell (by omega) r5
  replace q1 := hS.below (Nat.le_refl _) q1
  replace fz := fun o => hS.froz (fz o)
  replace fr := fun o => hS.froz (fr o)
  clear e0 e1 e2 e3 e4 e5 hS
  have hz0 : w.heap.size < w2.heap.size := cell_lt t0
  have ca := fun (x : Obj) (b o : Nat) (h : b < w2.heap.size) => World.cell?_alloc_lt w2 x ⟨b, o, none⟩ h
  rw [rounds_succ]
  go_wp2_with fail
  obtain ⟨⟨a0, a1, a2, a3, a4⟩, b0, b1, b2, b3, b4⟩ := And.intro H0.out K0.out
  refine (wplus_any _ _ _ _ _ _ _ _ _ _ _ _ _ a0 a1 a2 a3 a4 b0 b1 b2 b3 b4).mono ?_
  clear a0 a1 a2 a3 a4 b0 b1 b2 b3 b4
  rintro e w3 ⟨rfl, hq⟩
  clear ca c6 c7 c8 c9 c10 c11
  have q3 := btr (bal (Below.refl w2.heap.size w2) _) hq
  replace q1 := btr q1 q3
  replace fz := fun o => carryf q3 (fz o) hz0
  have hz1 : w.heap.size + 1 < w2.heap.size := cell_lt r0
  replace fr := fun o => carryf q3 (fr o) hz1
  replace t0 := carry q3 t0
  replace t1 := carry q3 t1
  replace t2 := carry q3 t2
  replace t3 := carry q3 t3
  replace t4 := carry q3 t4
  replace t5 := carry q3 t5
  replace r0 := carry q3 r0
  replace r1 := carry q3 r1
  replace r2 := carry q3 r2
  replace r3 := carry q3 r3
  replace r4 := carry q3 r4
  replace r5 := carry q3 r5
  clear hq q3 hz0 hz1
  go_wp2_with fail
  obtain ⟨v0, v1, v2, v3, v4, v5⟩ := set6 t0 t1 t2 t3 t4 t5 (.int .i64 (x0 + y0)) (.int .i64 (x1 + y1)) (.int .i64 (x2 + y2)) (.int .i64 (x3 + y3)) (.int .i64 (x + y)) (.bool (or s u))
  have hS := (((((((Sto.refl w.heap.size w3).set 0 (.int .i64 (x0 + y0))).set 1 (.int .i64 (x1 + y1))).set 2 (.int .i64 (x2 + y2))).set 3 (.int .i64 (x3 + y3))).set 4 (.int .i64 (x + y))).set 5 (.bool (s || u)))
  generalize (((((w3.setCell ⟨w.heap.size, 0, none⟩ (.int .i64 (x0 + y0))).setCell ⟨w.heap.size, 1, none⟩ (.int .i64 (x1 + y1))).setCell ⟨w.heap.size, 2, none⟩ (.int .i64 (x2 + y2))).setCell ⟨w.heap.size, 3, none⟩ (.int .i64 (x3 + y3))).setCell ⟨w.heap.size, 4, none⟩ (.int .i64 (x + y))).setCell ⟨w.heap.size, 5, none⟩ (.bool (s || u)) = w4 at *
  replace r0 := hS.cell (by omega) r0
  replace r1 := hS.cell (by omega) r1
  replace r2 := hS.cell (by omega) r2
  replace r3 := hS.cell (by omega) r3
  replace r4 := hS.cell (by omega) r4
  replace r5 := hS.cell (by omega) r5
  replace q1 := hS.below (Nat.le_refl _) q1
  replace fr := fun o => hS.froz (fr o)
  clear t0 t1 t2 t3 t4 t5 fz hS
  rw [rounds_succ]
  go_wp2_with fail
  obtain ⟨u0, u1, u2, u3, u4, u5⟩ := set6 r0 r1 r2 r3 r4 r5 (.int .i64 (x0 + y0)) (.int .i64 (x1 + y1)) (.int .i64 (x2 + y2)) (.int .i64 (x3 + y3)) (.int .i64 (x + y)) (.bool (or s u))
  refine bodyPost_ret (v := .agg #[.int .i64 (x0 + y0), .int .i64 (x1 + y1), .int .i64 (x2 + y2), .int .i64 (x3 + y3), .int .i64 (x + y), .bool (s || u)]) (by simp [results, Try.results74, go_sem, u0, u1, u2, u3, u4, u5]) rfl ⟨rfl, ?_⟩
  clear v0 v1 v2 v3 v4 v5 u0 u1 u2 u3 u4 u5 r0 r1 r2 r3 r4 r5 fr
  (repeat first | with_reducible exact Below.refl _ _ | with_reducible assumption | with_reducible refine Below.drew ?_ | with_reducible refine bdn ?_ _ | with_reducible refine bal ?_ _ | (with_reducible refine bst ?_ ?_ _; rotate_left; (simp <;> omega)) | (with_reducible refine btr ?_ (by with_reducible assumption)))
end Go.Proofs.Ytplocljoanaoeaa
