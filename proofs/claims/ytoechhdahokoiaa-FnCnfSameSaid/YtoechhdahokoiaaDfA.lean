/- DrawCnfUnits and DrawCnfRup. -/
import Derived.Test.YtoechhdahokoiaaDeC
import Derived.Test.YtoechhdahokoiaaCfE
namespace Go.Proofs.Ytoechhdahokoiaa
set_option linter.unusedVariables false
set_option linter.unusedSimpArgs false
open Go.RowKit
def zs4U : List Int := [1, 0, 1, 2]
theorem row4U (w : World) (t : TypeId) : ∀ k, k < zs4U.length → (w.alloc (.cells #[.int .i64 1, .int .i64 0, .int .i64 1, .int .i64 2] t)).cell? ⟨w.heap.size, k, none⟩ = some (.int .i64 (zs4U.getD k 0)) := by
  intro k hk
  simp only [zs4U, List.length_cons, List.length_nil] at hk
  have hk' : k = 0 ∨ k = 1 ∨ k = 2 ∨ k = 3 := by omega
  rcases hk' with rfl | rfl | rfl | rfl <;> simp [go_sem, zs4U]
theorem in4U {y : Int} (h : y ∈ zs4U) : 0 ≤ y ∧ y ≤ 2 := by simp [zs4U] at h; omega
def zs4R : List Int := [1, 2, 0, 3]
theorem row4R (w : World) (t : TypeId) : ∀ k, k < zs4R.length → (w.alloc (.cells #[.int .i64 1, .int .i64 2, .int .i64 0, .int .i64 3] t)).cell? ⟨w.heap.size, k, none⟩ = some (.int .i64 (zs4R.getD k 0)) := by
  intro k hk
  simp only [zs4R, List.length_cons, List.length_nil] at hk
  have hk' : k = 0 ∨ k = 1 ∨ k = 2 ∨ k = 3 := by omega
  rcases hk' with rfl | rfl | rfl | rfl <;> simp [go_sem, zs4R]
theorem in4R {y : Int} (h : y ∈ zs4R) : 0 ≤ y ∧ y ≤ 3 := by simp [zs4R] at h; omega
/-- drawn clauses and drawn literals -/
def DCuP (b : Nat) (w : World) (e : Ending) (w' : World) : Prop :=
  ∃ m A c ds D d, ∃ l : List Int, e = .returned (.tuple #[.agg #[.int .i64 m, .slice A ds.length c], .slice D l.length d]) ∧ -1 ≤ m ∧ m ≤ 61 ∧ ds.length ≤ 14 ∧ l.length ≤ b ∧ l.length ≤ d ∧ CapC A ds.length c ∧ IntSS w' A ds.length (llsC ds) ∧ (∀ k, k < ds.length → (llsC ds).N k ≤ 61) ∧ Ints w' D l.length (fun k => l.getD k 0) ∧ Below w.heap.size w w'
set_option maxRecDepth 100000 in
set_option maxHeartbeats 4000000 in
theorem drawcnfunits_any (B : Nat) (w : World) (a : Option Addr) (len cap : Nat) (hB : B ≤ w.heap.size) (hby : Bytes B w a len) (hlc : len ≤ cap) (hc : cap ≤ 9223372036854775807) :
    Calls Try.prog 18 #[.slice a len cap] w (DCuP 3 w) := by
  have hO := open_any B (w.alloc (.cells #[.int .i64 0, .slice none 0 0] 25)) a len cap (by simp <;> omega) (hby.alloc _) hlc hc
  have rb := row2_newC w (.int .i64 0) (.slice none 0 0) 25
  have q0 := bal (Below.refl w.heap.size w) (.cells #[.int .i64 0, .slice none 0 0] 25)
  go_enter Try.func18, Try.ntmps18
  go_wp2_with fail
  refine hO.mono ?_
  rintro e w1 ⟨g, rfl, hb, hR, hg⟩
  clear hO
  have hgs : w.heap.size + 1 ≤ g := by simpa using hg
  replace q0 := btr q0 hb
  have rb1 := rb.of_block (hb.block _ rb.lt)
  have hlt := hR.lt
  have hle := hR.le
  clear hb hg rb
  go_wp2_with fail
  refine (l10cnf_any B w1 g 0 hR (by omega)).mono ?_
  rintro e w2 ⟨m, A, c, ds, q, rfl, hm1, hm2, hdl, hc1, hc2, hCL, hg2, hR2, hq⟩
  have rb2 := row_growC rb1 hg2 (by omega)
  replace q0 := q0.grown hg2 q0.size (fun r hr => by cases hr; omega)
  have bx := row2_newC w2 (.int .i64 m) (.slice A ds.length c) 25
  have al := bal (Below.refl w2.heap.size w2) (.cells #[.int .i64 m, .slice A ds.length c] 25)
  have hz2 := hg2.size
  replace rb2 := rb2.alloc (.cells #[.int .i64 m, .slice A ds.length c] 25)
  replace hCL := hCL.below al
  replace q0 := btr q0 al
  replace hR2 := hR2.alloc (.cells #[.int .i64 m, .slice A ds.length c] 25)
  have hCap := own_capC hCL.1
  have hN61 : ∀ k, k < ds.length → (llsC ds).N k ≤ 61 := fun k hk => by
    have hm : ds.getD k default ∈ ds := by rw [List.getD_eq_getElem?_getD, List.getElem?_eq_getElem hk]; exact List.getElem_mem hk
    exact (hCL.2 _ hm).2.2
  clear hg2 hR rb1 al
  go_upto_region 3 with fail
  generalize w2.alloc (.cells #[.int .i64 m, .slice A ds.length c] 25) = w3 at *
  have b0 : w3.cell? ⟨w2.heap.size, 0, none⟩ = some (.int .i64 m) := bx.cell (i := 0) (by decide)
  have b1 : w3.cell? ⟨w2.heap.size, 1, none⟩ = some (.slice A ds.length c) := bx.cell (i := 1) (by decide)
  have hgd : w3.grownBy w3.drew (some g) := grow_of_below (Below.refl w3.heap.size w3).drew _
  have hRd : RD B w3.drew g q := hR2.below (Below.refl w3.heap.size w3).drew
  have hz3 := bx.lt
  refine region_planC (fun w' => w3.grownBy w' (some g)) (.takes [0, 1, 2, 3, 4] (.make 5 (.make 6 (.make 7 .fin)))) 8 rfl (by kernel_rfl) hgd ?_
  refine plan_takes ?_; simp only [pickOps, List.getElem?_cons_zero, List.getElem?_cons_succ]
  refine quiet_doC rfl (.agg #[.int .i64 m, .slice A ds.length c]) (fun w' hw' => by exact run_load2C rfl (by kernel_rfl) Try.underlying25 rfl (by kernel_rfl) (grow_cell hw' (by omega) b0) (grow_cell hw' (by omega) b1)) ?_
  refine quiet_doC rfl (.pointer (some ⟨g, 0, none⟩)) (fun _ _ => by kernel_rfl) ?_
  refine quiet_doC rfl (.pointer (some ⟨w2.heap.size, 0, none⟩)) (fun _ _ => by kernel_rfl) ?_
  refine quiet_doC rfl (.int .i64 m) (fun w' hw' => by exact run_loadI rfl (by kernel_rfl) Try.underlying3 rfl (grow_cell hw' (by omega) b0)) ?_
  refine quiet_doC rfl (.pointer (some ⟨g, 0, none⟩)) (fun _ _ => by kernel_rfl) ?_
  refine wpQuiet_nil ?_
  simp only [Act.put, List.setIfInBounds_toArray, List.set_cons_succ, List.set_cons_zero]
  have hx3 : w3.heap.size ≤ w3.drew.heap.size := hgd.size
  have hgx : w3.grownBy (w3.drew.alloc (.cells #[.int .i64 1, .int .i64 0, .int .i64 1, .int .i64 2] 3)) (some g) := grow_trans hgd (grow_alloc (grow_refl _ _) _)
  refine planC_val rfl rfl (.slice (some ⟨w3.drew.heap.size, 0, none⟩) 4 4) (w'' := w3.drew.alloc (.cells #[.int .i64 1, .int .i64 0, .int .i64 1, .int .i64 2] 3)) (by simp [execOp, go_sem]) hgx ?_
  simp only [Act.put, List.setIfInBounds_toArray, List.set_cons_succ, List.set_cons_zero]
  refine planC_call rfl rfl 42 #[.pointer (some ⟨g, 0, none⟩), .slice (some ⟨w3.drew.heap.size, 0, none⟩) 4 4] (by kernel_rfl) ?_
  refine (num_any B _ g q w3.drew.heap.size 4 4 zs4U (hRd.alloc _) (by omega) rfl (by simp [zs4U]) (by simp [zs4U]) (by have := hRd.lt; omega) (row4U w3.drew 3)).mono ?_
  rintro e wn ⟨y, hy, rfl, hgn, hRn⟩
  have hg3n := grow_trans hgx hgn
  refine ⟨_, rfl, hg3n, ?_⟩
  simp only [Act.put, List.setIfInBounds_toArray, List.set_cons_succ, List.set_cons_zero]
  obtain ⟨y0, y1⟩ := in4U hy
  obtain ⟨k, rfl⟩ : ∃ k : Nat, y = (k : Int) := ⟨y.toNat, by omega⟩
  refine planC_call rfl rfl 41 #[.pointer (some ⟨g, 0, none⟩), .int .i64 m, .int .i64 (k : Int)] (by kernel_rfl) ?_
  refine (l10marks_any B wn g _ m k hRn (by omega) ⟨by omega, by omega⟩ (by omega)).mono ?_
  rintro e w4 ⟨D, d, l, q2, rfl, hl, hM, hg4, _, _, hld⟩
  have hg34 := grow_trans hg3n hg4
  refine ⟨_, rfl, hg34, ?_⟩
  refine plan_fin ?_
  simp only [List.drop_succ_cons, List.drop_zero, Act.put, List.setIfInBounds_toArray, List.set_cons_succ, List.set_cons_zero]
  have rb4 := row_growC rb2 hg34 (by omega)
  have r0 : w4.cell? ⟨w.heap.size, 0, none⟩ = some (.int .i64 0) := rb4.cell (i := 0) (by decide)
  have r1 : w4.cell? ⟨w.heap.size, 1, none⟩ = some (.slice none 0 0) := rb4.cell (i := 1) (by decide)
  have f0 : w4.frozen? ⟨w.heap.size, 0, none⟩ = false := rb4.frozen 0
  have f1 : w4.frozen? ⟨w.heap.size, 1, none⟩ = false := rb4.frozen 1
  have l0 := rb4.lt
  have H4 := hid (hCL.go hg34 (by omega) (by omega))
  have q4 := q0.grown hg34 q0.size (fun r hr => by cases hr; omega)
  have HM := hid hM
  have HZ := hid (show w.heap.size < wn.heap.size from Nat.lt_of_lt_of_le (by omega) hg3n.size)
  have hl2 : l.length ≤ 3 := by omega
  clear hCL hg4 hg34 hgd hRd hR2 bx b0 b1 rb2 rb4 q0 hM hl hg3n hgn hgx hRn hy hx3 y0 y1
  go_wp2
  obtain ⟨t0, t1⟩ := set2c r0 r1 (.int .i64 m) (.slice A ds.length c)
  have hne : (Value.slice A ds.length c).ownBlock ≠ some w.heap.size := fun e => by have := (H4.out.1.lt _ e).1; omega
  exact bodyPost_ret (v := .tuple #[.agg #[.int .i64 m, .slice A ds.length c], .slice D l.length d]) (by simp [results, Try.results18, go_sem, t0, t1]) rfl ⟨m, A, c, ds, D, d, l, rfl, hm1, hm2, hdl, hl2, hld, hCap, ((H4.out.set (by omega) hne).set (by omega) hne).intss, hN61, ((HM.out.grow (grow_set _ _ _ _) HZ.out).grow (grow_set _ _ _ _) HZ.out).ints, bst (bst q4 (Nat.le_refl _) _) (Nat.le_refl _) _⟩
end Go.Proofs.Ytoechhdahokoiaa
