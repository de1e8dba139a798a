/- DrawCnfRup. -/
import Derived.Test.YtoechhdahokoiaaDfA
namespace Go.Proofs.Ytoechhdahokoiaa
set_option linter.unusedVariables false
set_option linter.unusedSimpArgs false
open Go.RowKit
/-- numbers in a block from lo on, at any place -/
def NwI' (lo : Nat) (w : World) (A : Option Addr) (l : List Int) : Prop := l.length = 0 ∨ ∃ h o, A = some ⟨h, o, none⟩ ∧ lo ≤ h ∧ h < w.heap.size ∧ ∀ k, k < l.length → w.cell? ⟨h, o + k, none⟩ = some (.int .i64 (l.getD k 0))
theorem NwI'.ints {lo : Nat} {w : World} {A : Option Addr} {l : List Int} (h : NwI' lo w A l) : Ints w A l.length (fun k => l.getD k 0) := by
  rcases h with h | ⟨g, o, ha, _, hg, hc⟩
  · exact .inl h
  · exact .inr ⟨g, o, ha, hg, hc⟩
theorem NwI'.set {lo p o : Nat} {w : World} {A : Option Addr} {l : List Int} {v : Value} (h : NwI' lo w A l) (hp : p < lo) : NwI' lo (w.setCell ⟨p, o, none⟩ v) A l := by
  rcases h with h | ⟨g, o', ha, h1, hg, hc⟩
  · exact .inl h
  · exact .inr ⟨g, o', ha, h1, by simpa using hg, fun k hk => grow_cell (grow_set w p o v) (by omega) (hc k hk)⟩
/-- drawn clauses and a drawn clause -/
def DRuP (w : World) (e : Ending) (w' : World) : Prop :=
  ∃ m A c ds D d, ∃ l : List Int, e = .returned (.tuple #[.agg #[.int .i64 m, .slice A ds.length c], .slice D l.length d]) ∧ -1 ≤ m ∧ m ≤ 61 ∧ ds.length ≤ 14 ∧ l.length ≤ 61 ∧ CapC A ds.length c ∧ IntSS w' A ds.length (llsC ds) ∧ (∀ k, k < ds.length → (llsC ds).N k ≤ 61) ∧ Ints w' D l.length (fun k => l.getD k 0) ∧ Below w.heap.size w w'
set_option maxRecDepth 100000 in
set_option maxHeartbeats 4000000 in
theorem drawcnfrup_any (B : Nat) (w : World) (a : Option Addr) (len cap : Nat) (hB : B ≤ w.heap.size) (hby : Bytes B w a len) (hlc : len ≤ cap) (hc : cap ≤ 9223372036854775807) :
    Calls Try.prog 22 #[.slice a len cap] w (DRuP w) := by
  have hO := open_any B (w.alloc (.cells #[.int .i64 0, .slice none 0 0] 25)) a len cap (by simp <;> omega) (hby.alloc _) hlc hc
  have rb := row2_newC w (.int .i64 0) (.slice none 0 0) 25
  have q0 := bal (Below.refl w.heap.size w) (.cells #[.int .i64 0, .slice none 0 0] 25)
  go_enter Try.func22, Try.ntmps22
  go_wp2_with fail
  refine hO.mono ?_
  rintro e w1 ⟨g, rfl, hb, hR, hg⟩
  clear hO
  have hgs : w.heap.size + 1 ≤ g := by simpa using hg
  replace q0 := btr q0 hb
  have rb1 := rb.of_block (hb.block _ rb.lt)
  have hlt := hR.lt
  have hle := hR.le
  clear hb hg rb
  go_wp2_with fail
  refine (l10cnf_any B w1 g 0 hR (by omega)).mono ?_
  rintro e w2 ⟨m, A, c, ds, q, rfl, hm1, hm2, hdl, hc1, hc2, hCL, hg2, hR2, hq⟩
  have rb2 := row_growC rb1 hg2 (by omega)
  replace q0 := q0.grown hg2 q0.size (fun r hr => by cases hr; omega)
  have bx := row2_newC w2 (.int .i64 m) (.slice A ds.length c) 25
  have al := bal (Below.refl w2.heap.size w2) (.cells #[.int .i64 m, .slice A ds.length c] 25)
  have hz2 := hg2.size
  replace rb2 := rb2.alloc (.cells #[.int .i64 m, .slice A ds.length c] 25)
  replace hCL := hCL.below al
  replace q0 := btr q0 al
  replace hR2 := hR2.alloc (.cells #[.int .i64 m, .slice A ds.length c] 25)
  have hCap := own_capC hCL.1
  have hN61 : ∀ k, k < ds.length → (llsC ds).N k ≤ 61 := fun k hk => by
    have hm : ds.getD k default ∈ ds := by rw [List.getD_eq_getElem?_getD, List.getElem?_eq_getElem hk]; exact List.getElem_mem hk
    exact (hCL.2 _ hm).2.2
  clear hg2 hR rb1 al
  go_upto_region 3 with fail
  generalize w2.alloc (.cells #[.int .i64 m, .slice A ds.length c] 25) = w3 at *
  have b0 : w3.cell? ⟨w2.heap.size, 0, none⟩ = some (.int .i64 m) := bx.cell (i := 0) (by decide)
  have b1 : w3.cell? ⟨w2.heap.size, 1, none⟩ = some (.slice A ds.length c) := bx.cell (i := 1) (by decide)
  have hgd : w3.grownBy w3.drew (some g) := grow_of_below (Below.refl w3.heap.size w3).drew _
  have hRd : RD B w3.drew g q := hR2.below (Below.refl w3.heap.size w3).drew
  have hz3 := bx.lt
  refine region_planC (fun w' => w3.grownBy w' (some g)) (.takes [0, 1, 2, 3] (.make 4 (.make 5 (.make 6 .fin)))) 7 rfl (by kernel_rfl) hgd ?_
  refine plan_takes ?_; simp only [pickOps, List.getElem?_cons_zero, List.getElem?_cons_succ]
  refine quiet_doC rfl (.pointer (some ⟨g, 0, none⟩)) (fun _ _ => by kernel_rfl) ?_
  refine quiet_doC rfl (.pointer (some ⟨w2.heap.size, 0, none⟩)) (fun _ _ => by kernel_rfl) ?_
  refine quiet_doC rfl (.int .i64 m) (fun w' hw' => by exact run_loadI rfl (by kernel_rfl) Try.underlying3 rfl (grow_cell hw' (by omega) b0)) ?_
  refine quiet_doC rfl (.pointer (some ⟨g, 0, none⟩)) (fun _ _ => by kernel_rfl) ?_
  refine wpQuiet_nil ?_
  simp only [Act.put, List.setIfInBounds_toArray, List.set_cons_succ, List.set_cons_zero]
  have hgx : w3.grownBy (w3.drew.alloc (.cells #[.int .i64 1, .int .i64 2, .int .i64 0, .int .i64 3] 3)) (some g) := grow_trans hgd (grow_alloc (grow_refl _ _) _)
  refine planC_val rfl rfl (.slice (some ⟨w3.drew.heap.size, 0, none⟩) 4 4) (w'' := w3.drew.alloc (.cells #[.int .i64 1, .int .i64 2, .int .i64 0, .int .i64 3] 3)) (by simp [execOp, go_sem]) hgx ?_
  simp only [Act.put, List.setIfInBounds_toArray, List.set_cons_succ, List.set_cons_zero]
  refine planC_call rfl rfl 42 #[.pointer (some ⟨g, 0, none⟩), .slice (some ⟨w3.drew.heap.size, 0, none⟩) 4 4] (by kernel_rfl) ?_
  refine (num_any B _ g q w3.drew.heap.size 4 4 zs4R (hRd.alloc _) (by omega) rfl (by simp [zs4R]) (by simp [zs4R]) (by have := hRd.lt; omega) (row4R w3.drew 3)).mono ?_
  rintro e wn ⟨y, hy, rfl, hgn, hRn⟩
  have hg3n := grow_trans hgx hgn
  refine ⟨_, rfl, hg3n, ?_⟩
  simp only [Act.put, List.setIfInBounds_toArray, List.set_cons_succ, List.set_cons_zero]
  obtain ⟨y0, y1⟩ := in4R hy
  obtain ⟨k, rfl⟩ : ∃ k : Nat, y = (k : Int) := ⟨y.toNat, by omega⟩
  refine planC_call rfl rfl 41 #[.pointer (some ⟨g, 0, none⟩), .int .i64 m, .int .i64 (k : Int)] (by kernel_rfl) ?_
  refine (l10marks_any B wn g _ m k hRn (by omega) ⟨by omega, by omega⟩ (by omega)).mono ?_
  rintro e w4 ⟨D, d, l, q2, rfl, hl, hM, hg4, hR4, hq4, hld⟩
  have hg34 := grow_trans hg3n hg4
  refine ⟨_, rfl, hg34, ?_⟩
  refine plan_fin ?_
  simp only [List.drop_succ_cons, List.drop_zero, Act.put, List.setIfInBounds_toArray, List.set_cons_succ, List.set_cons_zero]
  have rb4 := row_growC rb2 hg34 (by omega)
  have c0 := grow_cell hg34 (by omega) b0
  have c1 := grow_cell hg34 (by omega) b1
  have H4 := hCL.go hg34 (by omega) (by omega)
  have q4 := q0.grown hg34 q0.size (fun r hr => by cases hr; omega)
  have HZ : w.heap.size < wn.heap.size := Nat.lt_of_lt_of_le (by omega) hg3n.size
  have hgn4 : g < wn.heap.size := Nat.lt_of_lt_of_le (by omega) hg3n.size
  have hl2 : l.length ≤ 3 := by omega
  have hk3 : k ≤ 3 := by omega
  have hzn : w2.heap.size < wn.heap.size := Nat.lt_of_lt_of_le hz3 hg3n.size
  have hn4 : wn.heap.size ≤ w4.heap.size := hg4.size
  clear hCL hg4 hg34 hgd hRd hR2 bx b0 b1 rb2 q0 hl hg3n hgn hgx hRn hy y0 y1
  have hcl := sclauseof_new D l.length d (fun k => l.getD k 0) w4 (by omega) hM.ints
  have hRl := clR_len l.length (fun k => l.getD k 0)
  unfold ClPN at hcl
  generalize clR l.length (fun k => l.getD k 0) = R at hcl hRl
  generalize okF l.length (fun k => l.getD k 0) = ok at hcl
  go_wp2_with fail
  refine hcl.mono ?_
  rintro e w6 ⟨A6, c6, rfl, hnew, hI6, hq6⟩
  have rb6 := rb4.of_block (hq6.block _ rb4.lt)
  have d0 := carry hq6 c0
  have d1 := carry hq6 c1
  have H6 := H4.below hq6
  have q6 := btr q4 hq6
  have M6 := hM.grow (grow_of_below hq6 (some g)) (by omega)
  have hR6 := hR4.below hq6
  clear hcl rb4 c0 c1 H4 q4 hM hR4
  cases ok
  · clear hI6 hnew
    have r0 : _ = some (Value.int .i64 0) := rb6.cell (i := 0) (by decide)
    have r1 : _ = some (Value.slice none 0 0) := rb6.cell (i := 1) (by decide)
    have f0 := rb6.frozen 0
    have f1 := rb6.frozen 1
    have l0 := rb6.lt
    have HH := hid H6
    have HM := hid M6
    clear rb6 H6 M6
    go_wp2
    obtain ⟨t0, t1⟩ := set2c r0 r1 (.int .i64 m) (.slice A ds.length c)
    have hne : (Value.slice A ds.length c).ownBlock ≠ some w.heap.size := fun e => by have := (HH.out.1.lt _ e).1; omega
    exact bodyPost_ret (v := .tuple #[.agg #[.int .i64 m, .slice A ds.length c], .slice D l.length d]) (by simp [results, Try.results22, go_sem, t0, t1]) rfl ⟨m, A, c, ds, D, d, l, rfl, hm1, hm2, hdl, by omega, hCap, ((HH.out.set (by omega) hne).set (by omega) hne).intss, hN61, ((HM.out.grow (grow_set _ _ _ _) HZ).grow (grow_set _ _ _ _) HZ).ints, bst (bst q6 (Nat.le_refl _) _) (Nat.le_refl _) _⟩
  · go_wp2_with fail
    refine (pick_any B w6 g q2 10 hR6 (by omega) (by omega)).mono ?_
    rintro e w7 ⟨x, x0, x1, rfl, hg7, _⟩
    have rb7 := row_growC rb6 hg7 (by omega)
    have e0 := grow_cell hg7 (by omega) d0
    have e1 := grow_cell hg7 (by omega) d1
    have H7 := H6.go hg7 (by omega) (by omega)
    have q7 := q6.grown hg7 q6.size (fun r hr => by cases hr; omega)
    have M7 := M6.grow hg7 (by omega)
    by_cases hx : 0 < x
    · have dx : decide (0 < x) = true := decide_eq_true hx
      have I7 : NwI' w4.heap.size w7 A6 R := by
        rcases hI6 with h | ⟨g6, o6, ha, hg6, hc6⟩
        · exact .inl h
        · by_cases h0 : R.length = 0
          · exact .inl h0
          · rcases hnew with h | ⟨g6', o6', ha', hge⟩
            · exact absurd h h0
            · rw [ha] at ha'
              injection ha' with ha'
              injection ha' with e2 _ _
              subst e2
              exact .inr ⟨g6, o6, ha, hge, Nat.lt_of_lt_of_le hg6 hg7.size, fun k hk => grow_cell hg7 (by omega) (hc6 k hk)⟩
      clear rb6 d0 d1 H6 q6 M6 hI6 hnew hx
      have r0 : _ = some (Value.int .i64 0) := rb7.cell (i := 0) (by decide)
      have r1 : _ = some (Value.slice none 0 0) := rb7.cell (i := 1) (by decide)
      have f0 := rb7.frozen 0
      have f1 := rb7.frozen 1
      have l0 := rb7.lt
      have HH := hid H7
      have HM := hid I7
      clear rb7 H7 I7
      go_wp2
      obtain ⟨t0, t1⟩ := set2c r0 r1 (.int .i64 m) (.slice A ds.length c)
      have hne : (Value.slice A ds.length c).ownBlock ≠ some w.heap.size := fun e => by have := (HH.out.1.lt _ e).1; omega
      exact bodyPost_ret (v := .tuple #[.agg #[.int .i64 m, .slice A ds.length c], .slice A6 R.length c6]) (by simp [results, Try.results22, go_sem, t0, t1]) rfl ⟨m, A, c, ds, A6, c6, R, rfl, hm1, hm2, hdl, by omega, hCap, ((HH.out.set (by omega) hne).set (by omega) hne).intss, hN61, ((HM.out.set (by omega)).set (by omega)).ints, bst (bst q7 (Nat.le_refl _) _) (Nat.le_refl _) _⟩
    · have dx : decide (0 < x) = false := decide_eq_false hx
      clear rb6 d0 d1 H6 q6 M6 hI6 hnew hx
      have r0 : _ = some (Value.int .i64 0) := rb7.cell (i := 0) (by decide)
      have r1 : _ = some (Value.slice none 0 0) := rb7.cell (i := 1) (by decide)
      have f0 := rb7.frozen 0
      have f1 := rb7.frozen 1
      have l0 := rb7.lt
      have HH := hid H7
      have HM := hid M7
      clear rb7 H7 M7
      go_wp2
      obtain ⟨t0, t1⟩ := set2c r0 r1 (.int .i64 m) (.slice A ds.length c)
      have hne : (Value.slice A ds.length c).ownBlock ≠ some w.heap.size := fun e => by have := (HH.out.1.lt _ e).1; omega
      exact bodyPost_ret (v := .tuple #[.agg #[.int .i64 m, .slice A ds.length c], .slice D l.length d]) (by simp [results, Try.results22, go_sem, t0, t1]) rfl ⟨m, A, c, ds, D, d, l, rfl, hm1, hm2, hdl, by omega, hCap, ((HH.out.set (by omega) hne).set (by omega) hne).intss, hN61, ((HM.out.grow (grow_set _ _ _ _) HZ).grow (grow_set _ _ _ _) HZ).ints, bst (bst q7 (Nat.le_refl _) _) (Nat.le_refl _) _⟩
end Go.Proofs.Ytoechhdahokoiaa
