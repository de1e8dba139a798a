/- Contract of the draw of two constraints and two numbers. -/
import Derived.Test.YtbdmofmoegmigaaLinDC
import Derived.Test.YtbdmofmoegmigaaBD
namespace Go.Proofs.Ytbdmofmoegmigaa
set_option linter.unusedVariables false
set_option linter.unusedSimpArgs false
open Go.RowKit
def zsP : List Int := [1, 2, 0, 3, 1, -1, 1000000, 9223372036854775807]
def zsQ : List Int := [1, 2, 0, 3, 1, -1, 1000000]
theorem row8P (w : World) (t : TypeId) : ∀ k, k < zsP.length → (w.alloc (.cells #[.int .i64 1, .int .i64 2, .int .i64 0, .int .i64 3, .int .i64 1, .int .i64 (-1), .int .i64 1000000, .int .i64 9223372036854775807] t)).cell? ⟨w.heap.size, k, none⟩ = some (.int .i64 (zsP.getD k 0)) := by
  intro k hk
  simp only [zsP, List.length_cons, List.length_nil] at hk
  have hk' : k = 0 ∨ k = 1 ∨ k = 2 ∨ k = 3 ∨ k = 4 ∨ k = 5 ∨ k = 6 ∨ k = 7 := by omega
  rcases hk' with rfl | rfl | rfl | rfl | rfl | rfl | rfl | rfl <;> simp [go_sem, zsP]
theorem row7Q (w : World) (t : TypeId) : ∀ k, k < zsQ.length → (w.alloc (.cells #[.int .i64 1, .int .i64 2, .int .i64 0, .int .i64 3, .int .i64 1, .int .i64 (-1), .int .i64 1000000] t)).cell? ⟨w.heap.size, k, none⟩ = some (.int .i64 (zsQ.getD k 0)) := by
  intro k hk
  simp only [zsQ, List.length_cons, List.length_nil] at hk
  have hk' : k = 0 ∨ k = 1 ∨ k = 2 ∨ k = 3 ∨ k = 4 ∨ k = 5 ∨ k = 6 := by omega
  rcases hk' with rfl | rfl | rfl | rfl | rfl | rfl | rfl <;> simp [go_sem, zsQ]
theorem run_load3 {P : Program} {o : Oper} {ty : TypeId} {x : Operand} (ho : o.op = .load ty x) {a : Act} {b : Nat} (hx : a.eval x = .pointer (some ⟨b, 0, none⟩)) {d : TypeDesc} (hu : P.underlying ty = some d) (hd : d.isRow = true) (hi : (P.info? ty).map (·.size) = some 3) {x0 x1 x2 : Value} {w : World}
    (h0 : w.cell? ⟨b, 0, none⟩ = some x0) (h1 : w.cell? ⟨b, 1, none⟩ = some x1) (h2 : w.cell? ⟨b, 2, none⟩ = some x2) : (execOp a.eval o).run P w = .ok (.value (.agg #[x0, x1, x2])) w := by
  have hc : w.rangeAt b 0 [x0, x1, x2] := fun j v hv => by
    match j, hv with
    | 0, hv => simp at hv; subst hv; simpa using h0
    | 1, hv => simp at hv; subst hv; simpa using h1
    | 2, hv => simp at hv; subst hv; simpa using h2
    | j + 3, hv => simp at hv
  have hl := run_loadVar_mid (P := P) w b 0 ty [x0, x1, x2] d hc hu hd hi
  unfold execOp
  simp only [ho, hx, Instr.loadAt, Instr.sureAddr, Sem.run_bind, Sem.run_pure, Result.andThen_ok, hl]
theorem planC_store {P : Program} {ops : Array Oper} {l : List Oper} {K : Act → World → Prop} {a : Act} {w : World} {m : Nat} {k : Pl} {om : Oper} {C : World → Prop} (hl : l[m]? = some om) (hg : om.guard = none) (ty : TypeId) (x y : Operand) (ho : om.op = .store ty x y) (b : Nat) (x0 x1 x2 : Value) (hx : a.eval x = .pointer (some ⟨b, 0, none⟩)) (hy : a.eval y = .agg #[x0, x1, x2])
    {u0 u1 u2 : Value} (e0 : w.cell? ⟨b, 0, none⟩ = some u0) (e1 : w.cell? ⟨b, 1, none⟩ = some u1) (e2 : w.cell? ⟨b, 2, none⟩ = some u2) (ff : ∀ o, w.frozen? ⟨b, o, none⟩ = false) (hi : (P.info? ty).map (·.size) = some 3) (h1 : (#[x0, x1, x2] : Array Value).all (·.oneCell') = true)
    (hk : ∀ w', w.grownBy w' (some b) → KcL [(b, 0, x0), (b, 1, x1), (b, 2, x2)] w' → C w' ∧ ObPl P ops C l K k (a.put om.dst undef) w') : ObPl P ops C l K (.make m k) a w := by
  refine ⟨om, hl, .inl ⟨wanted_none hg, ?_⟩⟩
  have ht : w.there b 0 3 := fun j hj => by
    match j, hj with
    | 0, _ => exact ⟨by rw [e0]; rfl, ff _⟩
    | 1, _ => exact ⟨by rw [e1]; rfl, ff _⟩
    | 2, _ => exact ⟨by rw [e2]; rfl, ff _⟩
  have e : (execOp a.eval om).run P w = .ok .skip (w.setCells b 0 [x0, x1, x2]) := by
    unfold execOp
    simp only [ho, hx, hy, Instr.storeAt, Instr.sureAddr, Sem.run_bind, Sem.run_pure, Result.andThen_ok, run_storeVar_mid w b 0 ty #[x0, x1, x2] ht hi h1]
  rw [e]
  obtain ⟨t0, t1, t2⟩ := set3 e0 e1 e2 x0 x1 x2
  exact hk _ (grownBy_setCell3 w b x0 x1 x2) ⟨t0, t1, t2, trivial⟩
theorem frz {w w' : World} {b : Nat} {row : Option Nat} (hg : w.grownBy w' row) (hb : b < w.heap.size) (hr : some b ≠ row) (ff : ∀ o, w.frozen? ⟨b, o, none⟩ = false) : ∀ o, w'.frozen? ⟨b, o, none⟩ = false := fun o =>
  (World.frozen?_of_block (w := w) (a := ⟨b, o, none⟩) (hg.block b hb hr)).trans (ff o)
/-- two drawn constraints and two numbers -/
def SumD (w : World) (e : Ending) (w' : World) : Prop :=
  ∃ A n c Z b s m A2 n2 c2 Z2 b2 s2 k, e = .returned (.tuple #[.agg #[.slice A n c, .int .i64 b, .bool s], .int .i64 m, .agg #[.slice A2 n2 c2, .int .i64 b2, .bool s2], .int .i64 k]) ∧ n ≤ 5 ∧ n2 ≤ 5 ∧ Ints w' A n Z ∧ Ints w' A2 n2 Z2 ∧ m ∈ zsP ∧ k ∈ zsQ ∧ Below w.heap.size w w'
set_option maxRecDepth 100000 in
set_option maxHeartbeats 8000000 in
theorem drawlinsum_any (B : Nat) (w : World) (a : Option Addr) (len cap : Nat) (hB : B ≤ w.heap.size) (hby : Bytes B w a len) (hlc : len ≤ cap) (hc : cap ≤ 9223372036854775807) :
    Calls Try.prog 33 #[.slice a len cap] w (SumD w) := by
  have hO := open_any B ((w.alloc (.cells #[.slice none 0 0, .int .i64 0, .bool false] 25)).alloc (.cells #[.slice none 0 0, .int .i64 0, .bool false] 25)) a len cap (by simp <;> omega) ((hby.alloc _).alloc _) hlc hc
  have H := (KcL.alloc (KcL.new3 w (.slice none 0 0) (.int .i64 0) (.bool false) 25 rfl) (.cells #[.slice none 0 0, .int .i64 0, .bool false] 25)).app (KcL.new3 (w.alloc (.cells #[.slice none 0 0, .int .i64 0, .bool false] 25)) (.slice none 0 0) (.int .i64 0) (.bool false) 25 (n := w.heap.size + 1) (by simp))
  have q0 := bal (bal (Below.refl w.heap.size w) (.cells #[.slice none 0 0, .int .i64 0, .bool false] 25)) (.cells #[.slice none 0 0, .int .i64 0, .bool false] 25)
  have fa : ∀ o, ((w.alloc (.cells #[.slice none 0 0, .int .i64 0, .bool false] 25)).alloc (.cells #[.slice none 0 0, .int .i64 0, .bool false] 25)).frozen? ⟨w.heap.size, o, none⟩ = false := fun o => carryAf _ (by simp [go_sem]) (by simp)
  have fb : ∀ o, ((w.alloc (.cells #[.slice none 0 0, .int .i64 0, .bool false] 25)).alloc (.cells #[.slice none 0 0, .int .i64 0, .bool false] 25)).frozen? ⟨w.heap.size + 1, o, none⟩ = false := fun o => by
    simp
  go_enter Try.func33, Try.ntmps33
  go_wp2_with fail
  refine hO.mono ?_
  rintro e w1 ⟨g, rfl, hb, hR, hg⟩
  clear hO
  have hgs : w.heap.size + 2 ≤ g := by simpa using hg
  have hz1 := hb.size
  simp only [World.size_alloc] at hz1
  replace H := H.below hb
  replace q0 := btr q0 hb
  replace fa := fun o => carryf hb (fa o) (by simp; omega)
  replace fb := fun o => carryf hb (fb o) (by simp)
  clear hb hg
  have glt := hR.lt
  go_wp2_with fail
  refine (l2some_any B _ g 0 hR (by omega)).mono ?_
  rintro e w2 ⟨A, n, c, Z, b, s, q, rfl, ⟨hn1, hn⟩, hnc, hc2, row, hg2, hR2, hq⟩
  have hz2 := hg2.size
  replace H := H.keep hg2 (fun e he r hr => by cases hr; simp at he; rcases he with rfl | rfl | rfl | rfl | rfl | rfl <;> (simp only; omega))
  replace q0 := q0.grown hg2 q0.size (fun r hr => by cases hr; omega)
  replace fa := frz hg2 (by omega) (by simp; omega) fa
  replace fb := frz hg2 (by omega) (by simp; omega) fb
  clear hg2 hR
  have al := bal (Below.refl w2.heap.size w2) (.cells #[.slice A n c, .int .i64 b, .bool s] 25)
  replace H := (H.below al).app (KcL.new3 w2 (.slice A n c) (.int .i64 b) (.bool s) 25 rfl)
  go_wp2_with fail
  have hL1 : g < w2.heap.size := hR2.lt
  refine (num_any B _ g q (w2.heap.size + 1) 8 8 zsP ((hR2.alloc _).alloc _) (by omega) rfl (by decide) (by decide) (by omega) (by simpa only [World.size_alloc] using row8P (w2.alloc (.cells #[.slice A n c, .int .i64 b, .bool s] 25)) 3)).mono ?_
  rintro e w4 ⟨m, hm, rfl, hg4, hR4⟩
  have hg24 : w2.grownBy w4 (some g) := grow_trans (grow_alloc (grow_alloc (grow_refl _ _) _) _) hg4
  replace H := (H.alloc (.cells #[.int .i64 1, .int .i64 2, .int .i64 0, .int .i64 3, .int .i64 1, .int .i64 (-1), .int .i64 1000000, .int .i64 9223372036854775807] 3)).keep hg4 (fun e he r hr => by cases hr; simp at he; rcases he with rfl | rfl | rfl | rfl | rfl | rfl | rfl | rfl | rfl <;> (simp only; omega))
  have hz4 : w2.heap.size + 2 ≤ w4.heap.size := by have := hg4.size; simpa using this
  replace q0 := q0.grown hg24 q0.size (fun r hr => by cases hr; omega)
  replace fa := frz hg24 (by omega) (by simp; omega) fa
  replace fb := frz hg24 (by omega) (by simp; omega) fb
  replace row := row.grow hg24 (fun r hr => by cases hr; exact glt)
  clear hg4 hg24 hR2 al
  go_wp2_with fail
  refine (l2some_any B _ g (q + 1) hR4 (by omega)).mono ?_
  rintro e w5 ⟨A2, n2, c2, Z2, b2, s2, q2, rfl, ⟨hn21, hn2⟩, hnc2, hcc2, row2, hg5, hR5, hq2⟩
  have hz5 := hg5.size
  replace H := H.keep hg5 (fun e he r hr => by cases hr; simp at he; rcases he with rfl | rfl | rfl | rfl | rfl | rfl | rfl | rfl | rfl <;> (simp only; omega))
  replace q0 := q0.grown hg5 q0.size (fun r hr => by cases hr; omega)
  replace fa := frz hg5 (by omega) (by simp; omega) fa
  replace fb := frz hg5 (by omega) (by simp; omega) fb
  replace row := row.grow hg5 (fun r hr => by cases hr; exact glt)
  clear hg5 hR4
  go_upto_region 5 with fail
  have al := bal (Below.refl w5.heap.size w5) (.cells #[.slice A2 n2 c2, .int .i64 b2, .bool s2] 25)
  replace H := (H.below al).app (KcL.new3 w5 (.slice A2 n2 c2) (.int .i64 b2) (.bool s2) 25 rfl)
  replace q0 := btr q0 al
  replace fa := fun o => carryf al (fa o) (by omega)
  replace fb := fun o => carryf al (fb o) (by omega)
  replace row := row.grow (grow_alloc (grow_refl w5 none) (.cells #[.slice A2 n2 c2, .int .i64 b2, .bool s2] 25)) (fun r hr => by cases hr)
  replace row2 := row2.grow (grow_alloc (grow_refl w5 none) (.cells #[.slice A2 n2 c2, .int .i64 b2, .bool s2] 25)) (fun r hr => by cases hr)
  replace hR5 := hR5.alloc (.cells #[.slice A2 n2 c2, .int .i64 b2, .bool s2] 25)
  have hz6 : w5.heap.size < (w5.alloc (.cells #[.slice A2 n2 c2, .int .i64 b2, .bool s2] 25)).heap.size := by simp
  generalize w5.alloc (.cells #[.slice A2 n2 c2, .int .i64 b2, .bool s2] 25) = w6 at *
  clear al
  have KL : KcL [(w2.heap.size, 0, .slice A n c), (w2.heap.size, 1, .int .i64 b), (w2.heap.size, 2, .bool s), (w5.heap.size, 0, .slice A2 n2 c2), (w5.heap.size, 1, .int .i64 b2), (w5.heap.size, 2, .bool s2)] w6 := by
    have HH_ := H; obtain ⟨c0, c1, c2, c3, c4, c5, c6, c7, c8, c9, c10, c11, _⟩ := HH_
    exact ⟨c6, c7, c8, c9, c10, c11, trivial⟩
  have KR : KcL [(w.heap.size, 0, .slice none 0 0), (w.heap.size, 1, .int .i64 0), (w.heap.size, 2, .bool false), (w.heap.size + 1, 0, .slice none 0 0), (w.heap.size + 1, 1, .int .i64 0), (w.heap.size + 1, 2, .bool false)] w6 := by
    have HH_ := H; obtain ⟨c0, c1, c2, c3, c4, c5, c6, c7, c8, c9, c10, c11, _⟩ := HH_
    exact ⟨c0, c1, c2, c3, c4, c5, trivial⟩
  have l2 : w2.heap.size < w6.heap.size := by omega
  clear H
  refine region_planC (fun w' => KcL [(w2.heap.size, 0, .slice A n c), (w2.heap.size, 1, .int .i64 b), (w2.heap.size, 2, .bool s), (w5.heap.size, 0, .slice A2 n2 c2), (w5.heap.size, 1, .int .i64 b2), (w5.heap.size, 2, .bool s2)] w') (.takes [0, 1, 2, 3] (.make 4 (.make 5 (.make 6 (.takes [7] (.make 8 .fin)))))) 9 rfl (by kernel_rfl) (KL.below (Below.refl w6.heap.size w6).drew) ?_
  have qd := (Below.refl w6.heap.size w6).drew
  refine plan_takes ?_; simp only [pickOps, List.getElem?_cons_zero, List.getElem?_cons_succ]
  refine quiet_doC rfl (.agg #[.slice A n c, .int .i64 b, .bool s]) (fun w' hw' => run_load3 rfl (by kernel_rfl) Try.underlying25 rfl (by kernel_rfl) hw'.1 hw'.2.1 hw'.2.2.1) ?_
  refine quiet_doC rfl (.int .i64 m) (fun _ _ => by kernel_rfl) ?_
  refine quiet_doC rfl (.agg #[.slice A2 n2 c2, .int .i64 b2, .bool s2]) (fun w' hw' => run_load3 rfl (by kernel_rfl) Try.underlying25 rfl (by kernel_rfl) hw'.2.2.2.1 hw'.2.2.2.2.1 hw'.2.2.2.2.2.1) ?_
  refine quiet_doC rfl (.pointer (some ⟨g, 0, none⟩)) (fun _ _ => by kernel_rfl) ?_
  refine wpQuiet_nil ?_
  have KLd := (KL.below qd).alloc (.cells #[.int .i64 1, .int .i64 2, .int .i64 0, .int .i64 3, .int .i64 1, .int .i64 (-1), .int .i64 1000000] 3)
  have KRd := (KR.below qd).alloc (.cells #[.int .i64 1, .int .i64 2, .int .i64 0, .int .i64 3, .int .i64 1, .int .i64 (-1), .int .i64 1000000] 3)
  have q1 : Below w.heap.size w (w6.drew.alloc (.cells #[.int .i64 1, .int .i64 2, .int .i64 0, .int .i64 3, .int .i64 1, .int .i64 (-1), .int .i64 1000000] 3)) := btr (btr q0 qd) (bal (Below.refl w6.drew.heap.size w6.drew) _)
  have fa1 : ∀ o, (w6.drew.alloc (.cells #[.int .i64 1, .int .i64 2, .int .i64 0, .int .i64 3, .int .i64 1, .int .i64 (-1), .int .i64 1000000] 3)).frozen? ⟨w.heap.size, o, none⟩ = false := fun o => carryAf _ (fa o) (by show _ < w6.heap.size; omega)
  have fb1 : ∀ o, (w6.drew.alloc (.cells #[.int .i64 1, .int .i64 2, .int .i64 0, .int .i64 3, .int .i64 1, .int .i64 (-1), .int .i64 1000000] 3)).frozen? ⟨w.heap.size + 1, o, none⟩ = false := fun o => carryAf _ (fb o) (by show _ < w6.heap.size; omega)
  have g6 : w6.grownBy (w6.drew.alloc (.cells #[.int .i64 1, .int .i64 2, .int .i64 0, .int .i64 3, .int .i64 1, .int .i64 (-1), .int .i64 1000000] 3)) none := grow_alloc (grow_of_below qd none) _
  have row' := row.grow g6 (fun r e => by cases e)
  have row2' := row2.grow g6 (fun r e => by cases e)
  have hR6 : RD B (w6.drew.alloc (.cells #[.int .i64 1, .int .i64 2, .int .i64 0, .int .i64 3, .int .i64 1, .int .i64 (-1), .int .i64 1000000] 3)) g q2 := (hR5.below qd).alloc _
  have hR6l : g < w6.heap.size := hR5.lt
  have hsd : w6.drew.heap.size = w6.heap.size := rfl
  have hcells := row7Q w6.drew 3
  refine planC_val rfl rfl (.slice (some ⟨w6.drew.heap.size, 0, none⟩) 7 7) (w'' := w6.drew.alloc (.cells #[.int .i64 1, .int .i64 2, .int .i64 0, .int .i64 3, .int .i64 1, .int .i64 (-1), .int .i64 1000000] 3)) (by kernel_rfl) KLd ?_
  refine planC_call rfl rfl 92 #[.pointer (some ⟨g, 0, none⟩), .slice (some ⟨w6.drew.heap.size, 0, none⟩) 7 7] (by kernel_rfl) ?_
  refine (num_any B _ g q2 w6.drew.heap.size 7 7 zsQ hR6 (by omega) rfl (by decide) (by decide) (by omega) hcells).mono ?_
  rintro e w7 ⟨k, hk, rfl, hg7, hR7⟩
  have KL7 := KLd.keep hg7 (fun e he r hr => by cases hr; simp at he; rcases he with rfl | rfl | rfl | rfl | rfl | rfl <;> (simp only; omega))
  have KR7 := KRd.keep hg7 (fun e he r hr => by cases hr; simp at he; rcases he with rfl | rfl | rfl | rfl | rfl | rfl <;> (simp only; omega))
  have z7 := hg7.size
  simp only [World.size_alloc] at z7
  replace q1 := q1.grown hg7 q1.size (fun r hr => by cases hr; omega)
  replace fa1 := frz hg7 (by simp; omega) (by simp; omega) fa1
  replace fb1 := frz hg7 (by simp; omega) (by simp; omega) fb1
  replace row' := row'.grow hg7 (fun r hr => by cases hr; exact glt)
  replace row2' := row2'.grow hg7 (fun r hr => by cases hr; omega)
  refine ⟨_, rfl, KL7, ?_⟩
  clear hg7 hR6 hcells KLd KRd KL KR fa fb q0 g6 row row2 hR5 qd
  obtain ⟨r0, r1, r2, r3, r4, r5, _⟩ := KR7
  refine planC_store rfl rfl _ _ _ rfl w.heap.size (.slice A n c) (.int .i64 b) (.bool s) (by kernel_rfl) (by kernel_rfl) r0 r1 r2 fa1 (by kernel_rfl) (by simp [Value.oneCell']) ?_
  intro w8 hg8 K8
  have KL8 := KL7.keep hg8 (fun e he r hr => by cases hr; simp at he; rcases he with rfl | rfl | rfl | rfl | rfl | rfl <;> (simp only; omega))
  have z8 := hg8.size
  replace q1 := q1.grown hg8 q1.size (fun r hr => by cases hr; omega)
  replace fb1 := frz hg8 (by omega) (by simp) fb1
  replace row' := row'.grow hg8 (fun r hr => by cases hr; omega)
  replace row2' := row2'.grow hg8 (fun r hr => by cases hr; omega)
  replace r3 := grow_cell hg8 (by omega) r3
  replace r4 := grow_cell hg8 (by omega) r4
  replace r5 := grow_cell hg8 (by omega) r5
  refine ⟨KL8, ?_⟩
  clear hg8 KL7 fa1 r0 r1 r2
  refine plan_takes ?_; simp only [pickOps, List.getElem?_cons_zero, List.getElem?_cons_succ]
  refine quiet_doC rfl (.int .i64 m) (fun _ _ => by kernel_rfl) ?_
  refine wpQuiet_nil ?_
  refine planC_store rfl rfl _ _ _ rfl (w.heap.size + 1) (.slice A2 n2 c2) (.int .i64 b2) (.bool s2) (by kernel_rfl) (by kernel_rfl) r3 r4 r5 fb1 (by kernel_rfl) (by simp [Value.oneCell']) ?_
  intro w9 hg9 K9
  have KL9 := KL8.keep hg9 (fun e he r hr => by cases hr; simp at he; rcases he with rfl | rfl | rfl | rfl | rfl | rfl <;> (simp only; omega))
  replace q1 := q1.grown hg9 q1.size (fun r hr => by cases hr; omega)
  replace row' := row'.grow hg9 (fun r hr => by cases hr; omega)
  replace row2' := row2'.grow hg9 (fun r hr => by cases hr; omega)
  replace K8 := K8.keep hg9 (fun e he r hr => by cases hr; simp at he; rcases he with rfl | rfl | rfl <;> (simp only; omega))
  refine ⟨KL9, ?_⟩
  clear hg9 KL8 KL9 fb1 r3 r4 r5
  refine plan_fin ?_
  simp only [List.drop_succ_cons, List.drop_zero]
  obtain ⟨t0, t1, t2, _⟩ := K8
  obtain ⟨v0, v1, v2, _⟩ := K9
  go_wp2_with fail
  refine bodyPost_ret (v := .tuple #[.agg #[.slice A n c, .int .i64 b, .bool s], .int .i64 m, .agg #[.slice A2 n2 c2, .int .i64 b2, .bool s2], .int .i64 k]) (by simp [results, Try.results33, go_sem, t0, t1, t2, v0, v1, v2]) rfl ?_
  exact ⟨A, n, c, Z, b, s, m, A2, n2, c2, Z2, b2, s2, k, rfl, hn, hn2, row'.ints, row2'.ints, hm, hk, q1⟩
end Go.Proofs.Ytbdmofmoegmigaa
