/- l10Vals for any number; DrawCnfIs. -/
import Derived.Test.YtoechhdahokoiaaDeB
namespace Go.Proofs.Ytoechhdahokoiaa
set_option linter.unusedVariables false
set_option linter.unusedSimpArgs false
open Go.RowKit
set_option maxHeartbeats 4000000 in
theorem l10valsI_any (Bd : Nat) (w : World) (g p : Nat) (n : Nat) (M : Int) (hM : n = M.toNat) (hR : RD Bd w g p) (hp : p ≤ 90000) (hn : n ≤ 100) :
    Calls Try.prog 29 #[.pointer (some ⟨g, 0, none⟩), .int .i64 M] w (VlP Bd w g p n) := by
  have HM := hid hM; clear hM
  have hlt := hR.lt
  have hle := hR.le
  have h0 : BBc Bd w.heap.size w g p (.slice (some ⟨w.heap.size, 0, none⟩) 0 0) [] (w.alloc (.cells #[] 4)) :=
    ⟨grow_alloc (grow_refl _ _) _, own_emptyD w 4 1, p, Nat.le_refl _, hR.alloc _⟩
  obtain ⟨i0, hi, hz0, hz1, hz2⟩ := info_parts infoBl
  go_enter Try.func29, Try.ntmps29
  go_wp2_with fail
  go_loopw [5, 6] (fun v i wr => ∃ (k : Nat) (l : List Bool), k ≤ n ∧ i = .int .i64 k ∧ l.length = k ∧ w.heap.size ≤ wr.heap.size ∧ BBc Bd w.heap.size w g (p + k) v l wr) (fun _ i _ => n - (intOf i).toNat)
  case atStart => exact ⟨0, [], Nat.zero_le _, rfl, rfl, h0.grown.size, h0⟩
  case round =>
    clear h0
    obtain ⟨k, l, hk, rfl, hl, hsz, h⟩ := hrel
    by_cases hltk : k < n
    · have dl : decide ((k : Int) < M) = true := decide_eq_true (by have := HM.out; omega)
      obtain ⟨q, hq, hRq⟩ := h.rd
      go_wp2_with fail
      refine (pick_any Bd _ g q 2 hRq (by omega) (by omega)).mono ?_
      rintro e w1 ⟨x1, _, _, rfl, hg1, hR1⟩
      have h1 := h.grow (p' := p + (k + 1)) hg1 hlt ⟨_, by omega, hR1⟩
      have hsz1 := hg1.size
      clear hg1 h hRq hq
      generalize hb : (x1 == 0) = bx
      go_wp2_with ((at_builtin; refine wpList_append_own_at _ rfl _ _ 26 rfl w.heap.size 4 i0 (.bool false) 1 1 Try.underlying26 hi hz0 hz1 hz2 rfl (by decide) _ _ _ rfl (h1.own.alloc _) ⟨w1.heap.size, 0, none⟩ 1 1 [.bool bx] rfl rfl (cell_one_new _ _ _) (fun u hu => by simp at hu; subst hu; rfl) (by unfold maxLen; omega) (by omega) (by simp; omega) ?_; intro v' w5 hown hgrow _ _; have H5 := hid (h1.step hlt (by omega) (Nat.le_refl _) hown hgrow); have hs5 := hgrow.size))
      exact ⟨⟨k + 1, l ++ [bx], by omega, by go_num, by simp [hl], by simp at hs5; omega, H5.out⟩, by simp [intOf]; omega⟩
    · have hkn : k = n := by omega
      subst hkn
      subst hl
      have dl : decide ((l.length : Int) < M) = false := decide_eq_false (by have := HM.out; omega)
      obtain ⟨q, hq, hRq⟩ := h.rd
      go_wp2_with fail
      refine (pick_any Bd _ g q 30 hRq (by omega) (by omega)).mono ?_
      rintro e w1 ⟨x1, _, _, rfl, hg1, hR1⟩
      have h1 := h.grow (p' := p + l.length + 1) hg1 hlt ⟨_, by omega, hR1⟩
      have hsz1 := hg1.size
      clear hg1 h hRq hq
      cases hb : (x1 == 0)
      · obtain ⟨A, c, rfl, hN⟩ := h1.out
        obtain ⟨q, hq, hRq⟩ := h1.rd
        go_wp2
        go_ret
        exact ⟨A, c, l, q, rfl, by omega, hN, h1.grown, hRq, hq⟩
      · go_wp2_with ((at_builtin; refine wpList_append_own_at _ rfl _ _ 26 rfl w.heap.size 4 i0 (.bool false) 1 1 Try.underlying26 hi hz0 hz1 hz2 rfl (by decide) _ _ _ rfl (h1.own.alloc _) ⟨w1.heap.size, 0, none⟩ 1 1 [.bool true] rfl rfl (cell_one_new _ _ _) (fun u hu => by simp at hu; subst hu; rfl) (by unfold maxLen; omega) (by omega) (by simp; omega) ?_; intro v' w5 hown hgrow _ _; have H5 := h1.step hlt (by omega) (Nat.le_refl _) hown hgrow))
        obtain ⟨A, c, rfl, hN⟩ := H5.out
        obtain ⟨q, hq, hRq⟩ := H5.rd
        go_ret
        exact ⟨A, c, l ++ [true], q, rfl, by simp, hN, H5.grown, hRq, hq⟩
theorem run_load2C {P : Program} {o : Oper} {ty : TypeId} {x : Operand} (ho : o.op = .load ty x) {a : Act} {b k : Nat} (hx : a.eval x = .pointer (some ⟨b, k, none⟩)) {d : TypeDesc} (hu : P.underlying ty = some d) (hd : d.isRow = true) (hi : (P.info? ty).map (·.size) = some 2) {x0 x1 : Value} {w : World}
    (h0 : w.cell? ⟨b, k, none⟩ = some x0) (h1 : w.cell? ⟨b, k + 1, none⟩ = some x1) : (execOp a.eval o).run P w = .ok (.value (.agg #[x0, x1])) w := by
  have hc : w.rangeAt b k [x0, x1] := fun j v hv => by
    match j, hv with
    | 0, hv => simp at hv; subst hv; simpa using h0
    | 1, hv => simp at hv; subst hv; simpa using h1
    | j + 2, hv => simp at hv
  have hl := run_loadVar_mid (P := P) w b k ty [x0, x1] d hc hu hd hi
  unfold execOp
  simp only [ho, hx, Instr.loadAt, Instr.sureAddr, Sem.run_bind, Sem.run_pure, Result.andThen_ok, hl]
/-- the address and the capacity of a drawn list -/
def CapC (a : Option Addr) (n c : Nat) : Prop := (a = none ∧ n = 0 ∧ c = 0) ∨ ∃ g, a = some ⟨g, 0, none⟩ ∧ n ≤ c ∧ c ≤ 9223372036854775807
theorem own_capC {w : World} {base n size : Nat} {e : TypeId} {a : Option Addr} {c : Nat} {xs : List Value} (h : w.ownsRow base e size (.slice a n c) n xs) : CapC a n c := by
  obtain ⟨hl, ⟨h1, h2⟩ | ⟨g, cap, cur, h1, hg, hh, h3, h4, _, _⟩⟩ := h
  · injection h1 with e1 e2 e3
    exact .inl ⟨e1, e2, e3⟩
  · injection h1 with e1 e2 e3
    unfold maxLen at h4
    exact .inr ⟨g, e1, by omega, by omega⟩
/-- drawn clauses and drawn truth values -/
def DCnP (w : World) (e : Ending) (w' : World) : Prop :=
  ∃ m A c ds D d, ∃ l : List Bool, e = .returned (.tuple #[.agg #[.int .i64 m, .slice A ds.length c], .slice D l.length d]) ∧ -1 ≤ m ∧ m ≤ 61 ∧ ds.length ≤ 14 ∧ l.length ≤ 62 ∧ CapC A ds.length c ∧ IntSS w' A ds.length (llsC ds) ∧ (∀ k, k < ds.length → (llsC ds).N k ≤ 61) ∧ Bools w' D l.length (fun k => l.getD k false) ∧ Below w.heap.size w w'
set_option maxRecDepth 100000 in
set_option maxHeartbeats 4000000 in
theorem drawcnfis_any (B : Nat) (w : World) (a : Option Addr) (len cap : Nat) (hB : B ≤ w.heap.size) (hby : Bytes B w a len) (hlc : len ≤ cap) (hc : cap ≤ 9223372036854775807) :
    Calls Try.prog 9 #[.slice a len cap] w (DCnP w) := by
  have hO := open_any B (w.alloc (.cells #[.int .i64 0, .slice none 0 0] 25)) a len cap (by simp <;> omega) (hby.alloc _) hlc hc
  have rb := row2_newC w (.int .i64 0) (.slice none 0 0) 25
  have q0 := bal (Below.refl w.heap.size w) (.cells #[.int .i64 0, .slice none 0 0] 25)
  go_enter Try.func9, Try.ntmps9
  go_wp2_with fail
  refine hO.mono ?_
  rintro e w1 ⟨g, rfl, hb, hR, hg⟩
  clear hO
  have hgs : w.heap.size + 1 ≤ g := by simpa using hg
  replace q0 := btr q0 hb
  have rb1 := rb.of_block (hb.block _ rb.lt)
  have hlt := hR.lt
  have hle := hR.le
  clear hb hg rb
  go_wp2_with fail
  refine (l10cnf_any B w1 g 0 hR (by omega)).mono ?_
  rintro e w2 ⟨m, A, c, ds, q, rfl, hm1, hm2, hdl, hc1, hc2, hCL, hg2, hR2, hq⟩
  have rb2 := row_growC rb1 hg2 (by omega)
  replace q0 := q0.grown hg2 q0.size (fun r hr => by cases hr; omega)
  have bx := row2_newC w2 (.int .i64 m) (.slice A ds.length c) 25
  have al := bal (Below.refl w2.heap.size w2) (.cells #[.int .i64 m, .slice A ds.length c] 25)
  have hz2 := hg2.size
  replace rb2 := rb2.alloc (.cells #[.int .i64 m, .slice A ds.length c] 25)
  replace hCL := hCL.below al
  replace q0 := btr q0 al
  replace hR2 := hR2.alloc (.cells #[.int .i64 m, .slice A ds.length c] 25)
  have hCap := own_capC hCL.1
  have hN61 : ∀ k, k < ds.length → (llsC ds).N k ≤ 61 := fun k hk => by
    have hm : ds.getD k default ∈ ds := by rw [List.getD_eq_getElem?_getD, List.getElem?_eq_getElem hk]; exact List.getElem_mem hk
    exact (hCL.2 _ hm).2.2
  clear hg2 hR rb1 al
  go_upto_region 3 with fail
  generalize w2.alloc (.cells #[.int .i64 m, .slice A ds.length c] 25) = w3 at *
  have b0 : w3.cell? ⟨w2.heap.size, 0, none⟩ = some (.int .i64 m) := bx.cell (i := 0) (by decide)
  have b1 : w3.cell? ⟨w2.heap.size, 1, none⟩ = some (.slice A ds.length c) := bx.cell (i := 1) (by decide)
  have hgd : w3.grownBy w3.drew (some g) := grow_of_below (Below.refl w3.heap.size w3).drew _
  have hRd : RD B w3.drew g q := hR2.below (Below.refl w3.heap.size w3).drew
  have hz3 := bx.lt
  refine region_planC (fun w' => w3.grownBy w' (some g)) (.takes [0, 1, 2, 3] (.make 4 .fin)) 5 rfl (by kernel_rfl) hgd ?_
  refine plan_takes ?_; simp only [pickOps, List.getElem?_cons_zero, List.getElem?_cons_succ]
  refine quiet_doC rfl (.agg #[.int .i64 m, .slice A ds.length c]) (fun w' hw' => by exact run_load2C rfl (by kernel_rfl) Try.underlying25 rfl (by kernel_rfl) (grow_cell hw' (by omega) b0) (grow_cell hw' (by omega) b1)) ?_
  refine quiet_doC rfl (.pointer (some ⟨g, 0, none⟩)) (fun _ _ => by kernel_rfl) ?_
  refine quiet_doC rfl (.pointer (some ⟨w2.heap.size, 0, none⟩)) (fun _ _ => by kernel_rfl) ?_
  refine quiet_doC rfl (.int .i64 m) (fun w' hw' => by exact run_loadI rfl (by kernel_rfl) Try.underlying3 rfl (grow_cell hw' (by omega) b0)) ?_
  refine wpQuiet_nil ?_
  refine planC_call rfl rfl 29 #[.pointer (some ⟨g, 0, none⟩), .int .i64 m] (by kernel_rfl) ?_
  refine (l10valsI_any B w3.drew g q m.toNat m rfl hRd (by omega) (by omega)).mono ?_
  rintro e w4 ⟨D, d, l, q2, rfl, hl, hM, hg4, _, _⟩
  have hg34 := grow_trans hgd hg4
  refine ⟨_, rfl, hg34, ?_⟩
  refine plan_fin ?_
  simp only [List.drop_succ_cons, List.drop_zero, Act.put, List.setIfInBounds_toArray, List.set_cons_succ, List.set_cons_zero]
  have rb4 := row_growC rb2 hg34 (by omega)
  have r0 : w4.cell? ⟨w.heap.size, 0, none⟩ = some (.int .i64 0) := rb4.cell (i := 0) (by decide)
  have r1 : w4.cell? ⟨w.heap.size, 1, none⟩ = some (.slice none 0 0) := rb4.cell (i := 1) (by decide)
  have f0 : w4.frozen? ⟨w.heap.size, 0, none⟩ = false := rb4.frozen 0
  have f1 : w4.frozen? ⟨w.heap.size, 1, none⟩ = false := rb4.frozen 1
  have l0 := rb4.lt
  have H4 := hid (hCL.go hg34 (by omega) (by omega))
  have q4 := q0.grown hg34 q0.size (fun r hr => by cases hr; omega)
  have HM := hid hM
  have HZ := hid (show w.heap.size < w3.drew.heap.size from Nat.lt_of_lt_of_le (by omega) hgd.size)
  have hl2 : l.length ≤ 62 := by omega
  clear hCL hg4 hg34 hgd hRd hR2 bx b0 b1 rb2 rb4 q0 hM hl
  go_wp2
  obtain ⟨t0, t1⟩ := set2c r0 r1 (.int .i64 m) (.slice A ds.length c)
  have hne : (Value.slice A ds.length c).ownBlock ≠ some w.heap.size := fun e => by have := (H4.out.1.lt _ e).1; omega
  exact bodyPost_ret (v := .tuple #[.agg #[.int .i64 m, .slice A ds.length c], .slice D l.length d]) (by simp [results, Try.results9, go_sem, t0, t1]) rfl ⟨m, A, c, ds, D, d, l, rfl, hm1, hm2, hdl, hl2, hCap, ((H4.out.set (by omega) hne).set (by omega) hne).intss, hN61, ((HM.out.grow (grow_set _ _ _ _) HZ.out).grow (grow_set _ _ _ _) HZ.out).bools, bst (bst q4 (Nat.le_refl _) _) (Nat.le_refl _) _⟩
end Go.Proofs.Ytoechhdahokoiaa
