/- newPropagation. -/
import Derived.Test.YtjnngijilkdhbaaCuG
namespace Go.Proofs.Ytjnngijilkdhbaa
set_option linter.unusedVariables false
set_option linter.unusedSimpArgs false
open Go.RowKit
def NpI (L : Lls) (j n : Nat) (s : Ps) : Prop :=
  (∀ i, i < j → ∀ t, t < L.N i → s.C i t = L.Z i t) ∧ s.S = (fun _ => 0) ∧ s.T = [] ∧ (∀ i, i < j → 2 ≤ L.N i → i ∈ s.Wl (plc (L.Z i 0)) ∧ i ∈ s.Wl (plc (L.Z i 1))) ∧
  (∀ x, ofC x 60 = true → ∀ i, i ∈ s.Wl (plc x) → i < j ∧ 2 ≤ L.N i ∧ (L.Z i 0 = x ∨ L.Z i 1 = x)) ∧ (∀ x, ofC x 60 = true → (s.Wl (plc x)).Nodup) ∧ ∀ i, i < n → s.due i = decide (i < j ∧ L.N i < 2)
def NpN (L : Lls) (j t : Nat) : Nat → Nat := fun i => if i < j then L.N i else if i = j then t else 0
def NpS (lo b n : Nat) (L : Lls) (j t : Nat) (W : World) : Prop :=
  ∃ k s, PrM lo b k s W ∧ k.n = n ∧ k.N = NpN L j t ∧ NpI L j n s ∧ ∀ t', t' < t → s.C j t' = L.Z j t'
theorem NpI.nil (L : Lls) (n : Nat) : NpI L 0 n ps0 :=
  ⟨fun i hi => absurd hi (by omega), rfl, rfl, fun i hi => absurd hi (by omega), fun x _ i hi => absurd hi (by simp [ps0]), fun x _ => by simp [ps0], fun i _ => by simp [ps0]⟩
theorem NpI.short {L : Lls} {j n : Nat} {s : Ps} (h : NpI L j n s) (hj : j < n) (hC : ∀ t, t < L.N j → s.C j t = L.Z j t) (h2 : L.N j < 2) : NpI L (j + 1) n {s with due := fun i => if i = j then true else s.due i} := by
  obtain ⟨a1, a2, a3, a4, a5, a6, a7⟩ := h
  refine ⟨fun i hi t ht => ?_, a2, a3, fun i hi h3 => ?_, fun x hx i hi => ?_, a6, fun i hi => ?_⟩
  · by_cases e : i = j
    · subst e; exact hC t ht
    · exact a1 i (by omega) t ht
  · by_cases e : i = j
    · subst e; omega
    · exact a4 i (by omega) h3
  · obtain ⟨b1, b2⟩ := a5 x hx i hi
    exact ⟨by omega, b2⟩
  · simp only
    by_cases e : i = j
    · subst e; rw [if_pos rfl]; symm; exact decide_eq_true ⟨by omega, h2⟩
    · rw [if_neg e, a7 i hi]
      congr 1
      exact propext ⟨fun h => ⟨by omega, h.2⟩, fun h => ⟨by omega, h.2⟩⟩
theorem NpI.long {L : Lls} {j n : Nat} {s : Ps} (h : NpI L j n s) (hj : j < n) (hC : ∀ t, t < L.N j → s.C j t = L.Z j t) (h2 : 2 ≤ L.N j) (hne : L.Z j 0 ≠ L.Z j 1) (h0 : ofC (L.Z j 0) 60 = true) (h1 : ofC (L.Z j 1) 60 = true) (v v' : Value) :
    NpI L (j + 1) n {s with WV := fun q => if q = plc (L.Z j 1) then v' else (if q = plc (L.Z j 0) then v else s.WV q), Wl := fun q => if q = plc (L.Z j 1) then (if plc (L.Z j 1) = plc (L.Z j 0) then s.Wl (plc (L.Z j 0)) ++ [j] else s.Wl (plc (L.Z j 1))) ++ [j] else (if q = plc (L.Z j 0) then s.Wl (plc (L.Z j 0)) ++ [j] else s.Wl q)} := by
  obtain ⟨a1, a2, a3, a4, a5, a6, a7⟩ := h
  have hpp : plc (L.Z j 1) ≠ plc (L.Z j 0) := fun e => hne (plc_inj h0 h1 e.symm)
  have hnot : ∀ x, ofC x 60 = true → j ∉ s.Wl (plc x) := fun x hx hi => by have := (a5 x hx j hi).1; omega
  refine ⟨fun i hi t ht => ?_, a2, a3, fun i hi h3 => ?_, fun x hx i hi => ?_, fun x hx => ?_, fun i hi => ?_⟩
  · by_cases e : i = j
    · subst e; exact hC t ht
    · exact a1 i (by omega) t ht
  · simp only
    rw [if_neg hpp]
    have grow : ∀ p i, i ∈ s.Wl p → i ∈ (if p = plc (L.Z j 1) then s.Wl (plc (L.Z j 1)) ++ [j] else if p = plc (L.Z j 0) then s.Wl (plc (L.Z j 0)) ++ [j] else s.Wl p) := fun p i hm => by
      split
      · rename_i e; subst e; exact List.mem_append_left _ hm
      · split
        · rename_i e; subst e; exact List.mem_append_left _ hm
        · exact hm
    by_cases e : i = j
    · subst e
      refine ⟨?_, ?_⟩
      · rw [if_neg (Ne.symm hpp), if_pos rfl]; exact List.mem_append_right _ (List.mem_singleton.2 rfl)
      · rw [if_pos rfl]; exact List.mem_append_right _ (List.mem_singleton.2 rfl)
    · obtain ⟨b1, b2⟩ := a4 i (by omega) h3
      exact ⟨grow _ _ b1, grow _ _ b2⟩
  · simp only at hi
    rw [if_neg hpp] at hi
    split at hi
    · rename_i e
      rcases List.mem_append.1 hi with hi | hi
      · rw [← e] at hi
        obtain ⟨b1, b2⟩ := a5 x hx i hi
        exact ⟨by omega, b2⟩
      · obtain rfl := List.mem_singleton.1 hi
        exact ⟨by omega, h2, .inr (plc_inj h1 hx e.symm)⟩
    · split at hi
      · rename_i e
        rcases List.mem_append.1 hi with hi | hi
        · rw [← e] at hi
          obtain ⟨b1, b2⟩ := a5 x hx i hi
          exact ⟨by omega, b2⟩
        · obtain rfl := List.mem_singleton.1 hi
          exact ⟨by omega, h2, .inl (plc_inj h0 hx e.symm)⟩
      · obtain ⟨b1, b2⟩ := a5 x hx i hi
        exact ⟨by omega, b2⟩
  · simp only
    rw [if_neg hpp]
    have one : ∀ y, ofC y 60 = true → (s.Wl (plc y) ++ [j]).Nodup := fun y hy => by
      rw [List.nodup_append]
      refine ⟨a6 y hy, List.nodup_cons.2 ⟨List.not_mem_nil, List.nodup_nil⟩, fun a ha b hb => ?_⟩
      obtain rfl := List.mem_singleton.1 hb
      rintro rfl
      exact hnot y hy ha
    split
    · exact one _ h1
    · split
      · exact one _ h0
      · exact a6 x hx
  · simp only
    rw [a7 i hi]
    congr 1
    exact propext ⟨fun h => ⟨by omega, h.2⟩, fun h => by
      refine ⟨?_, h.2⟩
      by_cases e : i = j
      · subst e; omega
      · omega⟩
theorem NpI.fin {L : Lls} {n : Nat} {s : Ps} (h : NpI L n n s) (hinj : ∀ i, i < n → InjC (L.N i) (L.Z i)) : InvB n L s.C s.Wl s.T ∧ InvD n L s.C s.due s.T 0 ∧ SetS s.S s.T ∧ s.T = [] := by
  obtain ⟨a1, a2, a3, a4, a5, a6, a7⟩ := h
  rw [a3]
  refine ⟨⟨fun i hi x => ?_, fun i hi j k hj hk e => ?_, fun i hi h2 => ?_, fun x hx i hi => ?_, fun x hx _ => a6 x hx⟩, fun i hi => ?_, fun v hv => by rw [a2]; rfl, rfl⟩
  · exact ⟨fun ⟨k, hk, e⟩ => ⟨k, hk, by rw [← a1 i hi k hk]; exact e⟩, fun ⟨k, hk, e⟩ => ⟨k, hk, by rw [a1 i hi k hk]; exact e⟩⟩
  · rw [a1 i hi j hj, a1 i hi k hk] at e
    exact hinj i hi j k hj hk e
  · rw [a1 i hi 0 (by omega), a1 i hi 1 (by omega)]
    exact a4 i hi h2
  · obtain ⟨b1, b2, b3⟩ := a5 x hx i hi
    refine ⟨b1, b2, .inr ?_⟩
    rw [a1 i b1 0 (by omega), a1 i b1 1 (by omega)]
    exact b3
  · unfold Dd
    rw [a7 i hi]
    by_cases e : L.N i < 2
    · rw [if_pos (decide_eq_true ⟨hi, e⟩)]
      exact fun k k1 k2 => by omega
    · rw [if_neg (by simp; omega)]
      exact .inr ⟨by omega, by show (0 : Int) ≠ -1; decide, by show (0 : Int) ≠ -1; decide⟩
theorem infoMk : (Try.prog.info? 52).map (fun i => (i.zero, i.size, i.bytes)) = some (some (.int .i64 0), 1, 8) := by kernel_rfl
theorem infoMks : (Try.prog.info? 71).map (fun i => (i.zero, i.size, i.bytes)) = some (some (.slice none 0 0), 1, 24) := by kernel_rfl

theorem made_exec {P : Program} {o : Oper} {a : Act} {t : TypeId} {x y : Operand} {n : Nat} {v : Value} {w w' : World} (ho : o.op = .makeSlice t x y) (hx : a.eval x = .int .i64 (n : Int)) (hy : a.eval y = .int .i64 (n : Int)) (h : (Instr.makeSlice t (.int .i64 (n : Int)) (.int .i64 (n : Int))).run P w = .ok v w') : (execOp a.eval o).run P w = .ok (.value v) w' := by
  unfold execOp
  simp only [ho, hx, hy, Sem.run_bind, h, Result.andThen_ok, Sem.run_pure]
/-- worlds in which the clause's slice still stands -/
def NpC (w0 : World) (b j gc n : Nat) (v : Value) (W : World) : Prop := Below w0.heap.size w0 W ∧ W.cell? ⟨b, 0, none⟩ = some (.slice (some ⟨gc, 0, none⟩) n n) ∧ W.cell? ⟨gc, j, none⟩ = some v
/-- what newPropagation lays out: at b, in memory from lo up -/
def NewPr (lo : Nat) (n : Nat) (L : Lls) (e : Ending) (w' : World) : Prop :=
  ∃ b k s, e = .returned (.pointer (some ⟨b, 0, none⟩)) ∧ PrM lo b k s w' ∧ k.n = n ∧ k.N = L.N ∧ InvB n L s.C s.Wl s.T ∧ InvD n L s.C s.due s.T 0 ∧ SetS s.S s.T ∧ s.T = []
set_option maxHeartbeats 8000000 in
set_option maxRecDepth 100000 in
theorem newprop_any (A : Option Addr) (n c : Nat) (L : Lls) (m : Int) (w : World) (hn : n ≤ 400) (hA : IntSS w A n L) (hL : LitL n L) (hN : ∀ i, i < n → L.N i ≤ 61) (hinj : ∀ i, i < n → InjC (L.N i) (L.Z i)) :
    Calls Try.prog 40 #[.agg #[.int .i64 m, .slice A n c]] w fun e w' => NewPr w.heap.size n L e w' ∧ Below w.heap.size w w' := by
  have q0 := bal (Below.refl w.heap.size w) (.cells #[.int .i64 m, .slice A n c] 31)
  obtain ⟨c0, c1⟩ := pair_new w (.int .i64 m) (.slice A n c) 31
  go_enter Try.func40, Try.ntmps40
  go_upto_region 1 with fail
  generalize w.alloc (.cells #[.int .i64 m, .slice A n c] 31) = w1 at *
  have hlo1 : w.heap.size ≤ w1.heap.size := q0.size
  go_cut [3] (fun sp wx => ∃ b gc gd, sp = .pointer (some ⟨b, 0, none⟩) ∧ PrM w.heap.size b (pq0 gc gd n) ps0 wx ∧ Below w.heap.size w wx ∧ wx.cell? ⟨w.heap.size, 1, none⟩ = some (.slice A n c))
  case first =>
    have qd := (Below.refl w1.heap.size w1).drew
    refine region_planC (fun W => Below w.heap.size w W ∧ W.cell? ⟨w.heap.size, 1, none⟩ = some (.slice A n c)) (.takes [0, 1, 2, 4, 5, 6] (.fork 3 7 (.make 7 .fin) (.make 3 .fin))) 8 rfl (by kernel_rfl) ⟨btr q0 qd, carry qd c1⟩ ?_
    have hW1 := (show Below w.heap.size w w1.drew ∧ w1.drew.cell? ⟨w.heap.size, 1, none⟩ = some (.slice A n c) from ⟨btr q0 qd, carry qd c1⟩)
    have hlx : w.heap.size ≤ w1.drew.heap.size := Nat.le_trans hlo1 qd.size
    generalize w1.drew = x1 at *
    clear qd
    refine plan_takes ?_; simp only [pickOps, List.getElem?_cons_zero, List.getElem?_cons_succ]
    refine quiet_doC rfl (.pointer (some ⟨w.heap.size, 1, none⟩)) (fun W hW => by simp [execOp, go_sem]) ?_
    refine quiet_doC rfl (.slice A n c) (fun W hW => by simp [execOp, go_sem, hW.2]) ?_
    refine quiet_doC rfl (.int .i64 (n : Int)) (fun W hW => by simp [execOp, go_sem]) ?_
    refine quiet_doC rfl (.pointer (some ⟨w.heap.size, 1, none⟩)) (fun W hW => by simp [execOp, go_sem]) ?_
    refine quiet_doC rfl (.slice A n c) (fun W hW => by simp [execOp, go_sem, hW.2]) ?_
    refine quiet_doC rfl (.int .i64 (n : Int)) (fun W hW => by simp [execOp, go_sem]) ?_
    refine wpQuiet_nil ?_
    simp only [Act.put, List.setIfInBounds_toArray, List.set_cons_succ, List.set_cons_zero]
    refine plan_fork ?_ ?_
    · skip
      have CX := bal (Below.refl x1.heap.size x1) (.cells (madeCells #[(.slice none 0 0)] n) 71)
      have hW2 := (show Below w.heap.size w (x1.alloc (.cells (madeCells #[(.slice none 0 0)] n) 71)) ∧ (x1.alloc (.cells (madeCells #[(.slice none 0 0)] n) 71)).cell? ⟨w.heap.size, 1, none⟩ = some (.slice A n c) from ⟨btr hW1.1 CX, carry CX hW1.2⟩)
      refine planC_val rfl rfl (.slice (some ⟨x1.heap.size, 0, none⟩) n n) (w'' := x1.alloc (.cells (madeCells #[(.slice none 0 0)] n) 71)) (made_exec rfl rfl rfl (run_make_row' (P := Try.prog) 54 71 (.slice none 0 0) 24 Try.underlying54 infoMks rfl .i64 .i64 n (by omega) (by omega) _)) hW2 ?_
      have gcR := World.rowIs_made x1 (.slice none 0 0) n 71
      have hlz : w.heap.size ≤ (x1.alloc (.cells (madeCells #[(.slice none 0 0)] n) 71)).heap.size := Nat.le_trans hlx CX.size
      obtain ⟨gc, hb_c⟩ : ∃ g, g = x1.heap.size := ⟨_, rfl⟩
      rw [← hb_c] at gcR ⊢
      have hlc : w.heap.size ≤ gc := by rw [hb_c]; exact hlx
      clear CX
      generalize x1.alloc (.cells (madeCells #[(.slice none 0 0)] n) 71) = x2 at *
      have hly := hlz
      clear hlz
      simp only [Act.put, List.setIfInBounds_toArray, List.set_cons_succ, List.set_cons_zero]
      have CX := bal (Below.refl x2.heap.size x2) (.cells (madeCells #[(.bool false)] n) 4)
      have hW3 := (show Below w.heap.size w (x2.alloc (.cells (madeCells #[(.bool false)] n) 4)) ∧ (x2.alloc (.cells (madeCells #[(.bool false)] n) 4)).cell? ⟨w.heap.size, 1, none⟩ = some (.slice A n c) from ⟨btr hW2.1 CX, carry CX hW2.2⟩)
      refine planC_val rfl rfl (.slice (some ⟨x2.heap.size, 0, none⟩) n n) (w'' := x2.alloc (.cells (madeCells #[(.bool false)] n) 4)) (made_exec rfl rfl rfl (run_make_row' (P := Try.prog) 56 4 (.bool false) 1 Try.underlying56 infoBl rfl .i64 .i64 n (by omega) (by omega) _)) hW3 ?_
      have gdR := World.rowIs_made x2 (.bool false) n 4
      have hlz : w.heap.size ≤ (x2.alloc (.cells (madeCells #[(.bool false)] n) 4)).heap.size := Nat.le_trans hly CX.size
      replace gcR := row_below gcR CX
      obtain ⟨gd, hb_d⟩ : ∃ g, g = x2.heap.size := ⟨_, rfl⟩
      rw [← hb_d] at gdR ⊢
      have hld : w.heap.size ≤ gd := by rw [hb_d]; exact hly
      clear CX
      generalize x2.alloc (.cells (madeCells #[(.bool false)] n) 4) = x3 at *
      have hlw := hlz
      clear hlz
      simp only [Act.put, List.setIfInBounds_toArray, List.set_cons_succ, List.set_cons_zero]
      refine plan_fin ?_
      simp only [List.drop_succ_cons, List.drop_zero, Act.put, List.setIfInBounds_toArray, List.set_cons_succ, List.set_cons_zero]
      refine wpList_val rfl (v := .agg (arrP (.slice (some ⟨gc, 0, none⟩) n n) (.slice (some ⟨gd, 0, none⟩) n n))) (by kernel_rfl) ?_
      have hnew := prm_new w.heap.size gc gd n x3 hlc hld hlw gcR gdR
      generalize arrP (.slice (some ⟨gc, 0, none⟩) n n) (.slice (some ⟨gd, 0, none⟩) n n) = arr at *
      simp only [Act.put, List.setIfInBounds_toArray, List.set_cons_succ, List.set_cons_zero]
      have CX := bal (Below.refl x3.heap.size x3) (.cells arr 60)
      go_wp2_with fail
      go_meet
      exact ⟨_, gc, gd, rfl, hnew, btr hW3.1 CX, carry CX hW3.2⟩
    · skip
      have CX := bal (Below.refl x1.heap.size x1) (.cells (madeCells #[(.bool false)] n) 4)
      have hW2 := (show Below w.heap.size w (x1.alloc (.cells (madeCells #[(.bool false)] n) 4)) ∧ (x1.alloc (.cells (madeCells #[(.bool false)] n) 4)).cell? ⟨w.heap.size, 1, none⟩ = some (.slice A n c) from ⟨btr hW1.1 CX, carry CX hW1.2⟩)
      refine planC_val rfl rfl (.slice (some ⟨x1.heap.size, 0, none⟩) n n) (w'' := x1.alloc (.cells (madeCells #[(.bool false)] n) 4)) (made_exec rfl rfl rfl (run_make_row' (P := Try.prog) 56 4 (.bool false) 1 Try.underlying56 infoBl rfl .i64 .i64 n (by omega) (by omega) _)) hW2 ?_
      have gdR := World.rowIs_made x1 (.bool false) n 4
      have hlz : w.heap.size ≤ (x1.alloc (.cells (madeCells #[(.bool false)] n) 4)).heap.size := Nat.le_trans hlx CX.size
      obtain ⟨gd, hb_d⟩ : ∃ g, g = x1.heap.size := ⟨_, rfl⟩
      rw [← hb_d] at gdR ⊢
      have hld : w.heap.size ≤ gd := by rw [hb_d]; exact hlx
      clear CX
      generalize x1.alloc (.cells (madeCells #[(.bool false)] n) 4) = x2 at *
      have hly := hlz
      clear hlz
      simp only [Act.put, List.setIfInBounds_toArray, List.set_cons_succ, List.set_cons_zero]
      have CX := bal (Below.refl x2.heap.size x2) (.cells (madeCells #[(.slice none 0 0)] n) 71)
      have hW3 := (show Below w.heap.size w (x2.alloc (.cells (madeCells #[(.slice none 0 0)] n) 71)) ∧ (x2.alloc (.cells (madeCells #[(.slice none 0 0)] n) 71)).cell? ⟨w.heap.size, 1, none⟩ = some (.slice A n c) from ⟨btr hW2.1 CX, carry CX hW2.2⟩)
      refine planC_val rfl rfl (.slice (some ⟨x2.heap.size, 0, none⟩) n n) (w'' := x2.alloc (.cells (madeCells #[(.slice none 0 0)] n) 71)) (made_exec rfl rfl rfl (run_make_row' (P := Try.prog) 54 71 (.slice none 0 0) 24 Try.underlying54 infoMks rfl .i64 .i64 n (by omega) (by omega) _)) hW3 ?_
      have gcR := World.rowIs_made x2 (.slice none 0 0) n 71
      have hlz : w.heap.size ≤ (x2.alloc (.cells (madeCells #[(.slice none 0 0)] n) 71)).heap.size := Nat.le_trans hly CX.size
      replace gdR := row_below gdR CX
      obtain ⟨gc, hb_c⟩ : ∃ g, g = x2.heap.size := ⟨_, rfl⟩
      rw [← hb_c] at gcR ⊢
      have hlc : w.heap.size ≤ gc := by rw [hb_c]; exact hly
      clear CX
      generalize x2.alloc (.cells (madeCells #[(.slice none 0 0)] n) 71) = x3 at *
      have hlw := hlz
      clear hlz
      simp only [Act.put, List.setIfInBounds_toArray, List.set_cons_succ, List.set_cons_zero]
      refine plan_fin ?_
      simp only [List.drop_succ_cons, List.drop_zero, Act.put, List.setIfInBounds_toArray, List.set_cons_succ, List.set_cons_zero]
      refine wpList_val rfl (v := .agg (arrP (.slice (some ⟨gc, 0, none⟩) n n) (.slice (some ⟨gd, 0, none⟩) n n))) (by kernel_rfl) ?_
      have hnew := prm_new w.heap.size gc gd n x3 hlc hld hlw gcR gdR
      generalize arrP (.slice (some ⟨gc, 0, none⟩) n n) (.slice (some ⟨gd, 0, none⟩) n n) = arr at *
      simp only [Act.put, List.setIfInBounds_toArray, List.set_cons_succ, List.set_cons_zero]
      have CX := bal (Below.refl x3.heap.size x3) (.cells arr 60)
      go_wp2_with fail
      go_meet
      exact ⟨_, gc, gd, rfl, hnew, btr hW3.1 CX, carry CX hW3.2⟩
  case rest =>
    obtain ⟨b, gc, gd, rfl, hP, qx, cx⟩ := hcut
    have H0 := hid (show NpS w.heap.size b n L 0 0 _ from ⟨{pq0 gc gd n with N := NpN L 0 0}, ps0, hP.congrN (N' := NpN L 0 0) (fun i hi => by unfold NpN; rw [if_neg (by omega)]; split <;> rfl), rfl, rfl, NpI.nil L n, fun t ht => absurd ht (by omega)⟩)
    clear hP c0 c1
    have hnI : (n : Int) ≤ 400 := by omega
    have HLL := hid hL; have HNN := hid hN; have HIJ := hid hinj
    clear hL hN hinj
    obtain ⟨i0, hi0, hz0, hz1, hz2⟩ := info_parts infoMk
    have HI := hid hi0; clear hi0
    go_wp2
    go_loopw [21] (fun v wr => ∃ j : Nat, j ≤ n ∧ v = .int .i64 (j : Int) ∧ NpS w.heap.size b n L j 0 wr ∧ Below w.heap.size w wr) (fun v _ => n - (intOf v).toNat)
    case atStart => exact ⟨0, Nat.zero_le _, rfl, H0.out, qx⟩
    case round =>
      clear H0 qx cx
      obtain ⟨j, hj, rfl, hNp, hb⟩ := hrel
      by_cases hlt : j < n
      · rcases hA with h0 | ⟨g, off, rfl, hg, hcA⟩
        · omega
        obtain ⟨a, ca, a0, hNk, hZ⟩ := hcA j hlt
        have a1 := carry hb a0
        have HA := hid (show ∀ k, k < n → ∃ a c, w.cell? ⟨g, off + k, none⟩ = some (.slice a (L.N k) c) ∧ L.N k ≤ 9223372036854775807 ∧ Ints w a (L.N k) (L.Z k) from hcA)
        clear hcA a0
        have hj61 := HNN.out j hlt
        have hNI : (L.N j : Int) ≤ 61 := by omega
        have hjI : (j : Int) < (n : Int) := by omega
        have hlit : ∀ t, t < L.N j → ofC (L.Z j t) 60 = true := fun t ht => HLL.out j hlt _ ⟨t, ht, rfl⟩
        have HNP := hid hNp; clear hNp
        go_wp2
        go_loopw [28] (fun v wy => ∃ t : Nat, t ≤ L.N j ∧ v = .int .i64 (t : Int) ∧ NpS w.heap.size b n L j t wy ∧ Below w.heap.size w wy) (fun v _ => L.N j - (intOf v).toNat)
        case atStart => exact ⟨0, Nat.zero_le _, rfl, HNP.out, hb⟩
        case round =>
          clear HNP hb a1
          obtain ⟨t, ht, rfl, ⟨k, s, hP, hkn, hkN, hI, hC⟩, hb⟩ := hrel
          have hlw : w.heap.size ≤ wr.heap.size := hb.size
          by_cases hlt2 : t < L.N j
          · rcases hZ with h0 | ⟨ga, oa, rfl, hga, hcz⟩
            · omega
            have z1 := carry hb (hcz t hlt2)
            have HZ := hid (show ∀ u, u < L.N j → w.cell? ⟨ga, oa + u, none⟩ = some (.int .i64 (L.Z j u)) from hcz)
            clear hcz
            have hjk : j < k.n := by omega
            have hNj : k.N j = t := by rw [hkN]; unfold NpN; rw [if_neg (by omega), if_pos rfl]
            have p0 := hP.c0
            have pc := hP.cc hjk
            rw [hkn] at p0
            have HP := hid hP; have HKN := hid hkN; have HIn := hid hI; have HC := hid hC; have HNJ := hid hNj
            have ht61 : k.N j ≤ 61 := by omega
            clear hP hkN hI hC hNj
            go_upto_region 8 with fail
            have qd := (Below.refl wr.heap.size wr).drew
            refine region_planC (NpC w b j k.gc n (k.cv j)) (.takes [0, 1, 2, 3, 4, 5, 6, 7, 8, 9, 10, 11, 12] (.make 13 (.make 14 .fin))) 15 rfl (by kernel_rfl) ⟨btr hb qd, carry qd p0, carry qd pc⟩ ?_
            have hZ0 : NpC w b j k.gc n (k.cv j) wr.drew := ⟨btr hb qd, carry qd p0, carry qd pc⟩
            have hlx : w.heap.size ≤ wr.drew.heap.size := Nat.le_trans hlw qd.size
            have HPd := hid (HP.out.below qd)
            clear z1 p0 pc qd
            generalize wr.drew = x0 at *
            refine plan_takes ?_; simp only [pickOps, List.getElem?_cons_zero, List.getElem?_cons_succ]
            refine quiet_doC rfl (.pointer (some ⟨b, 0, none⟩)) (fun W hW => by simp [execOp, go_sem]) ?_
            refine quiet_doC rfl (.pointer (some ⟨b, 0, none⟩)) (fun W hW => by simp [execOp, go_sem]) ?_
            refine quiet_doC rfl (.pointer (some ⟨b, 0, none⟩)) (fun W hW => by simp [execOp, go_sem]) ?_
            refine quiet_doC rfl (.slice (some ⟨k.gc, 0, none⟩) n n) (fun W hW => by simp [execOp, go_sem, hW.2.1]) ?_
            refine quiet_doC rfl (.int .i64 (j : Int)) (fun W hW => by simp [execOp, go_sem]) ?_
            refine quiet_doC rfl (.pointer (some ⟨b, 0, none⟩)) (fun W hW => by simp [execOp, go_sem]) ?_
            refine quiet_doC rfl (.pointer (some ⟨b, 0, none⟩)) (fun W hW => by simp [execOp, go_sem]) ?_
            refine quiet_doC rfl (.pointer (some ⟨b, 0, none⟩)) (fun W hW => by simp [execOp, go_sem]) ?_
            refine quiet_doC rfl (.slice (some ⟨k.gc, 0, none⟩) n n) (fun W hW => by simp [execOp, go_sem, hW.2.1]) ?_
            refine quiet_doC rfl (.int .i64 (j : Int)) (fun W hW => by simp [execOp, go_sem]) ?_
            refine quiet_doC rfl (.pointer (some ⟨k.gc, j, none⟩)) (fun W hW => by simp [execOp, go_sem, hjI]) ?_
            refine quiet_doC rfl (k.cv j) (fun W hW => by simp [execOp, go_sem, hW.2.2]) ?_
            refine quiet_doC rfl (.int .i64 (L.Z j t)) (fun W hW => by simp [execOp, go_sem]) ?_
            refine wpQuiet_nil ?_
            simp only [Act.put, List.setIfInBounds_toArray, List.set_cons_succ, List.set_cons_zero]
            have CX := bal (Below.refl x0.heap.size x0) (.cells #[.int .i64 (L.Z j t)] 52)
            have hZ1 : NpC w b j k.gc n (k.cv j) (x0.alloc (.cells #[.int .i64 (L.Z j t)] 52)) := ⟨btr hZ0.1 CX, carry CX hZ0.2.1, carry CX hZ0.2.2⟩
            have hlo1 : w.heap.size ≤ (x0.alloc (.cells #[.int .i64 (L.Z j t)] 52)).heap.size := Nat.le_trans hlx CX.size
            refine planC_val rfl rfl (.slice (some ⟨x0.heap.size, 0, none⟩) 1 1) (w'' := x0.alloc (.cells #[.int .i64 (L.Z j t)] 52)) (by simp [execOp, go_sem]) hZ1 ?_
            have hnews := news_one x0 (.int .i64 (L.Z j t)) 52
            have HP1 := hid (HPd.out.below CX)
            clear hZ0 CX
            generalize x0.heap.size = nb at *
            generalize x0.alloc (.cells #[.int .i64 (L.Z j t)] 52) = x1 at *
            simp only [Act.put, List.setIfInBounds_toArray, List.set_cons_succ, List.set_cons_zero]
            have hO1 := HP1.out.cl j hjk
            refine planC_appendU rfl rfl _ _ 71 rfl w.heap.size 52 i0 _ 1 8 Try.underlying71 HI.out hz0 hz1 hz2 rfl (by decide) (k.cv j) (k.N j) (valsC (k.N j) (s.C j)) (by kernel_rfl) hO1 ⟨nb, 0, none⟩ 1 1 [.int .i64 (L.Z j t)] (by kernel_rfl) rfl hnews (fun u hu => by simp at hu; subst hu; rfl) (by unfold maxLen; omega) (by omega) hlo1 ?_
            intro v' w6 hown6 hgrow hfresh
            obtain ⟨av', cv', rfl⟩ := own_sliceU hown6
            have hgb : ∀ r, (k.cv j).ownBlock = some r → w.heap.size ≤ r := fun r hr => (hO1.lt r hr).1
            have hb6 : Below w.heap.size w w6 := hZ1.1.grown hgrow hlo1 hgb
            have hne1 : some b ≠ (k.cv j).ownBlock := fun e => absurd (own_ty hO1 HP1.out.box e.symm) (by decide)
            have hne2 : some k.gc ≠ (k.cv j).ownBlock := fun e => absurd (own_ty hO1 HP1.out.row e.symm) (by decide)
            have d0 : w6.cell? ⟨k.gc, j, none⟩ = some (k.cv j) := hgrow.cell hZ1.2.2 hne2
            refine ⟨⟨hb6, hgrow.cell hZ1.2.1 hne1, d0⟩, ?_⟩
            have g0 : w6.frozen? ⟨k.gc, j, none⟩ = false := (HP1.out.row.of_block (hgrow.block k.gc HP1.out.row.lt (fun e => hne2 e))).frozen j
            have hlog := HP1.out.loc
            have HF := hid (HP1.out.pushC (i := j) hjk hgrow hown6 hfresh)
            clear hown6 hgrow hfresh hO1 hgb hne1 hne2
            simp only [Act.put, List.setIfInBounds_toArray, List.set_cons_succ, List.set_cons_zero]
            refine plan_fin ?_
            simp only [List.drop_succ_cons, List.drop_zero, Act.put, List.setIfInBounds_toArray, List.set_cons_succ, List.set_cons_zero]
            unfold Pq.cv at d0
            go_wp2
            go_roundw
            case rel =>
              refine ⟨t + 1, by omega, by go_num, ⟨_, _, HF.out, hkn, ?_, ?_, ?_⟩, hb6.setCell hlog _⟩
              · funext i
                simp only
                rw [HNJ.out, HKN.out]
                unfold NpN
                by_cases e : i = j
                · rw [if_pos e, if_neg (by omega), if_pos e]
                · rw [if_neg e, if_neg e, if_neg e]
              · obtain ⟨a1, a2⟩ := HIn.out
                refine ⟨fun i hi t' ht' => ?_, a2⟩
                simp only
                rw [if_neg (by omega)]
                exact a1 i hi t' ht'
              · intro t' ht'
                simp only [↓reduceIte]
                rw [HNJ.out]
                by_cases e : t' = t
                · rw [if_pos e, e]
                · rw [if_neg e]; exact HC.out t' (by omega)
            case measure => simp [intOf]; omega
          · have hke : t = L.N j := by omega
            subst hke
            have hjk : j < k.n := by omega
            have hN1 : k.N = NpN L (j + 1) 0 := by
              rw [hkN]
              funext i
              unfold NpN
              by_cases e : i = j
              · subst e; rw [if_neg (by omega), if_pos rfl, if_pos (by omega)]
              · by_cases e2 : i < j
                · rw [if_pos e2, if_pos (by omega)]
                · rw [if_neg e2, if_neg e, if_neg (by omega)]
                  split <;> rfl
            clear hkN
            by_cases h2 : L.N j < 2
            · have d2 : decide ((L.N j : Int) < 2) = true := decide_eq_true (by omega)
              have e122 := hP.c122
              rw [hkn] at e122
              have ed := hP.cd hjk
              have fd := hP.du.frozen j
              have hlod := hP.lod
              have HF := hid (hP.setD j true)
              have HIn := hid (hI.short hlt hC h2)
              clear hP hI hC h2
              go_wp2
              go_roundw
              case rel => exact ⟨j + 1, by omega, by go_num, ⟨k, _, HF.out, hkn, hN1, HIn.out, fun t ht => absurd ht (by omega)⟩, hb.setCell hlod _⟩
              case measure => simp [intOf]; omega
            · have d2 : decide ((L.N j : Int) < 2) = false := decide_eq_false (by omega)
              have h22 : 2 ≤ L.N j := by omega
              have l0 := hlit 0 (by omega)
              have l1 := hlit 1 (by omega)
              have hne : L.Z j 0 ≠ L.Z j 1 := fun e => by have := HIJ.out j hlt 0 1 (by omega) (by omega) e; omega
              have hpp : plc (L.Z j 1) ≠ plc (L.Z j 0) := fun e => hne (plc_inj l0 l1 e.symm)
              rcases hZ with h0 | ⟨ga, oa, rfl, hga, hcz⟩
              · omega
              have z0 := carry hb (hcz 0 (by omega))
              rw [Nat.add_zero] at z0
              have zw := hcz 1 (by omega)
              have hNI1 : (1 : Int) < (L.N j : Int) := by omega
              have hNI0 : (0 : Int) < (L.N j : Int) := by omega
              have hl0 : ∀ y, ofC y 60 = true → (s.Wl (plc y)).length ≤ 1000000 := fun y hy => by
                have h3 := nodup_le j _ (hI.2.2.2.2.2.1 y hy) (fun i hi => (hI.2.2.2.2.1 y hy i hi).1)
                omega
              have hW1 := watch_any w.heap.size b j k s (L.Z j 0) wr hP l0 (hl0 _ l0) hlw
              have hl1 := hl0 _ l1
              have HIn := hid (fun v v' => hI.long hlt hC h22 hne l0 l1 v v')
              clear hP hI hC h2 hcz hl0
              go_wp2_with fail
              refine hW1.mono ?_
              rintro e w2 ⟨rfl, ⟨v1, hP1⟩, hq1⟩
              have q2 := hb.trans hq1
              have z1 := carry q2 zw
              have hW2 := watch_any w.heap.size b j k _ (L.Z j 1) w2 hP1 l1 (by show (if plc (L.Z j 1) = plc (L.Z j 0) then _ else _ : List Nat).length ≤ _; rw [if_neg hpp]; exact hl1) q2.size
              clear hW1 z0 hP1
              go_wp2_with fail
              refine hW2.mono ?_
              rintro e w3 ⟨rfl, ⟨v2, hP2⟩, hq2⟩
              have HP2 := hid hP2
              clear hW2 z1 hP2
              go_wp2
              go_roundw
              case rel => exact ⟨j + 1, by omega, by go_num, ⟨k, _, HP2.out, hkn, hN1, HIn.out v1 v2, fun t ht => absurd ht (by omega)⟩, q2.trans hq2⟩
              case measure => simp [intOf]; omega
      · have hke : j = n := by omega
        subst hke
        obtain ⟨k, s, hP, hkn, hkN, hI, _⟩ := hNp
        obtain ⟨f1, f2, f3, f4⟩ := hI.fin HIJ.out
        go_wp2
        go_ret
        refine ⟨⟨b, {k with N := L.N}, s, rfl, hP.congrN (fun i hi => by rw [hkN]; unfold NpN; rw [if_pos (by omega)]), hkn, rfl, f1, f2, f3, f4⟩, hb⟩
end Go.Proofs.Ytjnngijilkdhbaa
