/- Methods of literals and of sets of literals; watch. -/
import Derived.Test.YtjnngijilkdhbaaCuC
import Derived.Test.YtjnngijilkdhbaaAppF
namespace Go.Proofs.Ytjnngijilkdhbaa
set_option linter.unusedVariables false
set_option linter.unusedSimpArgs false
open Go.RowKit
theorem plc_lt {x : Int} (h : ofC x 60 = true) : plc x < 121 ∧ (plc x : Int) = 60 + x := by have := ofC_iff.1 h; unfold plc; omega
theorem place_any (x : Int) (w : World) (hx : ofC x 60 = true) :
    Calls Try.prog 58 #[.int .i64 x] w fun e w' => e = .returned (.int .i64 (plc x : Int)) ∧ w = w' := by
  obtain ⟨_, x1, x2⟩ := ofC_iff.1 hx
  rw [(plc_lt hx).2]
  clear hx
  go_enter Try.func58, Try.ntmps58
  go_wp2
  go_ret
  exact ⟨rfl, rfl⟩
set_option maxHeartbeats 2000000 in
theorem hasU_any (b o v : Nat) (x y : Int) (w : World) (c0 : w.cell? ⟨b, o + v, none⟩ = some (.int .i64 y)) (hx : -9223372036854775807 ≤ x ∧ x ≤ 9223372036854775807) (hv : vrC x = (v : Int)) (hv1 : v ≤ 60) :
    Calls Try.prog 61 #[.pointer (some ⟨b, o, none⟩), .int .i64 x] w fun e w' => e = .returned (.bool (y == x)) ∧ Below w.heap.size w w' := by
  have hlt := cell_lt c0
  have hV := fun X : Gro w => (variable_any x (gro w X) hx).mono fun e w' h => (⟨h.1.trans (by rw [hv]), h.2 ▸ Below.refl _ _⟩ : e = .returned (.int .i64 (v : Int)) ∧ Below (gro w X).heap.size (gro w X) w')
  have gc := @gro_cell w
  go_enter Try.func61, Try.ntmps61
  go_upto_region 1 with fail
  refine wp_region_grow_lit (by kernel_rfl) (by kernel_rfl) ?_
  repeat (go_big_quiet_step ((go_at_call 55; exact grow_call _ (hV _))))
  refine wpQuiet_nil ?_
  rintro _ ⟨X, rfl⟩
  clear gc
  go_wp2
  go_ret
  exact ⟨rfl, X.h⟩
set_option maxHeartbeats 2000000 in
theorem freeU_any (b o v : Nat) (x y : Int) (w : World) (c0 : w.cell? ⟨b, o + v, none⟩ = some (.int .i64 y)) (hx : -9223372036854775807 ≤ x ∧ x ≤ 9223372036854775807) (hv : vrC x = (v : Int)) (hv1 : v ≤ 60) :
    Calls Try.prog 42 #[.pointer (some ⟨b, o, none⟩), .int .i64 x] w fun e w' => e = .returned (.bool (y == 0)) ∧ Below w.heap.size w w' := by
  have hlt := cell_lt c0
  have hV := fun X : Gro w => (variable_any x (gro w X) hx).mono fun e w' h => (⟨h.1.trans (by rw [hv]), h.2 ▸ Below.refl _ _⟩ : e = .returned (.int .i64 (v : Int)) ∧ Below (gro w X).heap.size (gro w X) w')
  have gc := @gro_cell w
  go_enter Try.func42, Try.ntmps42
  go_upto_region 1 with fail
  refine wp_region_grow_lit (by kernel_rfl) (by kernel_rfl) ?_
  repeat (go_big_quiet_step ((go_at_call 55; exact grow_call _ (hV _))))
  refine wpQuiet_nil ?_
  rintro _ ⟨X, rfl⟩
  clear gc
  go_wp2
  go_ret
  exact ⟨rfl, X.h⟩
set_option maxHeartbeats 2000000 in
theorem addU_any (b o v : Nat) (x y : Int) (w : World) (c0 : w.cell? ⟨b, o + v, none⟩ = some (.int .i64 y)) (f0 : w.frozen? ⟨b, o + v, none⟩ = false) (hx : -9223372036854775807 ≤ x ∧ x ≤ 9223372036854775807) (hv : vrC x = (v : Int)) (hv1 : v ≤ 60) :
    Calls Try.prog 56 #[.pointer (some ⟨b, o, none⟩), .int .i64 x] w fun e w' => e = .returned (.tuple #[]) ∧ ∃ w1, Below w.heap.size w w1 ∧ w' = w1.setCell ⟨b, o + v, none⟩ (.int .i64 x) := by
  have hlt := cell_lt c0
  have hV := fun X : Gro w => (variable_any x (gro w X) hx).mono fun e w' h => (⟨h.1.trans (by rw [hv]), h.2 ▸ Below.refl _ _⟩ : e = .returned (.int .i64 (v : Int)) ∧ Below (gro w X).heap.size (gro w X) w')
  have gc := @gro_cell w
  go_enter Try.func56, Try.ntmps56
  go_upto_region 0 with fail
  refine region_grow_tail 6 (by kernel_rfl) (by kernel_rfl) ?_; simp only [List.take_succ_cons, List.take_zero, List.drop_succ_cons, List.drop_zero]; (repeat (go_big_quiet_step ((go_at_call 55; exact grow_call _ (hV _))))); refine wpQuiet_nil ?_
  intro w1 hq
  clear gc
  have d0 := carry hq c0
  have g0 := carryf hq f0 hlt
  go_wp2
  go_end0
  exact ⟨rfl, w1, hq, rfl⟩
theorem own_sliceU {w : World} {base n size : Nat} {e : TypeId} {v : Value} {xs : List Value} (h : w.ownsRow base e size v n xs) : ∃ a c, v = .slice a n c := by
  obtain ⟨_, ⟨rfl, h0⟩ | ⟨g, cap, cur, rfl, _, _, h1, h2, _⟩⟩ := h
  · exact ⟨none, 0, by rw [h0]⟩
  · exact ⟨_, cap, rfl⟩
theorem news_one (x : World) (v : Value) (t : TypeId) : ∀ (j : Nat) (u : Value), ([v] : List Value)[j]? = some u → (x.alloc (.cells #[v] t)).cell? ((⟨x.heap.size, 0, none⟩ : Addr).add j) = some u := by
  intro j u h
  match j with
  | 0 => simp at h; subst h; simp [go_sem, Addr.add]
  | j + 1 => simp at h
/-- worlds in which a cell of the list of a literal's watchers still stands -/
def WaC (lo b p : Nat) (v : Value) (w0 W : World) : Prop := Below lo w0 W ∧ W.cell? ⟨b, 1 + p, none⟩ = some v
set_option maxHeartbeats 8000000 in
set_option maxRecDepth 100000 in
theorem watch_any (lo b i : Nat) (k : Pq) (s : Ps) (x : Int) (w : World) (hP : PrM lo b k s w) (hx : ofC x 60 = true) (hlen : (s.Wl (plc x)).length ≤ 1000000) (hlo : lo ≤ w.heap.size) :
    Calls Try.prog 54 #[.pointer (some ⟨b, 0, none⟩), .int .i64 (i : Int), .int .i64 x] w fun e w' => e = .returned (.tuple #[]) ∧ (∃ v', PrM lo b k {s with WV := fun q => if q = plc x then v' else s.WV q, Wl := fun q => if q = plc x then s.Wl (plc x) ++ [i] else s.Wl q} w') ∧ Below lo w w' := by
  have hpl := fun W => place_any x W hx
  have hp := (plc_lt hx).1
  generalize plc x = p at *
  have hcw := hP.cw hp
  have hpI : (p : Int) < 121 := by omega
  obtain ⟨i0, hi, hz0, hz1, hz2⟩ := info_parts infoI
  obtain ⟨av, cv, hav⟩ := own_sliceU (hP.wl p hp)
  rw [hav] at hcw
  have HP := hid hP; clear hP
  have HI := hid hi; clear hi
  have HAV := hid hav; clear hav
  have hn9 : (s.Wl p).length ≤ 1000000 := hlen
  generalize hnn : (s.Wl p).length = nn at *
  have HNN := hid hnn; clear hnn
  go_enter Try.func54, Try.ntmps54
  go_upto_region 0 with fail
  have qd := (Below.refl w.heap.size w).drew
  have hb0 := qd.mono hlo
  have hcw0 := carry qd hcw
  have HP0 := hid (HP.out.below qd)
  have hlo0 : lo ≤ w.drew.heap.size := Nat.le_trans hlo qd.size
  refine region_planC (WaC lo b p (.slice av nn cv) w) (.takes [0, 1, 3, 4, 6, 7, 10, 13, 14] (.fork 2 11 (.fork 5 11 (.takes [8, 9] (.make 11 (.make 12 (.takes [15] .fin)))) (.make 5 (.takes [8, 9] (.make 12 (.takes [15] .fin))))) (.make 2 (.make 5 (.takes [8, 9] (.make 12 (.takes [15] .fin))))))) 16 rfl (by kernel_rfl) ⟨hb0, hcw0⟩ ?_
  generalize w.drew = x0 at *
  clear qd hcw
  have hZ : WaC lo b p (.slice av nn cv) w x0 := ⟨hb0, hcw0⟩
  refine plan_takes ?_; simp only [pickOps, List.getElem?_cons_zero, List.getElem?_cons_succ]
  refine quiet_doC rfl (.pointer (some ⟨b, 0, none⟩)) (fun W hW => by simp [execOp, go_sem]) ?_
  refine quiet_doC rfl (.int .i64 x) (fun W hW => by simp [execOp, go_sem]) ?_
  refine quiet_doC rfl (.pointer (some ⟨b, 0, none⟩)) (fun W hW => by simp [execOp, go_sem]) ?_
  refine quiet_doC rfl (.int .i64 x) (fun W hW => by simp [execOp, go_sem]) ?_
  refine quiet_doC rfl (.pointer (some ⟨b, 0, none⟩)) (fun W hW => by simp [execOp, go_sem]) ?_
  refine quiet_doC rfl (.pointer (some ⟨b, 1, none⟩)) (fun W hW => by simp [execOp, go_sem]) ?_
  refine quiet_doC rfl (.int .i64 (i : Int)) (fun W hW => by simp [execOp, go_sem]) ?_
  refine quiet_doC rfl (.pointer (some ⟨b, 0, none⟩)) (fun W hW => by simp [execOp, go_sem]) ?_
  refine quiet_doC rfl (.pointer (some ⟨b, 1, none⟩)) (fun W hW => by simp [execOp, go_sem]) ?_
  refine wpQuiet_nil ?_
  simp only [Act.put, List.setIfInBounds_toArray, List.set_cons_succ, List.set_cons_zero]
  refine plan_fork ?_ ?_
  · skip
    refine planC_call rfl rfl 58 #[.int .i64 x] (by kernel_rfl) ((hpl _).mono ?_)
    rintro e _ ⟨rfl, rfl⟩
    refine ⟨_, rfl, hZ, ?_⟩
    simp only [Act.put, List.setIfInBounds_toArray, List.set_cons_succ, List.set_cons_zero]
    refine plan_fork ?_ ?_
    · skip
      refine planC_call rfl rfl 58 #[.int .i64 x] (by kernel_rfl) ((hpl _).mono ?_)
      rintro e _ ⟨rfl, rfl⟩
      refine ⟨_, rfl, hZ, ?_⟩
      simp only [Act.put, List.setIfInBounds_toArray, List.set_cons_succ, List.set_cons_zero]
      refine plan_takes ?_; simp only [pickOps, List.getElem?_cons_zero, List.getElem?_cons_succ]
      refine quiet_doC rfl (.pointer (some ⟨b, 1 + p, none⟩)) (fun W hW => by simp [execOp, go_sem, hpI]) ?_
      refine quiet_doC rfl (.slice av nn cv) (fun W hW => by simp [execOp, go_sem, hW.2]) ?_
      refine wpQuiet_nil ?_
      simp only [Act.put, List.setIfInBounds_toArray, List.set_cons_succ, List.set_cons_zero]
      have CX := bal (Below.refl x0.heap.size x0) (.cells #[.int .i64 (i : Int)] 3)
      have hZ1 : WaC lo b p (.slice av nn cv) w (x0.alloc (.cells #[.int .i64 (i : Int)] 3)) := ⟨hb0.trans (CX.mono hlo0), carry CX hcw0⟩
      have hlo1 : lo ≤ (x0.alloc (.cells #[.int .i64 (i : Int)] 3)).heap.size := Nat.le_trans hlo0 CX.size
      refine planC_val rfl rfl (.slice (some ⟨x0.heap.size, 0, none⟩) 1 1) (w'' := x0.alloc (.cells #[.int .i64 (i : Int)] 3)) (by simp [execOp, go_sem]) hZ1 ?_
      have hnews := news_one x0 (.int .i64 (i : Int)) 3
      have HP1 := hid (HP0.out.below CX)
      clear hZ CX
      generalize x0.heap.size = nb at *
      generalize x0.alloc (.cells #[.int .i64 (i : Int)] 3) = x1 at *
      have hZ := hZ1
      simp only [Act.put, List.setIfInBounds_toArray, List.set_cons_succ, List.set_cons_zero]
      have hO1 := HP1.out.wl p hp
      rw [HAV.out, HNN.out] at hO1
      refine planC_appendU rfl rfl _ _ 38 rfl lo 3 i0 _ 1 8 Try.underlying38 HI.out hz0 hz1 hz2 rfl (by decide) (.slice av nn cv) nn (valsN (s.Wl p)) (by kernel_rfl) hO1 ⟨nb, 0, none⟩ 1 1 [.int .i64 (i : Int)] (by kernel_rfl) rfl hnews (fun u hu => by simp at hu; subst hu; rfl) (by unfold maxLen; omega) (by omega) hlo1 ?_
      intro v' w6 hown6 hgrow hfresh
      have hgb : ∀ r, (Value.slice av nn cv).ownBlock = some r → lo ≤ r := fun r hr => (hO1.lt r hr).1
      have hk1 := (HP1.out.keepW hO1 hgrow).1
      have hb6 : Below lo w w6 := hZ.1.grown hgrow hlo1 hgb
      have d0 : w6.cell? ⟨b, 1 + p, none⟩ = some (.slice av nn cv) := by
        have h1 := hk1.cell (i := 1 + p) (by omega)
        rw [prF_w hp, HAV.out] at h1
        exact h1
      refine ⟨⟨hb6, d0⟩, ?_⟩
      have g0 : w6.frozen? ⟨b, 1 + p, none⟩ = false := hk1.frozen (1 + p)
      have hlob := HP1.out.lob
      have HF := hid (HP1.out.watch (v' := v') (w' := w6) (i := i) hp (by rw [HAV.out]; exact hgrow) (by rw [HNN.out]; exact hown6) (by rw [HAV.out]; exact hfresh))
      obtain ⟨av', cv', rfl⟩ := own_sliceU hown6
      clear hown6 hgrow hfresh hk1 hO1 hgb
      simp only [Act.put, List.setIfInBounds_toArray, List.set_cons_succ, List.set_cons_zero]
      refine plan_takes ?_; simp only [pickOps, List.getElem?_cons_zero, List.getElem?_cons_succ]
      refine quiet_doC rfl (.pointer (some ⟨b, 1 + p, none⟩)) (fun W hW => by simp [execOp, go_sem, hpI]) ?_
      refine wpQuiet_nil ?_
      simp only [Act.put, List.setIfInBounds_toArray, List.set_cons_succ, List.set_cons_zero]
      refine plan_fin ?_
      simp only [List.drop_succ_cons, List.drop_zero, Act.put, List.setIfInBounds_toArray, List.set_cons_succ, List.set_cons_zero]
      go_wp2
      go_end0
      exact ⟨rfl, ⟨_, HF.out⟩, hb6.setCell hlob _⟩
    · skip
      have CX := bal (Below.refl x0.heap.size x0) (.cells #[.int .i64 (i : Int)] 3)
      have hZ1 : WaC lo b p (.slice av nn cv) w (x0.alloc (.cells #[.int .i64 (i : Int)] 3)) := ⟨hb0.trans (CX.mono hlo0), carry CX hcw0⟩
      have hlo1 : lo ≤ (x0.alloc (.cells #[.int .i64 (i : Int)] 3)).heap.size := Nat.le_trans hlo0 CX.size
      refine planC_val rfl rfl (.slice (some ⟨x0.heap.size, 0, none⟩) 1 1) (w'' := x0.alloc (.cells #[.int .i64 (i : Int)] 3)) (by simp [execOp, go_sem]) hZ1 ?_
      have hnews := news_one x0 (.int .i64 (i : Int)) 3
      have HP1 := hid (HP0.out.below CX)
      clear hZ CX
      generalize x0.heap.size = nb at *
      generalize x0.alloc (.cells #[.int .i64 (i : Int)] 3) = x1 at *
      have hZ := hZ1
      simp only [Act.put, List.setIfInBounds_toArray, List.set_cons_succ, List.set_cons_zero]
      refine planC_call rfl rfl 58 #[.int .i64 x] (by kernel_rfl) ((hpl _).mono ?_)
      rintro e _ ⟨rfl, rfl⟩
      refine ⟨_, rfl, hZ, ?_⟩
      simp only [Act.put, List.setIfInBounds_toArray, List.set_cons_succ, List.set_cons_zero]
      refine plan_takes ?_; simp only [pickOps, List.getElem?_cons_zero, List.getElem?_cons_succ]
      refine quiet_doC rfl (.pointer (some ⟨b, 1 + p, none⟩)) (fun W hW => by simp [execOp, go_sem, hpI]) ?_
      refine quiet_doC rfl (.slice av nn cv) (fun W hW => by simp [execOp, go_sem, hW.2]) ?_
      refine wpQuiet_nil ?_
      simp only [Act.put, List.setIfInBounds_toArray, List.set_cons_succ, List.set_cons_zero]
      have hO1 := HP1.out.wl p hp
      rw [HAV.out, HNN.out] at hO1
      refine planC_appendU rfl rfl _ _ 38 rfl lo 3 i0 _ 1 8 Try.underlying38 HI.out hz0 hz1 hz2 rfl (by decide) (.slice av nn cv) nn (valsN (s.Wl p)) (by kernel_rfl) hO1 ⟨nb, 0, none⟩ 1 1 [.int .i64 (i : Int)] (by kernel_rfl) rfl hnews (fun u hu => by simp at hu; subst hu; rfl) (by unfold maxLen; omega) (by omega) hlo1 ?_
      intro v' w6 hown6 hgrow hfresh
      have hgb : ∀ r, (Value.slice av nn cv).ownBlock = some r → lo ≤ r := fun r hr => (hO1.lt r hr).1
      have hk1 := (HP1.out.keepW hO1 hgrow).1
      have hb6 : Below lo w w6 := hZ.1.grown hgrow hlo1 hgb
      have d0 : w6.cell? ⟨b, 1 + p, none⟩ = some (.slice av nn cv) := by
        have h1 := hk1.cell (i := 1 + p) (by omega)
        rw [prF_w hp, HAV.out] at h1
        exact h1
      refine ⟨⟨hb6, d0⟩, ?_⟩
      have g0 : w6.frozen? ⟨b, 1 + p, none⟩ = false := hk1.frozen (1 + p)
      have hlob := HP1.out.lob
      have HF := hid (HP1.out.watch (v' := v') (w' := w6) (i := i) hp (by rw [HAV.out]; exact hgrow) (by rw [HNN.out]; exact hown6) (by rw [HAV.out]; exact hfresh))
      obtain ⟨av', cv', rfl⟩ := own_sliceU hown6
      clear hown6 hgrow hfresh hk1 hO1 hgb
      simp only [Act.put, List.setIfInBounds_toArray, List.set_cons_succ, List.set_cons_zero]
      refine plan_takes ?_; simp only [pickOps, List.getElem?_cons_zero, List.getElem?_cons_succ]
      refine quiet_doC rfl (.pointer (some ⟨b, 1 + p, none⟩)) (fun W hW => by simp [execOp, go_sem, hpI]) ?_
      refine wpQuiet_nil ?_
      simp only [Act.put, List.setIfInBounds_toArray, List.set_cons_succ, List.set_cons_zero]
      refine plan_fin ?_
      simp only [List.drop_succ_cons, List.drop_zero, Act.put, List.setIfInBounds_toArray, List.set_cons_succ, List.set_cons_zero]
      go_wp2
      go_end0
      exact ⟨rfl, ⟨_, HF.out⟩, hb6.setCell hlob _⟩
  · skip
    have CX := bal (Below.refl x0.heap.size x0) (.cells #[.int .i64 (i : Int)] 3)
    have hZ1 : WaC lo b p (.slice av nn cv) w (x0.alloc (.cells #[.int .i64 (i : Int)] 3)) := ⟨hb0.trans (CX.mono hlo0), carry CX hcw0⟩
    have hlo1 : lo ≤ (x0.alloc (.cells #[.int .i64 (i : Int)] 3)).heap.size := Nat.le_trans hlo0 CX.size
    refine planC_val rfl rfl (.slice (some ⟨x0.heap.size, 0, none⟩) 1 1) (w'' := x0.alloc (.cells #[.int .i64 (i : Int)] 3)) (by simp [execOp, go_sem]) hZ1 ?_
    have hnews := news_one x0 (.int .i64 (i : Int)) 3
    have HP1 := hid (HP0.out.below CX)
    clear hZ CX
    generalize x0.heap.size = nb at *
    generalize x0.alloc (.cells #[.int .i64 (i : Int)] 3) = x1 at *
    have hZ := hZ1
    simp only [Act.put, List.setIfInBounds_toArray, List.set_cons_succ, List.set_cons_zero]
    refine planC_call rfl rfl 58 #[.int .i64 x] (by kernel_rfl) ((hpl _).mono ?_)
    rintro e _ ⟨rfl, rfl⟩
    refine ⟨_, rfl, hZ, ?_⟩
    simp only [Act.put, List.setIfInBounds_toArray, List.set_cons_succ, List.set_cons_zero]
    refine planC_call rfl rfl 58 #[.int .i64 x] (by kernel_rfl) ((hpl _).mono ?_)
    rintro e _ ⟨rfl, rfl⟩
    refine ⟨_, rfl, hZ, ?_⟩
    simp only [Act.put, List.setIfInBounds_toArray, List.set_cons_succ, List.set_cons_zero]
    refine plan_takes ?_; simp only [pickOps, List.getElem?_cons_zero, List.getElem?_cons_succ]
    refine quiet_doC rfl (.pointer (some ⟨b, 1 + p, none⟩)) (fun W hW => by simp [execOp, go_sem, hpI]) ?_
    refine quiet_doC rfl (.slice av nn cv) (fun W hW => by simp [execOp, go_sem, hW.2]) ?_
    refine wpQuiet_nil ?_
    simp only [Act.put, List.setIfInBounds_toArray, List.set_cons_succ, List.set_cons_zero]
    have hO1 := HP1.out.wl p hp
    rw [HAV.out, HNN.out] at hO1
    refine planC_appendU rfl rfl _ _ 38 rfl lo 3 i0 _ 1 8 Try.underlying38 HI.out hz0 hz1 hz2 rfl (by decide) (.slice av nn cv) nn (valsN (s.Wl p)) (by kernel_rfl) hO1 ⟨nb, 0, none⟩ 1 1 [.int .i64 (i : Int)] (by kernel_rfl) rfl hnews (fun u hu => by simp at hu; subst hu; rfl) (by unfold maxLen; omega) (by omega) hlo1 ?_
    intro v' w6 hown6 hgrow hfresh
    have hgb : ∀ r, (Value.slice av nn cv).ownBlock = some r → lo ≤ r := fun r hr => (hO1.lt r hr).1
    have hk1 := (HP1.out.keepW hO1 hgrow).1
    have hb6 : Below lo w w6 := hZ.1.grown hgrow hlo1 hgb
    have d0 : w6.cell? ⟨b, 1 + p, none⟩ = some (.slice av nn cv) := by
      have h1 := hk1.cell (i := 1 + p) (by omega)
      rw [prF_w hp, HAV.out] at h1
      exact h1
    refine ⟨⟨hb6, d0⟩, ?_⟩
    have g0 : w6.frozen? ⟨b, 1 + p, none⟩ = false := hk1.frozen (1 + p)
    have hlob := HP1.out.lob
    have HF := hid (HP1.out.watch (v' := v') (w' := w6) (i := i) hp (by rw [HAV.out]; exact hgrow) (by rw [HNN.out]; exact hown6) (by rw [HAV.out]; exact hfresh))
    obtain ⟨av', cv', rfl⟩ := own_sliceU hown6
    clear hown6 hgrow hfresh hk1 hO1 hgb
    simp only [Act.put, List.setIfInBounds_toArray, List.set_cons_succ, List.set_cons_zero]
    refine plan_takes ?_; simp only [pickOps, List.getElem?_cons_zero, List.getElem?_cons_succ]
    refine quiet_doC rfl (.pointer (some ⟨b, 1 + p, none⟩)) (fun W hW => by simp [execOp, go_sem, hpI]) ?_
    refine wpQuiet_nil ?_
    simp only [Act.put, List.setIfInBounds_toArray, List.set_cons_succ, List.set_cons_zero]
    refine plan_fin ?_
    simp only [List.drop_succ_cons, List.drop_zero, Act.put, List.setIfInBounds_toArray, List.set_cons_succ, List.set_cons_zero]
    go_wp2
    go_end0
    exact ⟨rfl, ⟨_, HF.out⟩, hb6.setCell hlob _⟩
end Go.Proofs.Ytjnngijilkdhbaa
