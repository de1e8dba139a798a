/- Draws of texts: contracts of the reader's of and of DrawRatRead, DrawRatText. -/
import Derived.Test.YthcabejfmoedfaaDoorRdB
import Derived.Test.YthcabejfmoedfaaDoorBD
import Derived.Test.YthcabejfmoedfaaDoorPlanC
import Derived.Laws.Strings3
namespace Go.Proofs.YthcabejfmoedfaaDoor
set_option linter.unusedVariables false
set_option linter.unusedSimpArgs false
open Go.Shelf Go.RowKit Go.Joins
theorem run_sl1 {o : Oper} {x y : Operand} (ho : o.op = .slice 9 x none (some y) none) {a : Act} {s : ByteArray} {k : Nat} (hx : a.eval x = .string s) (hy : a.eval y = .int .i64 k) (hk : k ≤ s.size) (w : World) :
    (execOp a.eval o).run Tryd.prog w = .ok (.value (.string (s.extract 0 k))) w := by
  unfold execOp
  rw [ho]
  simp only [Option.map_some, Option.map_none, hx, hy]
  simp [go_sem, hk]
theorem run_sl2 {o : Oper} {x y : Operand} (ho : o.op = .slice 9 x (some y) none none) {a : Act} {s : ByteArray} {k j : Nat} (hx : a.eval x = .string s) (hy : a.eval y = .int .i64 ((k : Int) + j)) (hk : k + j ≤ s.size) (w : World) :
    (execOp a.eval o).run Tryd.prog w = .ok (.value (.string (s.extract (k + j) s.size))) w := by
  unfold execOp
  rw [ho]
  simp only [Option.map_some, Option.map_none, hx, hy]
  simp [go_sem]
  rw [if_pos (by omega), show ((k : Int) + (j : Int)).toNat = k + j by omega]
theorem run_cat {o : Oper} {x y : Operand} {t' : TypeId} (ho : o.op = .binOp .add 9 x y t') {a : Act} {s r : ByteArray} (hx : a.eval x = .string s) (hy : a.eval y = .string r) (hk : s.size + r.size ≤ 1000000) (w : World) :
    (execOp a.eval o).run Tryd.prog w = .ok (.value (.string (s ++ r))) w := by
  unfold execOp
  rw [ho]
  simp only [hx, hy]
  simp [go_sem]
  omega
theorem run_addI {o : Oper} {x y : Operand} {t' : TypeId} (ho : o.op = .binOp .add 3 x y t') {a : Act} {i j : Int} (hx : a.eval x = .int .i64 i) (hy : a.eval y = .int .i64 j) (h1 : 0 ≤ i + j) (h2 : i + j ≤ 1000000) (w : World) :
    (execOp a.eval o).run Tryd.prog w = .ok (.value (.int .i64 (i + j))) w := by
  unfold execOp
  rw [ho]
  simp only [hx, hy]
  simp [go_sem, IntKind.wrap, IntKind.bits, IntKind.signed]
  omega
theorem of_any (B : Nat) (w : World) (g p : Nat) (b n cap : Nat) (ts : List ByteArray) (hR : RD B w g p) (hp : p ≤ 1000000000) (hn : n = ts.length) (h1 : 1 ≤ ts.length) (h2 : ts.length ≤ 1000000) (hb : b ≠ g) (hc : ∀ k t, ts[k]? = some t → w.cell? ⟨b, k, none⟩ = some (.string t)) :
    Calls Tryd.prog 59 #[.pointer (some ⟨g, 0, none⟩), .slice (some ⟨b, 0, none⟩) n cap] w fun e w' => ∃ t, t ∈ ts ∧ e = .returned (.string t) ∧ w.grownBy w' (some g) ∧ RD B w' g (p + 1) := by
  subst hn
  have hP := pick_any B w g p (ts.length : Int) hR hp ⟨by omega, by omega⟩
  go_enter Tryd.func59, Tryd.ntmps59
  go_wp2_with fail
  refine hP.mono ?_
  rintro e w1 ⟨x, x0, x1, rfl, hg, hR1⟩
  obtain ⟨k, rfl⟩ := Int.eq_ofNat_of_zero_le x0
  have hk : k < ts.length := by omega
  have ck := grow_cell hg hb (hc k _ (List.getElem?_eq_getElem hk))
  have hm : ts[k] ∈ ts := List.getElem_mem hk
  generalize ts[k] = t at ck hm
  generalize hlen : ts.length = len at *
  clear hc hP
  go_wp2_with fail
  go_ret
  exact ⟨t, hm, rfl, hg, hR1⟩
theorem drawrattext_any (B : Nat) (w : World) (a : Option Addr) (len cap : Nat) (hB : B ≤ w.heap.size) (hby : Bytes B w a len) (hlc : len ≤ cap) (hc : cap ≤ 9223372036854775807) :
    Calls Tryd.prog 13 #[.slice a len cap] w (OnePost w) := by
  have hO := open_any B (w.alloc (.cells #[.int .i64 0, .int .i64 0] 23)) a len cap (by simp <;> omega) (hby.alloc _) hlc hc
  go_enter Tryd.func13, Tryd.ntmps13
  go_wp2_with fail
  refine hO.mono ?_
  rintro e w1 ⟨g, rfl, hb, hR, hg⟩
  clear hO
  have hg' : w.heap.size < g := by simp at hg; omega
  have hsz := hb.size
  have hsz' : w.heap.size < w1.heap.size := by simp at hsz; omega
  have pr := carryz hb (newz w _ _ _)
  have hQ := rat_any B w1 g 0 hR (by omega) (by omega)
  go_wp2_with fail
  refine hQ.mono ?_
  rintro e w2 ⟨x, y, q, rfl, hg2, hR2, hq⟩
  clear hQ
  have pr2 := grow_z hg2 (by omega) pr
  have hz := hg2.size
  go_wp2_with fail
  obtain ⟨t0, t1⟩ := two_cells pr2.1 pr2.2.1
  refine bodyPost_ret (v := .agg #[.int .i64 x, .int .i64 y]) (by simp [results, Tryd.results13, go_sem, t0, t1]) rfl ?_
  exact one_post x y rfl (bst (bst ((btr (bal (Below.refl _ _) _) hb).trans (grow_below hg2 (by omega) (by omega))) (Nat.le_refl _) _) (Nat.le_refl _) _)
def tsL : List ByteArray := [⟨#[]⟩, ⟨#[47]⟩, ⟨#[48]⟩, ⟨#[45]⟩, ⟨#[49]⟩, ⟨#[32]⟩, ⟨#[50]⟩]
/-- a text that was drawn -/
def StrD (w : World) (e : Ending) (w' : World) : Prop := ∃ t : ByteArray, e = .returned (.string t) ∧ t.size ≤ 1048576 ∧ Below w.heap.size w w'
theorem ratTxt_len (n d : Int) : (ratTxt n d).length ≤ 1000 := by
  unfold ratTxt
  split
  · rename_i h
    have hb := ok_b h
    have h20 : ∀ m : Int, -1000000000 ≤ m ∧ m ≤ 1000000000 → (Lib.itoa m).length ≤ 20 := fun m hm => by
      by_cases h0 : m < 0
      · rw [itoa_neg h0, List.length_cons]; have := dec_len (u := m.natAbs) (by omega); omega
      · obtain ⟨k, rfl⟩ : ∃ k : Nat, m = (k : Int) := ⟨m.toNat, by omega⟩
        rw [itoa_nat]; have := dec_len (u := k) (by omega); omega
    have a := h20 n ⟨hb.1, hb.2.1⟩
    have b := h20 d (by omega)
    rw [List.length_append]
    split
    · simp; omega
    · simp; omega
  · simp
set_option maxRecDepth 100000 in
set_option maxHeartbeats 4000000 in
theorem drawratread_any (B : Nat) (w : World) (a : Option Addr) (len cap : Nat) (hB : B ≤ w.heap.size) (hby : Bytes B w a len) (hlc : len ≤ cap) (hc : cap ≤ 9223372036854775807) :
    Calls Tryd.prog 17 #[.slice a len cap] w (StrD w) := by
  have hO := open_any B w a len cap hB hby hlc hc
  go_enter Tryd.func17, Tryd.ntmps17
  go_wp2_with fail
  refine hO.mono ?_
  rintro e w1 ⟨g, rfl, hb, hR, hg⟩
  have hsz := hb.size
  have hQ := rat_any B w1 g 0 hR (by omega) (by omega)
  clear hO hby hlc hc
  go_wp2_with fail
  refine hQ.mono ?_
  rintro e w2 ⟨x, y, q, rfl, hg2, hR2, hq⟩
  have hb2 := hb.trans (grow_below hg2 (by omega) (by omega))
  have hsz2 := hb2.size
  have hgl2 := hR2.lt
  clear hQ hg2 hR hb
  have hS := say_any x y w2
  have hz := ratTxt_len x y
  generalize ratTxt x y = L at hS hz
  have hz' : (⟨L.toArray⟩ : ByteArray).size ≤ 1000 := hz
  generalize (⟨L.toArray⟩ : ByteArray) = s at hS hz'
  go_wp2_with fail
  refine hS.mono ?_
  rintro e w3 ⟨rfl, hq3⟩
  have hR3 := hR2.below hq3
  have hb3 := btr hb2 hq3
  have hsz3 := hb3.size
  have hgl3 := hR3.lt
  clear hS hR2 hq3
  by_cases h0 : s.size = 0
  · have d0 : ((s.size : Int) == 0) = true := beq_iff_eq.2 (by omega)
    go_wp2
    go_ret
    exact ⟨s, rfl, by omega, hb3⟩
  have d0 : ((s.size : Int) == 0) = false := seq0 (by omega)
  have hP := pick_any B w3 g q 2 hR3 (by omega) (by omega)
  go_wp2_with fail
  refine hP.mono ?_
  rintro e w4 ⟨z, z0, z1, rfl, hg4, hR4⟩
  have hb4 := hb3.trans (grow_below hg4 (by omega) (by omega))
  have hsz4 := hb4.size
  have hgl4 := hR4.lt
  clear hP hg4 hR3 hb3
  by_cases hz0 : z = 0
  · subst hz0
    go_wp2
    go_ret
    exact ⟨s, rfl, by omega, hb4⟩
  have d1 : (z == 0) = false := by simpa using hz0
  have hP := pick_any B w4 g (q + 1) (s.size : Int) hR4 (by omega) (by omega)
  go_wp2_with fail
  refine hP.mono ?_
  rintro e w5 ⟨k, k0, k1, rfl, hg5, hR5⟩
  obtain ⟨k, rfl⟩ := Int.eq_ofNat_of_zero_le k0
  have hb5 := hb4.trans (grow_below hg5 (by omega) (by omega))
  have hsz5 := hb5.size
  have hgl5 := hR5.lt
  clear hP hg5 hR4 hb4
  go_upto_region 6 with fail
  have hk : k < s.size := by omega
  have za : (s.extract 0 k).size ≤ 1000 := by simp; omega
  have ze : ∀ y, (s.extract (k + y) s.size).size ≤ 1000 := fun y => by simp; omega
  have hR5d : RD B w5.drew g (q + 2) := hR5.below (Below.refl w5.heap.size w5).drew
  have hgd : w5.grownBy w5.drew (some g) := grow_of_below (Below.refl w5.heap.size w5).drew _
  have hRd := hR5d
  have hrow : ∀ k t, tsL[k]? = some t → (w5.drew.alloc (.cells #[.string ⟨#[]⟩, .string ⟨#[47]⟩, .string ⟨#[48]⟩, .string ⟨#[45]⟩, .string ⟨#[49]⟩, .string ⟨#[32]⟩, .string ⟨#[50]⟩] 9)).cell? ⟨w5.heap.size, k, none⟩ = some (.string t) := fun k t h => by
    match k, h with
    | 0, h | 1, h | 2, h | 3, h | 4, h | 5, h | 6, h => simp [tsL] at h; subst h; simp [go_sem]
    | k + 7, h => simp [tsL] at h
  have htl : ∀ t ∈ tsL, t.size ≤ 1 := by decide
  refine region_planC (fun w' => w5.grownBy w' (some g)) (.takes [0, 1, 3, 7, 8, 9] (.fork 2 4 (.make 4 (.make 5 (.takes [6] (.make 10 (.takes [11] (.make 12 .fin)))))) (.fork 2 5 (.make 5 (.takes [6] (.make 10 (.takes [11] (.make 12 .fin))))) (.fork 2 10 (.takes [6] (.make 10 (.takes [11] (.make 12 .fin)))) (.takes [11] (.fork 2 12 (.takes [6] (.make 12 .fin)) (.make 2 (.takes [6] .fin)))))))) 13 rfl (by kernel_rfl) hgd ?_
  refine plan_takes ?_; simp only [pickOps, List.getElem?_cons_zero, List.getElem?_cons_succ, Act.put, List.setIfInBounds_toArray, List.set_cons_succ, List.set_cons_zero]; (repeat (go_big_quiet_step (fail))); refine wpQuiet_nil ?_
  refine plan_fork ?_ ?_
  · skip
    refine planC_val rfl rfl (.string (s.extract 0 k)) (by exact run_sl1 rfl (by kernel_rfl) (by kernel_rfl) (by omega) _) hgd ?_
    refine planC_val rfl rfl (.slice (some ⟨w5.heap.size, 0, none⟩) 7 7) (w'' := w5.drew.alloc (.cells #[.string ⟨#[]⟩, .string ⟨#[47]⟩, .string ⟨#[48]⟩, .string ⟨#[45]⟩, .string ⟨#[49]⟩, .string ⟨#[32]⟩, .string ⟨#[50]⟩] 9)) (by kernel_rfl) (grow_alloc hgd _) ?_
    refine planC_call rfl rfl 59 #[.pointer (some ⟨g, 0, none⟩), .slice (some ⟨w5.heap.size, 0, none⟩) 7 7] (by kernel_rfl) ?_
    refine (of_any B _ g (q + 2) w5.heap.size 7 7 tsL (hRd.alloc _) (by omega) rfl (by decide) (by decide) (by omega) hrow).mono ?_
    rintro e u1 ⟨t, ht, rfl, hg1, hR1⟩
    have hG1 := grow_trans (grow_alloc hgd _) hg1
    refine ⟨_, rfl, hG1, ?_⟩
    have zt := htl t ht
    refine plan_takes ?_; simp only [pickOps, List.getElem?_cons_zero, List.getElem?_cons_succ]; refine quiet_doC rfl (.string (s.extract 0 k ++ t)) (fun w' _ => by exact run_cat rfl (by kernel_rfl) (by kernel_rfl) (by omega) _) ?_; refine wpQuiet_nil ?_
    refine planC_call rfl rfl 58 #[.pointer (some ⟨g, 0, none⟩), .int .i64 2] (by kernel_rfl) ?_
    refine (pick_any B _ g (q + 2 + 1) 2 hR1 (by omega) (by omega)).mono ?_
    rintro e u2 ⟨y, y0, y1, rfl, hg2, hR2⟩
    obtain ⟨y, rfl⟩ := Int.eq_ofNat_of_zero_le y0
    have hy : y < 2 := by omega
    have zE := ze y
    have hG2 := grow_trans hG1 hg2
    refine ⟨_, rfl, hG2, ?_⟩
    refine plan_takes ?_; simp only [pickOps, List.getElem?_cons_zero, List.getElem?_cons_succ]; refine quiet_doC rfl (.int .i64 ((k : Int) + y)) (fun w' _ => by exact run_addI rfl (by kernel_rfl) (by kernel_rfl) (by omega) (by omega) _) ?_; refine wpQuiet_nil ?_
    refine planC_val rfl rfl (.string (s.extract (k + y) s.size)) (by exact run_sl2 rfl (by kernel_rfl) (by kernel_rfl) (by omega) _) hG2 ?_
    refine plan_fin ?_
    simp only [List.drop_succ_cons, List.drop_zero, Act.put, List.setIfInBounds_toArray, List.set_cons_succ, List.set_cons_zero]
    have hGf := hG2
    have hRf := hR2
    go_wp2
    go_ret
    exact ⟨_, rfl, by simp; omega, hb5.trans (grow_below hGf (by omega) (by omega))⟩
  · skip
    refine planC_val rfl rfl (.slice (some ⟨w5.heap.size, 0, none⟩) 7 7) (w'' := w5.drew.alloc (.cells #[.string ⟨#[]⟩, .string ⟨#[47]⟩, .string ⟨#[48]⟩, .string ⟨#[45]⟩, .string ⟨#[49]⟩, .string ⟨#[32]⟩, .string ⟨#[50]⟩] 9)) (by kernel_rfl) (grow_alloc hgd _) ?_
    refine plan_fork ?_ ?_
    · skip
      refine planC_val rfl rfl (.string (s.extract 0 k)) (by exact run_sl1 rfl (by kernel_rfl) (by kernel_rfl) (by omega) _) (grow_alloc hgd _) ?_
      refine planC_call rfl rfl 59 #[.pointer (some ⟨g, 0, none⟩), .slice (some ⟨w5.heap.size, 0, none⟩) 7 7] (by kernel_rfl) ?_
      refine (of_any B _ g (q + 2) w5.heap.size 7 7 tsL (hRd.alloc _) (by omega) rfl (by decide) (by decide) (by omega) hrow).mono ?_
      rintro e u3 ⟨t, ht, rfl, hg3, hR3⟩
      have hG3 := grow_trans (grow_alloc hgd _) hg3
      refine ⟨_, rfl, hG3, ?_⟩
      have zt := htl t ht
      refine plan_takes ?_; simp only [pickOps, List.getElem?_cons_zero, List.getElem?_cons_succ]; refine quiet_doC rfl (.string (s.extract 0 k ++ t)) (fun w' _ => by exact run_cat rfl (by kernel_rfl) (by kernel_rfl) (by omega) _) ?_; refine wpQuiet_nil ?_
      refine planC_call rfl rfl 58 #[.pointer (some ⟨g, 0, none⟩), .int .i64 2] (by kernel_rfl) ?_
      refine (pick_any B _ g (q + 2 + 1) 2 hR3 (by omega) (by omega)).mono ?_
      rintro e u4 ⟨y, y0, y1, rfl, hg4, hR4⟩
      obtain ⟨y, rfl⟩ := Int.eq_ofNat_of_zero_le y0
      have hy : y < 2 := by omega
      have zE := ze y
      have hG4 := grow_trans hG3 hg4
      refine ⟨_, rfl, hG4, ?_⟩
      refine plan_takes ?_; simp only [pickOps, List.getElem?_cons_zero, List.getElem?_cons_succ]; refine quiet_doC rfl (.int .i64 ((k : Int) + y)) (fun w' _ => by exact run_addI rfl (by kernel_rfl) (by kernel_rfl) (by omega) (by omega) _) ?_; refine wpQuiet_nil ?_
      refine planC_val rfl rfl (.string (s.extract (k + y) s.size)) (by exact run_sl2 rfl (by kernel_rfl) (by kernel_rfl) (by omega) _) hG4 ?_
      refine plan_fin ?_
      simp only [List.drop_succ_cons, List.drop_zero, Act.put, List.setIfInBounds_toArray, List.set_cons_succ, List.set_cons_zero]
      have hGf := hG4
      have hRf := hR4
      go_wp2
      go_ret
      exact ⟨_, rfl, by simp; omega, hb5.trans (grow_below hGf (by omega) (by omega))⟩
    · skip
      refine planC_call rfl rfl 59 #[.pointer (some ⟨g, 0, none⟩), .slice (some ⟨w5.heap.size, 0, none⟩) 7 7] (by kernel_rfl) ?_
      refine (of_any B _ g (q + 2) w5.heap.size 7 7 tsL (hRd.alloc _) (by omega) rfl (by decide) (by decide) (by omega) hrow).mono ?_
      rintro e u5 ⟨t, ht, rfl, hg5, hR5⟩
      have hG5 := grow_trans (grow_alloc hgd _) hg5
      refine ⟨_, rfl, hG5, ?_⟩
      have zt := htl t ht
      refine plan_fork ?_ ?_
      · skip
        refine planC_val rfl rfl (.string (s.extract 0 k)) (by exact run_sl1 rfl (by kernel_rfl) (by kernel_rfl) (by omega) _) hG5 ?_
        refine plan_takes ?_; simp only [pickOps, List.getElem?_cons_zero, List.getElem?_cons_succ]; refine quiet_doC rfl (.string (s.extract 0 k ++ t)) (fun w' _ => by exact run_cat rfl (by kernel_rfl) (by kernel_rfl) (by omega) _) ?_; refine wpQuiet_nil ?_
        refine planC_call rfl rfl 58 #[.pointer (some ⟨g, 0, none⟩), .int .i64 2] (by kernel_rfl) ?_
        refine (pick_any B _ g (q + 2 + 1) 2 hR5 (by omega) (by omega)).mono ?_
        rintro e u6 ⟨y, y0, y1, rfl, hg6, hR6⟩
        obtain ⟨y, rfl⟩ := Int.eq_ofNat_of_zero_le y0
        have hy : y < 2 := by omega
        have zE := ze y
        have hG6 := grow_trans hG5 hg6
        refine ⟨_, rfl, hG6, ?_⟩
        refine plan_takes ?_; simp only [pickOps, List.getElem?_cons_zero, List.getElem?_cons_succ]; refine quiet_doC rfl (.int .i64 ((k : Int) + y)) (fun w' _ => by exact run_addI rfl (by kernel_rfl) (by kernel_rfl) (by omega) (by omega) _) ?_; refine wpQuiet_nil ?_
        refine planC_val rfl rfl (.string (s.extract (k + y) s.size)) (by exact run_sl2 rfl (by kernel_rfl) (by kernel_rfl) (by omega) _) hG6 ?_
        refine plan_fin ?_
        simp only [List.drop_succ_cons, List.drop_zero, Act.put, List.setIfInBounds_toArray, List.set_cons_succ, List.set_cons_zero]
        have hGf := hG6
        have hRf := hR6
        go_wp2
        go_ret
        exact ⟨_, rfl, by simp; omega, hb5.trans (grow_below hGf (by omega) (by omega))⟩
      · skip
        refine planC_call rfl rfl 58 #[.pointer (some ⟨g, 0, none⟩), .int .i64 2] (by kernel_rfl) ?_
        refine (pick_any B _ g (q + 2 + 1) 2 hR5 (by omega) (by omega)).mono ?_
        rintro e u7 ⟨y, y0, y1, rfl, hg7, hR7⟩
        obtain ⟨y, rfl⟩ := Int.eq_ofNat_of_zero_le y0
        have hy : y < 2 := by omega
        have zE := ze y
        have hG7 := grow_trans hG5 hg7
        refine ⟨_, rfl, hG7, ?_⟩
        refine plan_takes ?_; simp only [pickOps, List.getElem?_cons_zero, List.getElem?_cons_succ]; refine quiet_doC rfl (.int .i64 ((k : Int) + y)) (fun w' _ => by exact run_addI rfl (by kernel_rfl) (by kernel_rfl) (by omega) (by omega) _) ?_; refine wpQuiet_nil ?_
        refine plan_fork ?_ ?_
        · skip
          refine planC_val rfl rfl (.string (s.extract 0 k)) (by exact run_sl1 rfl (by kernel_rfl) (by kernel_rfl) (by omega) _) hG7 ?_
          refine plan_takes ?_; simp only [pickOps, List.getElem?_cons_zero, List.getElem?_cons_succ]; refine quiet_doC rfl (.string (s.extract 0 k ++ t)) (fun w' _ => by exact run_cat rfl (by kernel_rfl) (by kernel_rfl) (by omega) _) ?_; refine wpQuiet_nil ?_
          refine planC_val rfl rfl (.string (s.extract (k + y) s.size)) (by exact run_sl2 rfl (by kernel_rfl) (by kernel_rfl) (by omega) _) hG7 ?_
          refine plan_fin ?_
          simp only [List.drop_succ_cons, List.drop_zero, Act.put, List.setIfInBounds_toArray, List.set_cons_succ, List.set_cons_zero]
          have hGf := hG7
          have hRf := hR7
          go_wp2
          go_ret
          exact ⟨_, rfl, by simp; omega, hb5.trans (grow_below hGf (by omega) (by omega))⟩
        · skip
          refine planC_val rfl rfl (.string (s.extract (k + y) s.size)) (by exact run_sl2 rfl (by kernel_rfl) (by kernel_rfl) (by omega) _) hG7 ?_
          refine planC_val rfl rfl (.string (s.extract 0 k)) (by exact run_sl1 rfl (by kernel_rfl) (by kernel_rfl) (by omega) _) hG7 ?_
          refine plan_takes ?_; simp only [pickOps, List.getElem?_cons_zero, List.getElem?_cons_succ]; refine quiet_doC rfl (.string (s.extract 0 k ++ t)) (fun w' _ => by exact run_cat rfl (by kernel_rfl) (by kernel_rfl) (by omega) _) ?_; refine wpQuiet_nil ?_
          refine plan_fin ?_
          simp only [List.drop_succ_cons, List.drop_zero, Act.put, List.setIfInBounds_toArray, List.set_cons_succ, List.set_cons_zero]
          have hGf := hG7
          have hRf := hR7
          go_wp2
          go_ret
          exact ⟨_, rfl, by simp; omega, hb5.trans (grow_below hGf (by omega) (by omega))⟩
end Go.Proofs.YthcabejfmoedfaaDoor
