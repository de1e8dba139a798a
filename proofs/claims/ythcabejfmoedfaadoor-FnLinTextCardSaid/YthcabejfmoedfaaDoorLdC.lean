/- Draws of a constraint's text: contracts of l2Torn, DrawLinRead, DrawLinText. -/
import Derived.Test.YthcabejfmoedfaaDoorRdD
import Derived.Test.YthcabejfmoedfaaDoorLinTB
import Derived.Test.YthcabejfmoedfaaDoorLinDE
import Derived.Test.YthcabejfmoedfaaDoorLinK
namespace Go.Proofs.YthcabejfmoedfaaDoor
set_option linter.unusedVariables false
set_option linter.unusedSimpArgs false
open Go.Shelf Go.RowKit Go.Joins
set_option maxRecDepth 100000 in
set_option maxHeartbeats 4000000 in
theorem drawlintext_any (B : Nat) (w : World) (a : Option Addr) (len cap : Nat) (hB : B ≤ w.heap.size) (hby : Bytes B w a len) (hlc : len ≤ cap) (hc : cap ≤ 9223372036854775807) :
    Calls Tryd.prog 28 #[.slice a len cap] w (OneD w) := by
  have hO := open_any B (w.alloc (.cells #[.slice none 0 0, .int .i64 0, .bool false] 39)) a len cap (by simp <;> omega) (hby.alloc _) hlc hc
  have H := KcL.new3 w (.slice none 0 0) (.int .i64 0) (.bool false) 39 rfl
  have q0 := bal (Below.refl w.heap.size w) (.cells #[.slice none 0 0, .int .i64 0, .bool false] 39)
  have fa : ∀ o, (w.alloc (.cells #[.slice none 0 0, .int .i64 0, .bool false] 39)).frozen? ⟨w.heap.size, o, none⟩ = false := fun o => by simp [go_sem]
  go_enter Tryd.func28, Tryd.ntmps28
  go_wp2_with fail
  refine hO.mono ?_
  rintro e w1 ⟨g, rfl, hb, hR, hg⟩
  clear hO
  have hgs : w.heap.size + 1 ≤ g := by simpa using hg
  have hz1 := hb.size
  simp only [World.size_alloc] at hz1
  replace H := H.below hb
  replace q0 := btr q0 hb
  replace fa := fun o => carryf hb (fa o) (by simp)
  clear hb hg
  have glt := hR.lt
  go_wp2_with fail
  refine (l2some_any B _ g 0 hR (by omega)).mono ?_
  rintro e w2 ⟨A, n, c, Z, b, s, q, rfl, ⟨hn1, hn⟩, hnc, hc2, row, hg2, hR2, hq⟩
  have hz2 := hg2.size
  replace H := H.keep hg2 (fun e he r hr => by cases hr; simp at he; rcases he with rfl | rfl | rfl <;> (simp only; omega))
  replace q0 := q0.grown hg2 q0.size (fun r hr => by cases hr; omega)
  replace fa := frz hg2 (by omega) (by simp; omega) fa
  clear hg2 hR
  obtain ⟨k0, k1, k2, _⟩ := H
  have f0 := fa 0
  have f1 := fa 1
  have f2 := fa 2
  go_wp2_with fail
  obtain ⟨t0, t1, t2⟩ := set3 k0 k1 k2 (.slice A n c) (.int .i64 b) (.bool s)
  refine bodyPost_ret (v := .agg #[.slice A n c, .int .i64 b, .bool s]) (by simp [results, Tryd.results28, go_sem, t0, t1, t2]) rfl ?_
  have kp : ∀ (W : World) (o : Nat) (v : Value), NewRow w1.heap.size W A n Z → NewRow w1.heap.size (W.setCell ⟨w.heap.size, o, none⟩ v) A n Z := fun W o v x => x.grow (grow_set W w.heap.size o v) (fun r e => by cases e; omega)
  exact ⟨A, n, c, Z, b, s, rfl, hn, (kp _ 2 _ (kp _ 1 _ (kp _ 0 _ row))).ints, bst (bst (bst q0 (Nat.le_refl _) _) (Nat.le_refl _) _) (Nat.le_refl _) _⟩
def tsT : List ByteArray := [⟨#[]⟩, ⟨#[32]⟩, ⟨#[48]⟩, ⟨#[45]⟩, ⟨#[49]⟩, ⟨#[60]⟩, ⟨#[61]⟩, ⟨#[40]⟩]
set_option maxRecDepth 100000 in
set_option maxHeartbeats 4000000 in
theorem l2torn_any (Bd : Nat) (w : World) (g q : Nat) (s : ByteArray) (hR : RD Bd w g q) (hq : q ≤ 1000000) (hz' : s.size ≤ 1000) :
    Calls Tryd.prog 72 #[.pointer (some ⟨g, 0, none⟩), .string s] w fun e w' => ∃ t : ByteArray, e = .returned (.string t) ∧ t.size ≤ 1048576 ∧ w.grownBy w' (some g) := by
  have hgr := grow_of_below (Below.refl w.heap.size w) (some g)
  by_cases h0 : s.size = 0
  · have d0 : ((s.size : Int) == 0) = true := beq_iff_eq.2 (by omega)
    go_enter Tryd.func72, Tryd.ntmps72
    go_wp2
    go_ret
    exact ⟨s, rfl, by omega, hgr⟩
  have d0 : ((s.size : Int) == 0) = false := seq0 (by omega)
  have hP := pick_any Bd w g q 2 hR (by omega) (by omega)
  go_enter Tryd.func72, Tryd.ntmps72
  go_wp2_with fail
  refine hP.mono ?_
  rintro e w4 ⟨z, z0, z1, rfl, hg4, hR4⟩
  have hgl4 := hR4.lt
  clear hP hR
  by_cases hz0 : z = 0
  · subst hz0
    go_wp2
    go_ret
    exact ⟨s, rfl, by omega, hg4⟩
  have d1 : (z == 0) = false := by simpa using hz0
  have hP := pick_any Bd w4 g (q + 1) (s.size : Int) hR4 (by omega) (by omega)
  go_wp2_with fail
  refine hP.mono ?_
  rintro e w5 ⟨k, k0, k1, rfl, hg5, hR5⟩
  obtain ⟨k, rfl⟩ := Int.eq_ofNat_of_zero_le k0
  have hgw := grow_trans hg4 hg5
  have hgl5 := hR5.lt
  clear hP hg5 hR4 hg4
  go_upto_region 4 with fail
  have hk : k < s.size := by omega
  have za : (s.extract 0 k).size ≤ 1000 := by simp; omega
  have ze : ∀ y, (s.extract (k + y) s.size).size ≤ 1000 := fun y => by simp; omega
  have hRd : RD Bd w5.drew g (q + 2) := hR5.below (Below.refl w5.heap.size w5).drew
  have hgd : w5.grownBy w5.drew (some g) := grow_of_below (Below.refl w5.heap.size w5).drew _
  have hrow : ∀ k t, tsT[k]? = some t → (w5.drew.alloc (.cells #[.string ⟨#[]⟩, .string ⟨#[32]⟩, .string ⟨#[48]⟩, .string ⟨#[45]⟩, .string ⟨#[49]⟩, .string ⟨#[60]⟩, .string ⟨#[61]⟩, .string ⟨#[40]⟩] 9)).cell? ⟨w5.heap.size, k, none⟩ = some (.string t) := fun k t h => by
    match k, h with
    | 0, h | 1, h | 2, h | 3, h | 4, h | 5, h | 6, h | 7, h => simp [tsT] at h; subst h; simp [go_sem]
    | k + 8, h => simp [tsT] at h
  have htl : ∀ t ∈ tsT, t.size ≤ 1 := by decide
  refine region_planC (fun w' => w5.grownBy w' (some g)) (.takes [0, 1, 3, 7, 8, 9] (.fork 2 4 (.make 4 (.make 5 (.takes [6] (.make 10 (.takes [11] (.make 12 .fin)))))) (.fork 2 5 (.make 5 (.takes [6] (.make 10 (.takes [11] (.make 12 .fin))))) (.fork 2 10 (.takes [6] (.make 10 (.takes [11] (.make 12 .fin)))) (.takes [11] (.fork 2 12 (.takes [6] (.make 12 .fin)) (.make 2 (.takes [6] .fin)))))))) 13 rfl (by kernel_rfl) hgd ?_
  refine plan_takes ?_; simp only [pickOps, List.getElem?_cons_zero, List.getElem?_cons_succ, Act.put, List.setIfInBounds_toArray, List.set_cons_succ, List.set_cons_zero]; (repeat (go_big_quiet_step (fail))); refine wpQuiet_nil ?_
  refine plan_fork ?_ ?_
  · skip
    refine planC_val rfl rfl (.string (s.extract 0 k)) (by exact run_sl1 rfl (by kernel_rfl) (by kernel_rfl) (by omega) _) hgd ?_
    refine planC_val rfl rfl (.slice (some ⟨w5.heap.size, 0, none⟩) 8 8) (w'' := w5.drew.alloc (.cells #[.string ⟨#[]⟩, .string ⟨#[32]⟩, .string ⟨#[48]⟩, .string ⟨#[45]⟩, .string ⟨#[49]⟩, .string ⟨#[60]⟩, .string ⟨#[61]⟩, .string ⟨#[40]⟩] 9)) (by kernel_rfl) (grow_alloc hgd _) ?_
    refine planC_call rfl rfl 59 #[.pointer (some ⟨g, 0, none⟩), .slice (some ⟨w5.heap.size, 0, none⟩) 8 8] (by kernel_rfl) ?_
    refine (of_any Bd _ g (q + 2) w5.heap.size 8 8 tsT (hRd.alloc _) (by omega) rfl (by decide) (by decide) (by omega) hrow).mono ?_
    rintro e u1 ⟨t, ht, rfl, hg1, hR1⟩
    have hG1 := grow_trans (grow_alloc hgd _) hg1
    refine ⟨_, rfl, hG1, ?_⟩
    have zt := htl t ht
    refine plan_takes ?_; simp only [pickOps, List.getElem?_cons_zero, List.getElem?_cons_succ]; refine quiet_doC rfl (.string (s.extract 0 k ++ t)) (fun w' _ => by exact run_cat rfl (by kernel_rfl) (by kernel_rfl) (by omega) _) ?_; refine wpQuiet_nil ?_
    refine planC_call rfl rfl 58 #[.pointer (some ⟨g, 0, none⟩), .int .i64 2] (by kernel_rfl) ?_
    refine (pick_any Bd _ g (q + 2 + 1) 2 hR1 (by omega) (by omega)).mono ?_
    rintro e u2 ⟨y, y0, y1, rfl, hg2, hR2⟩
    obtain ⟨y, rfl⟩ := Int.eq_ofNat_of_zero_le y0
    have hy : y < 2 := by omega
    have zE := ze y
    have hG2 := grow_trans hG1 hg2
    refine ⟨_, rfl, hG2, ?_⟩
    refine plan_takes ?_; simp only [pickOps, List.getElem?_cons_zero, List.getElem?_cons_succ]; refine quiet_doC rfl (.int .i64 ((k : Int) + y)) (fun w' _ => by exact run_addI rfl (by kernel_rfl) (by kernel_rfl) (by omega) (by omega) _) ?_; refine wpQuiet_nil ?_
    refine planC_val rfl rfl (.string (s.extract (k + y) s.size)) (by exact run_sl2 rfl (by kernel_rfl) (by kernel_rfl) (by omega) _) hG2 ?_
    refine plan_fin ?_
    simp only [List.drop_succ_cons, List.drop_zero, Act.put, List.setIfInBounds_toArray, List.set_cons_succ, List.set_cons_zero]
    have hGf := hG2
    have hRf := hR2
    go_wp2
    go_ret
    exact ⟨_, rfl, by simp; omega, grow_trans hgw hGf⟩
  · skip
    refine planC_val rfl rfl (.slice (some ⟨w5.heap.size, 0, none⟩) 8 8) (w'' := w5.drew.alloc (.cells #[.string ⟨#[]⟩, .string ⟨#[32]⟩, .string ⟨#[48]⟩, .string ⟨#[45]⟩, .string ⟨#[49]⟩, .string ⟨#[60]⟩, .string ⟨#[61]⟩, .string ⟨#[40]⟩] 9)) (by kernel_rfl) (grow_alloc hgd _) ?_
    refine plan_fork ?_ ?_
    · skip
      refine planC_val rfl rfl (.string (s.extract 0 k)) (by exact run_sl1 rfl (by kernel_rfl) (by kernel_rfl) (by omega) _) (grow_alloc hgd _) ?_
      refine planC_call rfl rfl 59 #[.pointer (some ⟨g, 0, none⟩), .slice (some ⟨w5.heap.size, 0, none⟩) 8 8] (by kernel_rfl) ?_
      refine (of_any Bd _ g (q + 2) w5.heap.size 8 8 tsT (hRd.alloc _) (by omega) rfl (by decide) (by decide) (by omega) hrow).mono ?_
      rintro e u3 ⟨t, ht, rfl, hg3, hR3⟩
      have hG3 := grow_trans (grow_alloc hgd _) hg3
      refine ⟨_, rfl, hG3, ?_⟩
      have zt := htl t ht
      refine plan_takes ?_; simp only [pickOps, List.getElem?_cons_zero, List.getElem?_cons_succ]; refine quiet_doC rfl (.string (s.extract 0 k ++ t)) (fun w' _ => by exact run_cat rfl (by kernel_rfl) (by kernel_rfl) (by omega) _) ?_; refine wpQuiet_nil ?_
      refine planC_call rfl rfl 58 #[.pointer (some ⟨g, 0, none⟩), .int .i64 2] (by kernel_rfl) ?_
      refine (pick_any Bd _ g (q + 2 + 1) 2 hR3 (by omega) (by omega)).mono ?_
      rintro e u4 ⟨y, y0, y1, rfl, hg4, hR4⟩
      obtain ⟨y, rfl⟩ := Int.eq_ofNat_of_zero_le y0
      have hy : y < 2 := by omega
      have zE := ze y
      have hG4 := grow_trans hG3 hg4
      refine ⟨_, rfl, hG4, ?_⟩
      refine plan_takes ?_; simp only [pickOps, List.getElem?_cons_zero, List.getElem?_cons_succ]; refine quiet_doC rfl (.int .i64 ((k : Int) + y)) (fun w' _ => by exact run_addI rfl (by kernel_rfl) (by kernel_rfl) (by omega) (by omega) _) ?_; refine wpQuiet_nil ?_
      refine planC_val rfl rfl (.string (s.extract (k + y) s.size)) (by exact run_sl2 rfl (by kernel_rfl) (by kernel_rfl) (by omega) _) hG4 ?_
      refine plan_fin ?_
      simp only [List.drop_succ_cons, List.drop_zero, Act.put, List.setIfInBounds_toArray, List.set_cons_succ, List.set_cons_zero]
      have hGf := hG4
      have hRf := hR4
      go_wp2
      go_ret
      exact ⟨_, rfl, by simp; omega, grow_trans hgw hGf⟩
    · skip
      refine planC_call rfl rfl 59 #[.pointer (some ⟨g, 0, none⟩), .slice (some ⟨w5.heap.size, 0, none⟩) 8 8] (by kernel_rfl) ?_
      refine (of_any Bd _ g (q + 2) w5.heap.size 8 8 tsT (hRd.alloc _) (by omega) rfl (by decide) (by decide) (by omega) hrow).mono ?_
      rintro e u5 ⟨t, ht, rfl, hg5, hR5⟩
      have hG5 := grow_trans (grow_alloc hgd _) hg5
      refine ⟨_, rfl, hG5, ?_⟩
      have zt := htl t ht
      refine plan_fork ?_ ?_
      · skip
        refine planC_val rfl rfl (.string (s.extract 0 k)) (by exact run_sl1 rfl (by kernel_rfl) (by kernel_rfl) (by omega) _) hG5 ?_
        refine plan_takes ?_; simp only [pickOps, List.getElem?_cons_zero, List.getElem?_cons_succ]; refine quiet_doC rfl (.string (s.extract 0 k ++ t)) (fun w' _ => by exact run_cat rfl (by kernel_rfl) (by kernel_rfl) (by omega) _) ?_; refine wpQuiet_nil ?_
        refine planC_call rfl rfl 58 #[.pointer (some ⟨g, 0, none⟩), .int .i64 2] (by kernel_rfl) ?_
        refine (pick_any Bd _ g (q + 2 + 1) 2 hR5 (by omega) (by omega)).mono ?_
        rintro e u6 ⟨y, y0, y1, rfl, hg6, hR6⟩
        obtain ⟨y, rfl⟩ := Int.eq_ofNat_of_zero_le y0
        have hy : y < 2 := by omega
        have zE := ze y
        have hG6 := grow_trans hG5 hg6
        refine ⟨_, rfl, hG6, ?_⟩
        refine plan_takes ?_; simp only [pickOps, List.getElem?_cons_zero, List.getElem?_cons_succ]; refine quiet_doC rfl (.int .i64 ((k : Int) + y)) (fun w' _ => by exact run_addI rfl (by kernel_rfl) (by kernel_rfl) (by omega) (by omega) _) ?_; refine wpQuiet_nil ?_
        refine planC_val rfl rfl (.string (s.extract (k + y) s.size)) (by exact run_sl2 rfl (by kernel_rfl) (by kernel_rfl) (by omega) _) hG6 ?_
        refine plan_fin ?_
        simp only [List.drop_succ_cons, List.drop_zero, Act.put, List.setIfInBounds_toArray, List.set_cons_succ, List.set_cons_zero]
        have hGf := hG6
        have hRf := hR6
        go_wp2
        go_ret
        exact ⟨_, rfl, by simp; omega, grow_trans hgw hGf⟩
      · skip
        refine planC_call rfl rfl 58 #[.pointer (some ⟨g, 0, none⟩), .int .i64 2] (by kernel_rfl) ?_
        refine (pick_any Bd _ g (q + 2 + 1) 2 hR5 (by omega) (by omega)).mono ?_
        rintro e u7 ⟨y, y0, y1, rfl, hg7, hR7⟩
        obtain ⟨y, rfl⟩ := Int.eq_ofNat_of_zero_le y0
        have hy : y < 2 := by omega
        have zE := ze y
        have hG7 := grow_trans hG5 hg7
        refine ⟨_, rfl, hG7, ?_⟩
        refine plan_takes ?_; simp only [pickOps, List.getElem?_cons_zero, List.getElem?_cons_succ]; refine quiet_doC rfl (.int .i64 ((k : Int) + y)) (fun w' _ => by exact run_addI rfl (by kernel_rfl) (by kernel_rfl) (by omega) (by omega) _) ?_; refine wpQuiet_nil ?_
        refine plan_fork ?_ ?_
        · skip
          refine planC_val rfl rfl (.string (s.extract 0 k)) (by exact run_sl1 rfl (by kernel_rfl) (by kernel_rfl) (by omega) _) hG7 ?_
          refine plan_takes ?_; simp only [pickOps, List.getElem?_cons_zero, List.getElem?_cons_succ]; refine quiet_doC rfl (.string (s.extract 0 k ++ t)) (fun w' _ => by exact run_cat rfl (by kernel_rfl) (by kernel_rfl) (by omega) _) ?_; refine wpQuiet_nil ?_
          refine planC_val rfl rfl (.string (s.extract (k + y) s.size)) (by exact run_sl2 rfl (by kernel_rfl) (by kernel_rfl) (by omega) _) hG7 ?_
          refine plan_fin ?_
          simp only [List.drop_succ_cons, List.drop_zero, Act.put, List.setIfInBounds_toArray, List.set_cons_succ, List.set_cons_zero]
          have hGf := hG7
          have hRf := hR7
          go_wp2
          go_ret
          exact ⟨_, rfl, by simp; omega, grow_trans hgw hGf⟩
        · skip
          refine planC_val rfl rfl (.string (s.extract (k + y) s.size)) (by exact run_sl2 rfl (by kernel_rfl) (by kernel_rfl) (by omega) _) hG7 ?_
          refine planC_val rfl rfl (.string (s.extract 0 k)) (by exact run_sl1 rfl (by kernel_rfl) (by kernel_rfl) (by omega) _) hG7 ?_
          refine plan_takes ?_; simp only [pickOps, List.getElem?_cons_zero, List.getElem?_cons_succ]; refine quiet_doC rfl (.string (s.extract 0 k ++ t)) (fun w' _ => by exact run_cat rfl (by kernel_rfl) (by kernel_rfl) (by omega) _) ?_; refine wpQuiet_nil ?_
          refine plan_fin ?_
          simp only [List.drop_succ_cons, List.drop_zero, Act.put, List.setIfInBounds_toArray, List.set_cons_succ, List.set_cons_zero]
          have hGf := hG7
          have hRf := hR7
          go_wp2
          go_ret
          exact ⟨_, rfl, by simp; omega, grow_trans hgw hGf⟩
set_option maxRecDepth 100000 in
set_option maxHeartbeats 4000000 in
theorem drawlinread_any (B : Nat) (w : World) (a : Option Addr) (len cap : Nat) (hB : B ≤ w.heap.size) (hby : Bytes B w a len) (hlc : len ≤ cap) (hc : cap ≤ 9223372036854775807) :
    Calls Tryd.prog 31 #[.slice a len cap] w (StrD w) := by
  have hO := open_any B w a len cap hB hby hlc hc
  go_enter Tryd.func31, Tryd.ntmps31
  go_wp2_with fail
  refine hO.mono ?_
  rintro e w1 ⟨g, rfl, hb, hR, hg⟩
  have hsz := hb.size
  have hQ := l2any_any B w1 g 0 hR (by omega)
  clear hO hby hlc hc
  go_wp2_with fail
  refine hQ.mono ?_
  rintro e w2 ⟨A, c, Z, b, st, q, rfl, ho, hg2, hR2, hq⟩
  have hb2 := hb.trans (grow_below hg2 (by omega) (by omega))
  obtain ⟨A', c', eA, _, _, hOI⟩ := own_new (W := w1) (by omega) (Nat.le_succ _) ho
  obtain ⟨rfl, rfl⟩ : A = A' ∧ c = c' := by injection eA with h1 h2 h3; exact ⟨h1, h3⟩
  have hI := hOI.ints
  have hS := slintext_any A 4 c Z b st w2 (by omega) hI
  have hz : (linTxt 4 Z b st).length ≤ 120 := by
    unfold linTxt
    split
    · rename_i h; exact linT_len h
    · simp
  generalize linTxt 4 Z b st = L at hS hz
  have hz' : (⟨L.toArray⟩ : ByteArray).size ≤ 1000 := by show L.length ≤ _; omega
  generalize (⟨L.toArray⟩ : ByteArray) = s at hS hz'
  clear hQ hg2 hR hb ho hI hOI eA
  go_wp2_with fail
  refine hS.mono ?_
  rintro e w3 ⟨rfl, hq3⟩
  have hR3 := hR2.below hq3
  have hb3 := btr hb2 hq3
  have hsz3 := hb3.size
  clear hS hR2 hq3 hz
  go_wp2_with fail
  refine (l2torn_any B w3 g q s hR3 (by omega) hz').mono ?_
  rintro e w4 ⟨t, rfl, ht, hg4⟩
  go_wp2
  go_ret
  exact ⟨t, rfl, ht, hb3.trans (grow_below hg4 (by omega) (by omega))⟩
end Go.Proofs.YthcabejfmoedfaaDoor
