/- Several texts in one: SgG, SgH, SgI, SgJ, SgK, SgL. -/
import Derived.Test.YtcnlolocppbcjaaDoorBSg
import Derived.Test.YtcnlolocppbcjaaDoorBSit
import Derived.Test.YtcnlolocppbcjaaDoorBFar
import Derived.Test.YtcnlolocppbcjaaDoorDec
namespace Go.Proofs.YtcnlolocppbcjaaDoor
set_option linter.unusedVariables false
set_option linter.unusedSimpArgs false
open Go.Shelf Go.RowKit Go.Joins
set_option maxRecDepth 100000 in
set_option maxHeartbeats 8000000 in
theorem ssigread_any (s : ByteArray) (w : World) (hs : s.size ≤ 1048576) :
    Calls Tryd.prog 4 #[.string s] w fun e w' => ∃ A k c L ok, e = .returned (.tuple #[.agg #[.slice A k c], .bool ok]) ∧ k ≤ 8 ∧ SmY k L ∧ Syms w' A k L ∧ Below w.heap.size w w' ∧ SgV s.data.toList k L ok := by
  have hne : wsOf s 10 ≠ [] := by unfold wsOf; simp [split_ne]
  have hZ := fun t (h : t ∈ wsOf s 10) => ws_len h
  have hF : ∀ n M, SgOk s.data.toList n M → (wsOf s 10).length = n + 1 ∧ n ≤ 7 ∧ ∀ i, i < n → ((wsOf s 10).getD i ⟨#[]⟩).data.toList = lnK M i := by
    intro n M h
    obtain ⟨h1, _, h3⟩ := sg_lines h
    refine ⟨by unfold wsOf; rw [h1]; simp, h3, fun i hi => ?_⟩
    unfold wsOf
    rw [h1, List.getD_eq_getElem?_getD, List.getElem?_map, List.getElem?_append_left (by simpa using hi)]
    simp [hi]
  have hC := fun W => cut_at s 10 W hs
  generalize wsOf s 10 = ws at hF hne hZ hC
  have HF := hid hF
  clear hF
  have bR0 : (w.alloc (.cells #[.slice none 0 0] 24)).cell? ⟨w.heap.size, 0, none⟩ = some (.slice none 0 0) := by simp [go_sem]
  have bRf : (w.alloc (.cells #[.slice none 0 0] 24)).frozen? ⟨w.heap.size, 0, none⟩ = false := by simp [go_sem]
  have q0 := bal (Below.refl w.heap.size w) (.cells #[.slice none 0 0] 24)
  have hwz : w.heap.size < (w.alloc (.cells #[.slice none 0 0] 24)).heap.size := by simp
  go_enter Tryd.func4, Tryd.ntmps4
  go_upto_region 1 with fail
  generalize w.alloc (.cells #[.slice none 0 0] 24) = w1 at *
  go_wp2_with fail
  refine (hC _).mono ?_
  intro e w2 hN
  match ws, hne with
  | tt0 :: wt, _ =>
  obtain ⟨g, cap, rfl, hg, hgl, hcell, hb⟩ := ws_cells hN
  replace bR0 := carry hb bR0
  replace bRf := carryf hb bRf hwz
  replace q0 := btr q0 hb
  have hz2 := hb.size
  clear hN hb hC
  have hRg : w.heap.size < w2.heap.size := by omega
  have hW : w.heap.size ≤ w2.heap.size := Nat.le_of_lt hRg
  have qA := bal (bal (Below.refl w2.heap.size w2) (.cells #[] 34)) (.cells #[.slice (some ⟨w2.heap.size, 0, none⟩) 0 0] 24)
  have hX : BoxY (w2.heap.size + 1) ((w2.alloc (.cells #[] 34)).alloc (.cells #[.slice (some ⟨w2.heap.size, 0, none⟩) 0 0] 24)) (.slice (some ⟨w2.heap.size, 0, none⟩) 0 0) := by
    have h3 : TyB (w2.heap.size + 1) 24 ((w2.alloc (.cells #[] 34)).alloc (.cells #[.slice (some ⟨w2.heap.size, 0, none⟩) 0 0] 24)) := ⟨_, _, by have := Deep.blk_alloc_new (w2.alloc (.cells #[] 34)) (.cells #[.slice (some ⟨w2.heap.size, 0, none⟩) 0 0] 24); simpa using this⟩
    exact ⟨by simp [go_sem], by simp [go_sem], h3⟩
  have ho : ((w2.alloc (.cells #[] 34)).alloc (.cells #[.slice (some ⟨w2.heap.size, 0, none⟩) 0 0] 24)).ownsRow w2.heap.size 34 3 (.slice (some ⟨w2.heap.size, 0, none⟩) 0 0) 0 [] := own_below (bal (Below.refl _ _) _) (own_emptyS w2 34 3)
  have hY := YBld.nil (W := w2) (fun _ => none) (fun _ => 0) ⟨fun _ => ⟨#[]⟩, fun _ => 0, fun _ _ => 0, fun _ => 0⟩ ho
  replace bR0 := carry qA bR0
  replace bRf := carryf qA bRf hRg
  replace q0 := q0.trans (qA.mono hW)
  have hcell' : ∀ j t, (tt0 :: wt)[j]? = some t → ((w2.alloc (.cells #[] 34)).alloc (.cells #[.slice (some ⟨w2.heap.size, 0, none⟩) 0 0] 24)).cell? ⟨g, j, none⟩ = some (.string t) := fun j t h => carry qA (hcell j t h)
  have hbs := Below.refl (w2.heap.size) ((w2.alloc (.cells #[] 34)).alloc (.cells #[.slice (some ⟨w2.heap.size, 0, none⟩) 0 0] 24))
  clear qA hcell ho
  go_upto_region 3 with fail
  have hsz : w2.heap.size + 1 < ((w2.alloc (.cells #[] 34)).alloc (.cells #[.slice (some ⟨w2.heap.size, 0, none⟩) 0 0] 24)).heap.size := by simp
  generalize (w2.alloc (.cells #[] 34)).alloc (.cells #[.slice (some ⟨w2.heap.size, 0, none⟩) 0 0] 24) = w3 at *
  clear hz2
  generalize hE : w2.heap.size = E at *
  have HC := hid hcell'
  clear hcell'
  have hm : (tt0 :: wt).length = wt.length + 1 := rfl
  have hm1 : 1 ≤ wt.length + 1 := by omega
  generalize tt0 :: wt = ws at hm HF HC hZ
  generalize wt.length + 1 = m at *
  obtain ⟨i0, hi, hz0, hz1, hz2⟩ := info_parts infoSy
  go_upto_region 4 with fail
  go_loopw [6] (fun i wr => ∃ (k : Nat) (v : Value) (LA : Nat → Option Addr) (LC : Nat → Nat) (L : Sy), k ≤ 8 ∧ k + 1 ≤ m ∧ i = .int .i64 k ∧ YBld E w2 wr v k LA LC L ∧ SmY k L ∧ RdY (fun i => (ws.getD i ⟨#[]⟩).data.toList) k L ∧ BoxY (E + 1) wr v ∧ Below E w3 wr) (fun i _ => 8 - (intOf i).toNat)
  case atStart => exact ⟨0, _, _, _, _, by omega, by omega, rfl, hY, fun i hi => absurd hi (by omega), fun i hi => absurd hi (by omega), hX, hbs⟩
  case round =>
    obtain ⟨k, v, LA, LC, L, hk8, hkm, rfl, hYr, hSm, hRd, hXr, hbr⟩ := hrel
    clear hY hX
    have hBr : E + 1 < wr.heap.size := cell_lt hXr.1
    have hgr : g < wr.heap.size := by omega
    obtain ⟨Av, cv, rfl⟩ := own_slice hYr.own
    by_cases hlt : k + 1 < m ∧ k ≤ 7
    · obtain ⟨hl1, hl2⟩ := hlt
      have hkl : k < ws.length := by omega
      obtain ⟨t, ht⟩ : ∃ t, ws[k]? = some t := ⟨_, List.getElem?_eq_getElem hkl⟩
      have hx1 : wr.cell? ⟨g, k, none⟩ = some (.string t) := (hbr.cell (p := ⟨g, k, none⟩) hgl).trans (HC.out k t ht)
      have hzt := hZ t (List.mem_of_getElem? ht)
      have hgd : (ws.getD k ⟨#[]⟩) = t := by rw [List.getD_eq_getElem?_getD, ht]; rfl
      have b0 := hXr.1
      have gc := @gro_cell wr
      have hXh := hid hXr
      clear hXr
      go_upto_region 6 with fail
      refine region_plan (.takes [0, 1, 2, 3, 4, 5] (.make 6 (.make 7 .fin))) 8 rfl (by kernel_rfl) ?_
      refine plan_takes ?_; simp only [pickOps, List.getElem?_cons_zero, List.getElem?_cons_succ]; (repeat (go_big_quiet_step (fail))); refine wpQuiet_nil ?_
      have hB := (Below.refl wr.heap.size wr).drew
      generalize hw2 : wr.drew = w4 at hB ⊢
      clear hw2 gc
      refine plan_call rfl rfl 10 #[.string t] (by kernel_rfl) ?_
      refine (scan_any t w4 (by omega)).mono ?_
      rintro e w5 ⟨⟨nm, A, n, c, Z, S, rfl, hnm, hn, hnc, hcm, hO, hu⟩, hq⟩
      have hB5 := hB.trans (hq.mono hB.size)
      refine ⟨_, rfl, hB5, ?_⟩
      refine plan_val rfl rfl (.slice (some ⟨w5.heap.size, 0, none⟩) 1 1) (w'' := w5.alloc (.cells #[.string nm, .slice A n c, .int .i64 S] 34)) (by kernel_rfl) (hB5.alloc hB5.size _) ?_
      refine plan_fin ?_
      simp only [List.drop_succ_cons, List.drop_zero, Act.put, List.setIfInBounds_toArray, List.set_cons_succ, List.set_cons_zero]
      have htl : t.data.toList.length = t.size := by simp
      have hO2 := hid (hO.old hB.size)
      have hSm2 := hid (hSm.put (n := n) (nm := nm) (Z := Z) (s := S) (by omega) (by omega))
      have hRd2 := hid (hRd.step (nm := nm) (n := n) (Z := Z) (s := S) (by simp only [hgd]; exact hu))
      clear hSm hRd hu hO hq hB
      have ho2 := (own_below hB5 hYr.own).alloc (.cells #[.string nm, .slice A n c, .int .i64 S] 34)
      have hx3 : E + 1 < w5.heap.size := Nat.lt_of_lt_of_le hBr hB5.size
      have hnews : ∀ (j : Nat) (u : Value), ([.string nm, .slice A n c, .int .i64 S] : List Value)[j]? = some u → (w5.alloc (.cells #[.string nm, .slice A n c, .int .i64 S] 34)).cell? ((⟨w5.heap.size, 0, none⟩ : Addr).add j) = some u := new_threeS w5 _ _ _ _
      have hone : ∀ u ∈ ([.string nm, .slice A n c, .int .i64 S] : List Value), u.oneCell' = true := fun u hu => by simp at hu; rcases hu with rfl | rfl | rfl <;> rfl
      have HY := hid hYr
      clear hYr
      go_wp2_with ((at_builtin; refine wpList_append_own _ rfl _ _ 22 rfl E 34 i0 _ 3 48 Tryd.underlying22 hi hz0 hz1 hz2 rfl (by decide) _ _ _ rfl ho2 ⟨w5.heap.size, 0, none⟩ 1 1 [.string nm, .slice A n c, .int .i64 S] rfl rfl hnews hone (by unfold maxLen; omega) (by omega) (by simp; omega) ?_; intro v' w6 hown hgrow _; obtain ⟨A', c', rfl⟩ := own_slice hown; have hbx := hid (hXh.out.keep (ty_neS (by decide) hXh.out.2.2 HY.out.own) hB5 hgrow); have hst := hid ((HY.out.step hB5 (by omega) hnc hcm hO2.out hgrow hown).put (x := .slice A' (k + 1) c') hbx.out); have hb3 := hid ((low_belS (Nat.le_refl E) (by omega) HY.out.own hB5 hgrow hbr).setCell (p := ⟨E + 1, 0, none⟩) (Nat.le_succ E) (.slice A' (k + 1) c')); have m1 := hbx.out.1; have m1f := hbx.out.2.1; have hbx2 := hid (hbx.out.put (.slice A' (k + 1) c')); clear hown hgrow))
      go_roundw
      case rel => exact ⟨k + 1, _, _, _, _, by omega, by omega, by go_num, hst.out, hSm2.out, hRd2.out, hbx2.out, hb3.out⟩
      case measure => simp [intOf]; omega
    · have hfin := hid (sg_final hRd (fun n M h => by obtain ⟨e1, e2, e3⟩ := HF.out n M h; exact ⟨by omega, e3⟩))
      have bQ0 := (hbr.cell (p := ⟨w.heap.size, 0, none⟩) hRg).trans bR0
      have bQf := (hbr.frozen (p := ⟨w.heap.size, 0, none⟩) hRg).trans bRf
      have qQ := q0.trans (hbr.mono hW)
      obtain ⟨A, c, e1, hkc, hcm, hSy⟩ := hYr.syms hSm
      injection e1 with eA _ ec
      subst eA ec
      have hO := hid (fun W (hb : Below wr.heap.size wr W) => ssigok_any Av k cv L W (by omega) (hSy.below hb) hSm)
      have hT2 := hid (fun W (hb : Below wr.heap.size wr W) => ssigtext_any Av k cv L W (by omega) (hSy.below hb) hSm)
      generalize hv : sigB k L = bv at hO
      have b0 := hXr.1
      have hXh := hid hXr
      have HY := hid hYr
      clear hRd hSy hbr hXr hYr bR0 bRf q0
      have hwr : w.heap.size < wr.heap.size := by omega
      by_cases h1 : k + 1 < m
      · have h2 : 7 < k := by omega
        clear hlt
        cases bv
        · go_wp2_with fail
          refine (hO.out _ (Below.refl _ _)).mono ?_
          rintro e w7 ⟨rfl, hq⟩
          replace bQ0 := carry hq bQ0
          replace bQf := carryf hq bQf hwr
          replace qQ := btr qQ hq
          have t0 : (w7.setCell ⟨w.heap.size, 0, none⟩ (.slice none 0 0)).cell? ⟨w.heap.size, 0, none⟩ = some (.slice none 0 0) := World.cell?_setCell_same _ _ _ bQ0
          go_wp2
          refine bodyPost_ret (v := .tuple #[.agg #[.slice none 0 0], .bool false]) (by simp [results, Tryd.results4, go_sem, t0]) rfl ?_
          exact ⟨none, 0, 0, L, false, rfl, by omega, fun i hi => absurd hi (by omega), .inl rfl, bst qQ (Nat.le_refl _) _, .inr ⟨rfl, rfl, hfin.out.resolve_left (fun h => by have := h.1; rw [hv] at this; cases this)⟩⟩
        · go_wp2_with fail
          refine (hO.out _ (Below.refl _ _)).mono ?_
          rintro e w7 ⟨rfl, hq7⟩
          have b7 := carry hq7 b0
          go_wp2_with fail
          refine (hT2.out _ hq7).mono ?_
          rintro e w8 ⟨rfl, hq8⟩
          have hq := hq7.trans (hq8.mono hq7.size)
          have b8 := carry hq b0
          have ht : sigT k L = sigL L k := by unfold sigT; rw [if_pos hv]
          rw [ht]
          have hR : SgOk s.data.toList k L ↔ s = ⟨(sigL L k).toArray⟩ := ⟨fun h => by rw [← h.2, list_bytes], fun h => ⟨hv, by rw [h, bytes_list]⟩⟩
          generalize (⟨(sigL L k).toArray⟩ : ByteArray) = X at hR ⊢
          by_cases hk' : s = X
          · have hk5 : (X.toList == s.toList) = true := by rw [strs_eq]; simp [hk']
            replace bQ0 := carry hq bQ0
            replace bQf := carryf hq bQf hwr
            replace qQ := btr qQ hq
            have HY8 := hid ((HY.out.below hq).setLow (o := 0) (.slice Av k cv) hRg (by rw [hE]; exact hRg))
            have t0 : (w8.setCell ⟨w.heap.size, 0, none⟩ (.slice Av k cv)).cell? ⟨w.heap.size, 0, none⟩ = some (.slice Av k cv) := World.cell?_setCell_same _ _ _ bQ0
            go_wp2
            refine bodyPost_ret (v := .tuple #[.agg #[.slice Av k cv], .bool true]) (by simp [results, Tryd.results4, go_sem, t0]) rfl ?_
            obtain ⟨A2, c2, e2, _, _, hSy⟩ := HY8.out.syms hSm
            injection e2 with eA _ ec
            subst eA ec
            exact ⟨Av, k, cv, L, true, rfl, hk8, hSm, hSy, bst qQ (Nat.le_refl _) _, .inl ⟨rfl, hR.2 hk'⟩⟩
          · have hk5 : (X.toList == s.toList) = false := by rw [strs_eq]; simp; exact fun h => hk' h.symm
            replace bQ0 := carry hq bQ0
            replace bQf := carryf hq bQf hwr
            replace qQ := btr qQ hq
            have t0 : (w8.setCell ⟨w.heap.size, 0, none⟩ (.slice none 0 0)).cell? ⟨w.heap.size, 0, none⟩ = some (.slice none 0 0) := World.cell?_setCell_same _ _ _ bQ0
            go_wp2
            refine bodyPost_ret (v := .tuple #[.agg #[.slice none 0 0], .bool false]) (by simp [results, Tryd.results4, go_sem, t0]) rfl ?_
            exact ⟨none, 0, 0, L, false, rfl, by omega, fun i hi => absurd hi (by omega), .inl rfl, bst qQ (Nat.le_refl _) _, .inr ⟨rfl, rfl, hfin.out.resolve_left (fun h => hk' (hR.1 h))⟩⟩
      · have h2 : m ≤ k + 1 := by omega
        clear hlt
        cases bv
        · go_wp2_with fail
          refine (hO.out _ (Below.refl _ _)).mono ?_
          rintro e w7 ⟨rfl, hq⟩
          replace bQ0 := carry hq bQ0
          replace bQf := carryf hq bQf hwr
          replace qQ := btr qQ hq
          have t0 : (w7.setCell ⟨w.heap.size, 0, none⟩ (.slice none 0 0)).cell? ⟨w.heap.size, 0, none⟩ = some (.slice none 0 0) := World.cell?_setCell_same _ _ _ bQ0
          go_wp2
          refine bodyPost_ret (v := .tuple #[.agg #[.slice none 0 0], .bool false]) (by simp [results, Tryd.results4, go_sem, t0]) rfl ?_
          exact ⟨none, 0, 0, L, false, rfl, by omega, fun i hi => absurd hi (by omega), .inl rfl, bst qQ (Nat.le_refl _) _, .inr ⟨rfl, rfl, hfin.out.resolve_left (fun h => by have := h.1; rw [hv] at this; cases this)⟩⟩
        · go_wp2_with fail
          refine (hO.out _ (Below.refl _ _)).mono ?_
          rintro e w7 ⟨rfl, hq7⟩
          have b7 := carry hq7 b0
          go_wp2_with fail
          refine (hT2.out _ hq7).mono ?_
          rintro e w8 ⟨rfl, hq8⟩
          have hq := hq7.trans (hq8.mono hq7.size)
          have b8 := carry hq b0
          have ht : sigT k L = sigL L k := by unfold sigT; rw [if_pos hv]
          rw [ht]
          have hR : SgOk s.data.toList k L ↔ s = ⟨(sigL L k).toArray⟩ := ⟨fun h => by rw [← h.2, list_bytes], fun h => ⟨hv, by rw [h, bytes_list]⟩⟩
          generalize (⟨(sigL L k).toArray⟩ : ByteArray) = X at hR ⊢
          by_cases hk' : s = X
          · have hk5 : (X.toList == s.toList) = true := by rw [strs_eq]; simp [hk']
            replace bQ0 := carry hq bQ0
            replace bQf := carryf hq bQf hwr
            replace qQ := btr qQ hq
            have HY8 := hid ((HY.out.below hq).setLow (o := 0) (.slice Av k cv) hRg (by rw [hE]; exact hRg))
            have t0 : (w8.setCell ⟨w.heap.size, 0, none⟩ (.slice Av k cv)).cell? ⟨w.heap.size, 0, none⟩ = some (.slice Av k cv) := World.cell?_setCell_same _ _ _ bQ0
            go_wp2
            refine bodyPost_ret (v := .tuple #[.agg #[.slice Av k cv], .bool true]) (by simp [results, Tryd.results4, go_sem, t0]) rfl ?_
            obtain ⟨A2, c2, e2, _, _, hSy⟩ := HY8.out.syms hSm
            injection e2 with eA _ ec
            subst eA ec
            exact ⟨Av, k, cv, L, true, rfl, hk8, hSm, hSy, bst qQ (Nat.le_refl _) _, .inl ⟨rfl, hR.2 hk'⟩⟩
          · have hk5 : (X.toList == s.toList) = false := by rw [strs_eq]; simp; exact fun h => hk' h.symm
            replace bQ0 := carry hq bQ0
            replace bQf := carryf hq bQf hwr
            replace qQ := btr qQ hq
            have t0 : (w8.setCell ⟨w.heap.size, 0, none⟩ (.slice none 0 0)).cell? ⟨w.heap.size, 0, none⟩ = some (.slice none 0 0) := World.cell?_setCell_same _ _ _ bQ0
            go_wp2
            refine bodyPost_ret (v := .tuple #[.agg #[.slice none 0 0], .bool false]) (by simp [results, Tryd.results4, go_sem, t0]) rfl ?_
            exact ⟨none, 0, 0, L, false, rfl, by omega, fun i hi => absurd hi (by omega), .inl rfl, bst qQ (Nat.le_refl _) _, .inr ⟨rfl, rfl, hfin.out.resolve_left (fun h => hk' (hR.1 h))⟩⟩
end Go.Proofs.YtcnlolocppbcjaaDoor

namespace Go.Proofs.YtcnlolocppbcjaaDoor
set_option linter.unusedVariables false
set_option linter.unusedSimpArgs false
open Go.Shelf Go.RowKit Go.Joins
def lRest (l : List UInt8) : Nat → List UInt8
  | 0 => l
  | k + 1 => (Lib.cut (lRest l k) [10]).2.1
def lLine (l : List UInt8) (k : Nat) : List UInt8 := (Lib.cut (lRest l k) [10]).1
theorem lcut_lt {l : List UInt8} (h : l ≠ []) : (Lib.cut l [10]).2.1.length < l.length := by
  have : 0 < l.length := List.length_pos_iff.2 h
  unfold Lib.cut
  split <;> simp <;> omega
theorem lrest_len (l : List UInt8) : ∀ k, (lRest l k).length ≤ l.length
  | 0 => Nat.le_refl _
  | k + 1 => Nat.le_trans (cut_size (lRest l k) 10).2 (lrest_len l k)
theorem lline_len (l : List UInt8) (k : Nat) : (lLine l k).length ≤ l.length := Nat.le_trans (cut_size (lRest l k) 10).1 (lrest_len l k)
theorem lrest_at {l : List UInt8} {n : Nat} {M : Sy} (h : SgOk l n M) : ∀ i, i ≤ n → lRest l i = sigF M i (n - i)
  | 0, _ => by rw [Nat.sub_zero, sigF_all]; exact h.2
  | i + 1, hi => by
    have h3 := (sigB_iff.1 h.1).2.1
    show (Lib.cut (lRest l i) [10]).2.1 = _
    rw [lrest_at h i (by omega), show n - i = (n - (i + 1)) + 1 by omega, sigF_cut (h3 i (by omega))]
theorem lline_at {l : List UInt8} {n : Nat} {M : Sy} (h : SgOk l n M) {i : Nat} (hi : i < n) : lLine l i = lnK M i := by
  have h3 := (sigB_iff.1 h.1).2.1
  unfold lLine
  rw [lrest_at h i (by omega), show n - i = (n - (i + 1)) + 1 by omega, sigF_cut (h3 i (by omega))]
theorem lread_final {l : List UInt8} {k : Nat} {L : Sy} (hRd : RdY (lLine l) k L) (hne : ∀ i, i < k → lRest l i ≠ []) (he : lRest l k = [] ∨ 7 ≤ k) : SgOk l k L ∨ ∀ n M, ¬ SgOk l n M := by
  refine sg_final hRd fun n M h => ?_
  have h7 := (sigB_iff.1 h.1).1
  have hkn : k = n := by
    rcases Nat.lt_trichotomy k n with hlt | heq | hgt
    · rcases he with he | he
      · rw [lrest_at h k (by omega)] at he
        exact absurd he (sigF_ne (by omega))
      · omega
    · exact heq
    · refine absurd ?_ (hne n hgt)
      rw [lrest_at h n (Nat.le_refl _), Nat.sub_self]; rfl
  exact ⟨hkn, fun i hi => lline_at h hi⟩
theorem sigT_iff {l : List UInt8} {k : Nat} {L : Sy} (hne : ∀ i, i < k → lRest l i ≠ []) : sigT k L = l ↔ SgOk l k L := by
  unfold sigT
  constructor
  · intro h
    by_cases hb : sigB k L = true
    · rw [if_pos hb] at h; exact ⟨hb, h.symm⟩
    · rw [if_neg hb] at h
      by_cases h0 : 0 < k
      · exact absurd h.symm (hne 0 h0)
      · obtain rfl : k = 0 := by omega
        exact absurd (sigB_iff.2 ⟨by omega, fun k hk => absurd hk (by omega), ascB_iff.2 fun k hk => absurd hk (by omega)⟩) hb
  · intro h; rw [if_pos h.1]; exact h.2.symm
theorem own_lowS {w : World} {base base' n size : Nat} {e : TypeId} {v : Value} {xs : List Value} (hb : base' ≤ base) (h : w.ownsRow base e size v n xs) : w.ownsRow base' e size v n xs := by
  obtain ⟨h1, h | ⟨g, cap, cur, hv, hg, hr⟩⟩ := h
  · exact ⟨h1, .inl h⟩
  · exact ⟨h1, .inr ⟨g, cap, cur, hv, Nat.le_trans hb hg, hr⟩⟩
theorem YBld.low {lo lo' k : Nat} {W W' w : World} {v : Value} {LA : Nat → Option Addr} {LC : Nat → Nat} {L : Sy} (hlo : lo' ≤ lo) (hW : W'.heap.size ≤ W.heap.size) (h : YBld lo W w v k LA LC L) : YBld lo' W' w v k LA LC L :=
  ⟨own_lowS hlo h.own, fun i hi => ⟨(h.arg i hi).1, (h.arg i hi).2.1, (h.arg i hi).2.2.old hW⟩, h.dis⟩
theorem strnilX (X : ByteArray) : (X.toList == []) = decide (X.data.toList = []) := by
  rw [Bool.eq_iff_iff, ByteArray.toList_eq]
  simp only [beq_iff_eq, decide_eq_true_eq]
def strZ : Value → Nat
  | .string b => b.size
  | _ => 0
theorem str_nilH (l : List UInt8) : (l == []) = decide (l = []) := by
  rw [Bool.eq_iff_iff]; simp only [beq_iff_eq, decide_eq_true_eq]
set_option maxRecDepth 100000 in
set_option maxHeartbeats 8000000 in
theorem sigread_any (s : ByteArray) (w : World) (hs : s.size ≤ 1048576) (hm : MaxAt w) (h1 : ErrAt w 1) (h2 : ErrAt w 2) :
    Calls Tryd.prog 5 #[.string s] w fun e w' => ∃ v k LA LC L ok, e = .returned (.tuple #[.agg #[v], .bool ok]) ∧ k ≤ 7 ∧ SmY k L ∧ YBld w.heap.size w w' v k LA LC L ∧ Below w.heap.size w w' ∧ SgV s.data.toList k L ok := by
  have hM := hid (fun W (hb : Below w.heap.size w W) => hm.below hb)
  have hE1 := hid (fun W (hb : Below w.heap.size w W) => h1.below hb)
  have hE2 := hid (fun W (hb : Below w.heap.size w W) => h2.below hb)
  clear hm h1 h2
  have hsl : s.data.toList.length ≤ 1048576 := by simpa using hs
  have hrl := fun k => Nat.le_trans (lrest_len s.data.toList k) hsl
  have hll := fun k => Nat.le_trans (lline_len s.data.toList k) hsl
  have Hsb := hid (show s = ⟨(lRest s.data.toList 0).toArray⟩ from (list_bytes s).symm)
  have bR0 : ((w.alloc (.cells #[.slice none 0 0] 24)).alloc (.cells #[.slice none 0 0] 24)).cell? ⟨w.heap.size, 0, none⟩ = some (.slice none 0 0) := by simp [go_sem]
  have bRf : ((w.alloc (.cells #[.slice none 0 0] 24)).alloc (.cells #[.slice none 0 0] 24)).frozen? ⟨w.heap.size, 0, none⟩ = false := by simp [go_sem]
  have q0 := bal (bal (Below.refl w.heap.size w) (.cells #[.slice none 0 0] 24)) (.cells #[.slice none 0 0] 24)
  have hX : BoxY (w.heap.size + 1) ((w.alloc (.cells #[.slice none 0 0] 24)).alloc (.cells #[.slice none 0 0] 24)) (.slice none 0 0) := by
    have h3 : TyB (w.heap.size + 1) 24 ((w.alloc (.cells #[.slice none 0 0] 24)).alloc (.cells #[.slice none 0 0] 24)) := ⟨_, _, by have := Deep.blk_alloc_new (w.alloc (.cells #[.slice none 0 0] 24)) (.cells #[.slice none 0 0] 24); simpa using this⟩
    exact ⟨by simp [go_sem], by simp [go_sem], h3⟩
  have hsz : ((w.alloc (.cells #[.slice none 0 0] 24)).alloc (.cells #[.slice none 0 0] 24)).heap.size = w.heap.size + 2 := by simp
  go_enter Tryd.func5, Tryd.ntmps5
  go_upto_region 2 with fail
  generalize (w.alloc (.cells #[.slice none 0 0] 24)).alloc (.cells #[.slice none 0 0] 24) = w2 at *
  have hY := YBld.nil (W := w2) (fun _ => none) (fun _ => 0) ⟨fun _ => ⟨#[]⟩, fun _ => 0, fun _ _ => 0, fun _ => 0⟩ (World.ownsRow_nil w2 w2.heap.size 34 3)
  have hbs := Below.refl (w.heap.size + 1) w2
  have HZ := hid hsz
  have hsz2 : w.heap.size + 1 < w2.heap.size := by omega
  clear hsz
  go_upto_region 3 with fail
  obtain ⟨i0, hi, hz0, hz1, hz2⟩ := info_parts infoSy
  go_loopw [5] (fun r wr => ∃ (k : Nat) (v : Value) (LA : Nat → Option Addr) (LC : Nat → Nat) (L : Sy), k ≤ 7 ∧ r = .string ⟨(lRest s.data.toList k).toArray⟩ ∧ YBld w2.heap.size w2 wr v k LA LC L ∧ SmY k L ∧ RdY (lLine s.data.toList) k L ∧ (∀ i, i < k → lRest s.data.toList i ≠ []) ∧ BoxY (w.heap.size + 1) wr v ∧ Below (w.heap.size + 1) w2 wr) (fun r _ => strZ r)
  case atStart => exact ⟨0, _, _, _, _, by omega, by rw [← Hsb.out], hY, fun i hi => absurd hi (by omega), fun i hi => absurd hi (by omega), fun i hi => absurd hi (by omega), hX, hbs⟩
  case round =>
    obtain ⟨k, v, LA, LC, L, hk, rfl, hYr, hSm, hRd, hne, hXr, hbr⟩ := hrel
    clear hY hX hbs
    have hBr : w.heap.size + 1 < wr.heap.size := cell_lt hXr.1
    have hrk := hrl k
    have hlk := hll k
    have HRL := hid hrl
    clear hrl hll
    have hXd := hid (show (⟨(lRest s.data.toList k).toArray⟩ : ByteArray).data.toList = lRest s.data.toList k from bytes_list)
    generalize hXX : (⟨(lRest s.data.toList k).toArray⟩ : ByteArray) = X at *
    clear hXX
    obtain ⟨Av, cv, rfl⟩ := own_slice hYr.own
    have b0 := hXr.1
    have h45 := strnilX X
    rw [hXd.out] at h45
    by_cases he : lRest s.data.toList k = []
    · rw [decide_eq_true he] at h45
      have hfin := hid (lread_final hRd hne (.inl he))
      have hTi := hid (sigT_iff (l := s.data.toList) (L := L) hne)
      have bQ0 := (hbr.cell (p := ⟨w.heap.size, 0, none⟩) (Nat.lt_succ_self _)).trans bR0
      have bQf := (hbr.frozen (p := ⟨w.heap.size, 0, none⟩) (Nat.lt_succ_self _)).trans bRf
      have qQ := q0.trans (hbr.mono (Nat.le_succ _))
      obtain ⟨A, c, e1, hkc, hcm, hSy⟩ := hYr.syms hSm
      injection e1 with eA _ ec
      subst eA ec
      have hT2 := hid (fun W (hb : Below wr.heap.size wr W) => sigtext_any Av k cv L W (by omega) (hSy.below hb))
      have hwr : w.heap.size < wr.heap.size := by omega
      have HY := hid hYr
      clear hRd hSy hbr hXr hYr bR0 bRf q0 hne
      go_wp2_with fail
      refine (hT2.out _ (Below.refl _ _)).mono ?_
      rintro e w7 ⟨rfl, hq⟩
      have b7 := carry hq b0
      have hR : SgOk s.data.toList k L ↔ s = ⟨(sigT k L).toArray⟩ := ⟨fun h => by rw [hTi.out.2 h, list_bytes], fun h => hTi.out.1 (by rw [h, bytes_list])⟩
      generalize (⟨(sigT k L).toArray⟩ : ByteArray) = Y at hR ⊢
      replace bQ0 := carry hq bQ0
      replace bQf := carryf hq bQf hwr
      replace qQ := btr qQ hq
      by_cases hk' : s = Y
      · have hk5 : (Y.toList == s.toList) = true := by rw [strs_eq]; simp [hk']
        have HY8 := hid ((HY.out.below hq).setLow (p := w.heap.size) (o := 0) (.slice Av k cv) (by omega) (by omega))
        have t0 : (w7.setCell ⟨w.heap.size, 0, none⟩ (.slice Av k cv)).cell? ⟨w.heap.size, 0, none⟩ = some (.slice Av k cv) := World.cell?_setCell_same _ _ _ bQ0
        go_wp2
        refine bodyPost_ret (v := .tuple #[.agg #[.slice Av k cv], .bool true]) (by simp [results, Tryd.results5, go_sem, t0]) rfl ?_
        exact ⟨_, k, _, _, L, true, rfl, hk, hSm, HY8.out.low (by omega) (by omega), bst qQ (Nat.le_refl _) _, .inl ⟨rfl, hR.2 hk'⟩⟩
      · have hk5 : (Y.toList == s.toList) = false := by rw [strs_eq]; simp; exact fun h => hk' h.symm
        have t0 : (w7.setCell ⟨w.heap.size, 0, none⟩ (.slice none 0 0)).cell? ⟨w.heap.size, 0, none⟩ = some (.slice none 0 0) := World.cell?_setCell_same _ _ _ bQ0
        go_wp2
        refine bodyPost_ret (v := .tuple #[.agg #[.slice none 0 0], .bool false]) (by simp [results, Tryd.results5, go_sem, t0]) rfl ?_
        exact ⟨_, 0, _, _, _, false, rfl, by omega, fun i hi => absurd hi (by omega), YBld.nil (fun _ => none) (fun _ => 0) ⟨fun _ => ⟨#[]⟩, fun _ => 0, fun _ _ => 0, fun _ => 0⟩ (World.ownsRow_nil _ _ _ _), bst qQ (Nat.le_refl _) _, .inr ⟨rfl, rfl, hfin.out.resolve_left (fun h => hk' (hR.1 h))⟩⟩
    · rw [decide_eq_false he] at h45
      by_cases h7 : k < 7
      · have hXz : X.size ≤ 1048576 := by
          have h1 := congrArg List.length hXd.out
          have h2 : X.data.toList.length = X.size := by simp
          omega
        have hC := strcut_at X 10 wr hXz (hM.out _ (q0.trans (hbr.mono (Nat.le_succ _))))
        rw [hXd.out] at hC
        have hw1 : (Lib.cut (lRest s.data.toList k) [10]).1 = lLine s.data.toList k := rfl
        have hw2 : (Lib.cut (lRest s.data.toList k) [10]).2.1 = lRest s.data.toList (k + 1) := rfl
        rw [hw1, hw2] at hC
        have Hlt := hid (lcut_lt he)
        clear hw1 hw2
        go_wp2_with fail
        refine hC.mono ?_
        rintro e w4 ⟨rfl, hq⟩
        have hXz2 := congrArg List.length hXd.out
        replace hYr := hYr.below hq
        replace hXr := hXr.below hq
        replace hbr := hbr.trans (hq.mono (by omega))
        have hz4 := hq.size
        have hBr4 : w.heap.size + 1 < w4.heap.size := by omega
        replace b0 := hXr.1
        clear hq hC
        have HXX := hid hXz2
        clear hXz2
        have hld := hid (show (⟨(lLine s.data.toList k).toArray⟩ : ByteArray).data.toList = lLine s.data.toList k from bytes_list)
        generalize (⟨(lLine s.data.toList k).toArray⟩ : ByteArray) = T at *
        have hTz : T.size ≤ 1048576 := by
          have h1 := congrArg List.length hld.out
          have h2 : T.data.toList.length = T.size := by simp
          omega
        have gc := @gro_cell w4
        have hXh := hid hXr
        clear hXr
        go_upto_region 6 with fail
        refine region_plan (.takes [0, 1, 2] (.make 3 (.make 4 .fin))) 5 rfl (by kernel_rfl) ?_
        refine plan_takes ?_; simp only [pickOps, List.getElem?_cons_zero, List.getElem?_cons_succ]; (repeat (go_big_quiet_step (fail))); refine wpQuiet_nil ?_
        have hB := (Below.refl w4.heap.size w4).drew
        have hqw := q0.trans ((hbr.trans (hB.mono (by omega))).mono (Nat.le_succ _))
        generalize hw2 : w4.drew = wd at hB hqw ⊢
        clear hw2 gc
        refine plan_call rfl rfl 14 #[.string T] (by kernel_rfl) ?_
        refine (readsym_any T wd hTz (hM.out _ hqw) (hE1.out _ hqw) (hE2.out _ hqw)).mono ?_
        rintro e w5 ⟨⟨nm, A, n, c, Z, S, rfl, hnm, hn, hnc, hcm, hO, hu⟩, hq⟩
        have hB5 := hB.trans (hq.mono hB.size)
        refine ⟨_, rfl, hB5, ?_⟩
        refine plan_val rfl rfl (.slice (some ⟨w5.heap.size, 0, none⟩) 1 1) (w'' := w5.alloc (.cells #[.string nm, .slice A n c, .int .i64 S] 34)) (by kernel_rfl) (hB5.alloc hB5.size _) ?_
        refine plan_fin ?_
        simp only [List.drop_succ_cons, List.drop_zero, Act.put, List.setIfInBounds_toArray, List.set_cons_succ, List.set_cons_zero]
        have htl : T.data.toList.length = T.size := by simp
        have hO2 := hid (hO.old hB.size)
        have hSm2 := hid (hSm.put (n := n) (nm := nm) (Z := Z) (s := S) (by omega) (by omega))
        have hRd2 := hid (hRd.step (nm := nm) (n := n) (Z := Z) (s := S) (by rw [← hld.out]; exact hu))
        have hne2 := hid (show ∀ i, i < k + 1 → lRest s.data.toList i ≠ [] from fun i hi => by
          by_cases e : i = k
          · rw [e]; exact he
          · exact hne i (by omega))
        clear hSm hRd hu hO hq hB hne
        have ho2 := (own_below hB5 hYr.own).alloc (.cells #[.string nm, .slice A n c, .int .i64 S] 34)
        have hx3 : w.heap.size + 1 < w5.heap.size := Nat.lt_of_lt_of_le hBr4 hB5.size
        have hnews : ∀ (j : Nat) (u : Value), ([.string nm, .slice A n c, .int .i64 S] : List Value)[j]? = some u → (w5.alloc (.cells #[.string nm, .slice A n c, .int .i64 S] 34)).cell? ((⟨w5.heap.size, 0, none⟩ : Addr).add j) = some u := new_threeS w5 _ _ _ _
        have hone : ∀ u ∈ ([.string nm, .slice A n c, .int .i64 S] : List Value), u.oneCell' = true := fun u hu => by simp at hu; rcases hu with rfl | rfl | rfl <;> rfl
        have HY := hid hYr
        clear hYr
        have hz24 : w2.heap.size ≤ w4.heap.size := hbr.size
        have hz25 : w2.heap.size ≤ w5.heap.size := Nat.le_trans hz24 hB5.size
        go_wp2_with ((at_builtin; refine wpList_append_own _ rfl _ _ 22 rfl w2.heap.size 34 i0 _ 3 48 Tryd.underlying22 hi hz0 hz1 hz2 rfl (by decide) _ _ _ rfl ho2 ⟨w5.heap.size, 0, none⟩ 1 1 [.string nm, .slice A n c, .int .i64 S] rfl rfl hnews hone (by unfold maxLen; omega) (by omega) (by simp; omega) ?_; intro v' w6 hown hgrow _; obtain ⟨A', c', rfl⟩ := own_slice hown; have hbx := hid (hXh.out.keep (fun hh => by have := (HY.out.own.lt _ hh).1; omega) hB5 hgrow); have hst := hid ((HY.out.step hB5 hz24 hnc hcm hO2.out hgrow hown).setLow (p := w.heap.size + 1) (o := 0) (.slice A' (k + 1) c') hsz2 hsz2); have hb3 := hid ((low_belS (by omega) (by omega) HY.out.own hB5 hgrow hbr).setCell (p := ⟨w.heap.size + 1, 0, none⟩) (Nat.le_refl _) (.slice A' (k + 1) c')); have m1 := hbx.out.1; have m1f := hbx.out.2.1; have hbx2 := hid (hbx.out.put (.slice A' (k + 1) c')); clear hown hgrow))
        go_roundw
        case rel => exact ⟨k + 1, _, _, _, _, by omega, rfl, hst.out, hSm2.out, hRd2.out, hne2.out, hbx2.out, hb3.out⟩
        case measure =>
          have h2 : X.data.toList.length = X.size := by simp
          have h3 := Hlt.out
          rw [← HXX.out, h2] at h3
          exact h3
      · have h7' : 7 ≤ k := by omega
        have hfin := hid (lread_final hRd hne (.inr h7'))
        have hTi := hid (sigT_iff (l := s.data.toList) (L := L) hne)
        have bQ0 := (hbr.cell (p := ⟨w.heap.size, 0, none⟩) (Nat.lt_succ_self _)).trans bR0
        have bQf := (hbr.frozen (p := ⟨w.heap.size, 0, none⟩) (Nat.lt_succ_self _)).trans bRf
        have qQ := q0.trans (hbr.mono (Nat.le_succ _))
        obtain ⟨A, c, e1, hkc, hcm, hSy⟩ := hYr.syms hSm
        injection e1 with eA _ ec
        subst eA ec
        have hT2 := hid (fun W (hb : Below wr.heap.size wr W) => sigtext_any Av k cv L W (by omega) (hSy.below hb))
        have hwr : w.heap.size < wr.heap.size := by omega
        have HY := hid hYr
        clear hRd hSy hbr hXr hYr bR0 bRf q0 hne
        go_wp2_with fail
        refine (hT2.out _ (Below.refl _ _)).mono ?_
        rintro e w7 ⟨rfl, hq⟩
        have b7 := carry hq b0
        have hR : SgOk s.data.toList k L ↔ s = ⟨(sigT k L).toArray⟩ := ⟨fun h => by rw [hTi.out.2 h, list_bytes], fun h => hTi.out.1 (by rw [h, bytes_list])⟩
        generalize (⟨(sigT k L).toArray⟩ : ByteArray) = Y at hR ⊢
        replace bQ0 := carry hq bQ0
        replace bQf := carryf hq bQf hwr
        replace qQ := btr qQ hq
        by_cases hk' : s = Y
        · have hk5 : (Y.toList == s.toList) = true := by rw [strs_eq]; simp [hk']
          have HY8 := hid ((HY.out.below hq).setLow (p := w.heap.size) (o := 0) (.slice Av k cv) (by omega) (by omega))
          have t0 : (w7.setCell ⟨w.heap.size, 0, none⟩ (.slice Av k cv)).cell? ⟨w.heap.size, 0, none⟩ = some (.slice Av k cv) := World.cell?_setCell_same _ _ _ bQ0
          go_wp2
          refine bodyPost_ret (v := .tuple #[.agg #[.slice Av k cv], .bool true]) (by simp [results, Tryd.results5, go_sem, t0]) rfl ?_
          exact ⟨_, k, _, _, L, true, rfl, hk, hSm, HY8.out.low (by omega) (by omega), bst qQ (Nat.le_refl _) _, .inl ⟨rfl, hR.2 hk'⟩⟩
        · have hk5 : (Y.toList == s.toList) = false := by rw [strs_eq]; simp; exact fun h => hk' h.symm
          have t0 : (w7.setCell ⟨w.heap.size, 0, none⟩ (.slice none 0 0)).cell? ⟨w.heap.size, 0, none⟩ = some (.slice none 0 0) := World.cell?_setCell_same _ _ _ bQ0
          go_wp2
          refine bodyPost_ret (v := .tuple #[.agg #[.slice none 0 0], .bool false]) (by simp [results, Tryd.results5, go_sem, t0]) rfl ?_
          exact ⟨_, 0, _, _, _, false, rfl, by omega, fun i hi => absurd hi (by omega), YBld.nil (fun _ => none) (fun _ => 0) ⟨fun _ => ⟨#[]⟩, fun _ => 0, fun _ _ => 0, fun _ => 0⟩ (World.ownsRow_nil _ _ _ _), bst qQ (Nat.le_refl _) _, .inr ⟨rfl, rfl, hfin.out.resolve_left (fun h => hk' (hR.1 h))⟩⟩
end Go.Proofs.YtcnlolocppbcjaaDoor

namespace Go.Proofs.YtcnlolocppbcjaaDoor
set_option linter.unusedVariables false
set_option linter.unusedSimpArgs false
open Go.Shelf Go.RowKit Go.Joins
/-- the text of the mark k -/
def mtB (k : Nat) : ByteArray := ⟨(109 :: Lib.decDigits k).toArray⟩
def mtR (k : Nat) : List UInt8 := if k = 0 then [] else Lib.decDigits k
theorem mtR_step {k : Nat} (h : 0 < k) : mtR k = mtR (k / 10) ++ [UInt8.ofNat (48 + k % 10)] := by
  unfold mtR
  rw [if_neg (by omega)]
  by_cases h9 : k < 10
  · rw [if_pos (by omega), dec_small h9, List.nil_append, Nat.mod_eq_of_lt h9]
  · rw [if_neg (by omega), dec_big h9]
theorem mtB_size {k : Nat} (h : k ≤ 1000000000000000000) : (mtB k).size ≤ 20 := by
  have := dec_len h
  show (109 :: Lib.decDigits k).toArray.size ≤ 20
  simp; omega
set_option maxRecDepth 100000 in
set_option maxHeartbeats 4000000 in
theorem marktext_any (n : Nat) (w : World) (h0 : 0 < n) (hn : n ≤ 1000000000000000000) :
    Calls Tryd.prog 30 #[.int .i64 n] w fun e w' => e = .returned (.string (mtB n)) ∧ Below w.heap.size w w' := by
  have hL := dec_len hn
  have hR : mtR n = Lib.decDigits n := by unfold mtR; rw [if_neg (by omega)]
  unfold mtB
  rw [← hR]
  have hL2 : (mtR n).length ≤ 19 := by rw [hR]; exact hL
  clear hL hR
  have HL := hid (rfl : mtR n = mtR n)
  generalize hq : mtR n = L at hL2 ⊢
  rw [hq] at HL
  have HQ := hid hq; clear hq HL
  have hd0 : decide (n = 0) = false := by simp; omega
  go_enter Tryd.func30, Tryd.ntmps30
  go_wp2
  go_loopw [0, 3] (fun a o wr => ∃ (k : Nat) (l : List UInt8), k ≤ n ∧ a = .int .i64 k ∧ o = .string ⟨l.toArray⟩ ∧ mtR k ++ l = L ∧ Below w.heap.size w wr) (fun a _ _ => (intOf a).toNat)
  case atStart => exact ⟨n, [], Nat.le_refl _, rfl, rfl, by rw [List.append_nil]; exact HQ.out, Below.refl _ _⟩
  case round =>
    obtain ⟨k, l, hk, rfl, rfl, hd, hb⟩ := hrel
    have hl : l.length ≤ 19 := by have h1 := congrArg List.length hd; rw [List.length_append] at h1; omega
    have HD := hid hd; clear hd
    have HB := hid hb; clear hb
    generalize hs : (⟨l.toArray⟩ : ByteArray) = s
    have HS := hid hs; clear hs
    have hz : s.size ≤ 19 := by rw [← HS.out]; exact hl
    by_cases h9 : k < 1
    · go_wp2
      go_ret
      refine ⟨?_, HB.out⟩
      have h00 : k = 0 := by omega
      rw [← HS.out, cat_cons, ← HD.out, h00]
      rfl
    · have hk10 : k / 10 ≤ n := by omega
      have hd := digit_str wr (k % 10) (by omega)
      generalize hc : UInt8.ofNat (48 + k % 10) = c at hd
      have HC := hid hc; clear hc
      go_wp2
      rw [show (48 + (k : Int) % 10) = 48 + ((k % 10 : Nat) : Int) by omega]
      rw [hd]
      go_wp2
      go_roundw
      case measure =>
        show ((k : Int) / 10).toNat < (k : Int).toNat
        omega
      refine ⟨k / 10, c :: l, hk10, ?_, ?_, ?_, below_new HB.out _⟩
      · show Value.int IntKind.i64 ((k : Int) / 10) = Value.int IntKind.i64 ((k / 10 : Nat) : Int)
        rw [show ((k : Int) / 10) = ((k / 10 : Nat) : Int) by omega]
      · rw [← HS.out, cat_cons]
      · rw [← HD.out, mtR_step (k := k) (by omega), HC.out, List.append_assoc]
        rfl
/-- the mark at the i-th symbol -/
def my0 (k0 : Nat) (L : Sy) : Nat → Nat
  | 0 => k0
  | i + 1 => my0 k0 L i + L.N i + 2
/-- the list with the marks from k0 on in its first i symbols -/
def mixY (k0 : Nat) (L : Sy) (i : Nat) : Sy where
  Nm := fun j => if j < i then mtB (my0 k0 L j) else L.Nm j
  N := L.N
  Z := fun j x => if j < i then (my0 k0 L j : Int) + 1 + x else L.Z j x
  S := fun j => if j < i then (my0 k0 L j : Int) + 1 + L.N j else L.S j
theorem mixY_zero (k0 : Nat) (L : Sy) : mixY k0 L 0 = L := by unfold mixY; simp
theorem my0_bd (k0 : Nat) (L : Sy) (n : Nat) (hN : SmY n L) : ∀ i, i ≤ n → k0 ≤ my0 k0 L i ∧ my0 k0 L i ≤ k0 + i * 1048578
  | 0, _ => by simp [my0]
  | i + 1, hi => by
    have ih := my0_bd k0 L n hN i (by omega)
    have := (hN i (by omega)).1
    simp only [my0]
    omega
theorem mixY_sm {k0 n : Nat} {L : Sy} (hN : SmY n L) (hk : k0 + n * 1048578 ≤ 1000000000000000000) : SmY n (mixY k0 L n) := by
  intro i hi
  refine ⟨(hN i hi).1, ?_⟩
  have := my0_bd k0 L n hN i (by omega)
  simp only [mixY, if_pos hi]
  have h2 := mtB_size (k := my0 k0 L i) (by have : i * 1048578 ≤ n * 1048578 := Nat.mul_le_mul_right _ (by omega)
                                            omega)
  omega
/-- a list of n symbols in blocks of [lo, hi), each of its rows in a block of its own -/
def YsB (lo hi : Nat) (w : World) (A : Option Addr) (n : Nat) (L : Sy) : Prop :=
  n = 0 ∨ ∃ g LA LC m f, A = some ⟨g, 0, none⟩ ∧ lo ≤ g ∧ g < hi ∧ n * 3 ≤ m ∧ w.rowIs g 34 m f ∧ (∀ j, j < n * 3 → f j = symV LA LC L j) ∧
    (∀ k, k < n → L.N k ≤ LC k ∧ LC k ≤ 9223372036854775807 ∧ OwnB lo hi w (LA k) (L.N k) (L.Z k)) ∧ (∀ k, k < n → L.N k = 0 ∨ LA k ≠ some ⟨g, 0, none⟩) ∧ ∀ i j, i < j → j < n → L.N i = 0 ∨ L.N j = 0 ∨ LA i ≠ LA j
theorem YsB.below {lo hi : Nat} {w w' : World} {A : Option Addr} {n : Nat} {L : Sy} (h : YsB lo hi w A n L) (hb : Below w.heap.size w w') : YsB lo hi w' A n L := by
  rcases h with h | ⟨g, LA, LC, m, f, ha, h1, h2, h3, hr, hf, hc, hx⟩
  · exact .inl h
  · exact .inr ⟨g, LA, LC, m, f, ha, h1, h2, h3, row_below hr hb, hf, fun k hk => ⟨(hc k hk).1, (hc k hk).2.1, (hc k hk).2.2.below hb⟩, hx⟩
theorem YsB.syms {lo hi : Nat} {w : World} {A : Option Addr} {n : Nat} {L : Sy} (h : YsB lo hi w A n L) (hN : SmY n L) : Syms w A n L := by
  rcases h with h | ⟨g, LA, LC, m, f, ha, h1, h2, h3, hr, hf, hc, hx⟩
  · exact .inl h
  · refine .inr ⟨g, 0, ha, hr.lt, fun k hk => ⟨LA k, LC k, ?_, ?_, ?_, by have := hN k hk; omega, by have := hN k hk; omega, (hc k hk).2.2.ints⟩⟩
    · rw [Nat.zero_add]; exact (hr.cell (by omega)).trans (by rw [hf _ (by omega), symV_0])
    · rw [Nat.zero_add]; exact (hr.cell (by omega)).trans (by rw [hf _ (by omega), symV_1])
    · rw [Nat.zero_add]; exact (hr.cell (by omega)).trans (by rw [hf _ (by omega), symV_2])
/-- a built list is one -/
theorem YBld.ysb {lo k : Nat} {W w : World} {v : Value} {LA : Nat → Option Addr} {LC : Nat → Nat} {L : Sy} (hlo : lo ≤ W.heap.size) (h : YBld lo W w v k LA LC L) : ∃ A c, v = .slice A k c ∧ k ≤ c ∧ c ≤ 9223372036854775807 ∧ YsB lo w.heap.size w A k L := by
  obtain ⟨hl, ⟨rfl, rfl⟩ | ⟨g, cap, cur, rfl, hg, hh, h1, h2, h3, h4⟩⟩ := h.own
  · exact ⟨none, 0, rfl, Nat.le_refl _, by omega, .inl rfl⟩
  · refine ⟨_, cap, rfl, h1, by unfold maxLen at h2; omega, ?_⟩
    by_cases h0 : 0 < k
    · have hlt := (Array.getElem?_eq_some_iff.1 hh).1
      have hrow : w.rowIs g 34 cur.size (fun j => cur[j]?.getD (.int .i64 0)) := ⟨cur, hh, rfl, fun i hi => by simp [hi]⟩
      have hf : ∀ j, j < k * 3 → (fun j => cur[j]?.getD (.int .i64 0)) j = symV LA LC L j := by
        intro j hj
        have e : (cur.toList.take (k * 3))[j]? = some (symV LA LC L j) := by rw [h4]; unfold symsC; simp [hj]
        rw [List.getElem?_take_of_lt hj, Array.getElem?_toList] at e
        simp [e]
      have hsz : k * 3 ≤ cur.size := by
        have e : (cur.toList.take (k * 3)).length = k * 3 := by rw [h4, symsC_len]
        rw [List.length_take] at e
        simp at e; omega
      have ht := symrow_text h0 h.own g rfl
      refine .inr ⟨g, LA, LC, cur.size, _, rfl, hg, hlt, hsz, hrow, hf, fun i hi => ⟨(h.arg i hi).1, (h.arg i hi).2.1, ?_⟩, fun i hi => ?_, h.dis⟩
      · rcases (h.arg i hi).2.2 with h' | ⟨g', ha, h5, h6, h7⟩
        · exact .inl h'
        · exact .inr ⟨g', ha, Nat.le_trans hlo h5, h6, h6, h7⟩
      · rcases (h.arg i hi).2.2 with h' | ⟨g', ha, h5, h6, h7⟩
        · exact .inl h'
        · by_cases hz : L.N i = 0
          · exact .inl hz
          · refine .inr fun e => ?_
            rw [ha] at e
            injection e with e
            injection e with e _ _
            have := (h7 0 (by omega)).1
            rw [e, ht] at this
            injection this with this
            injection this
    · exact .inl (by omega)
end Go.Proofs.YtcnlolocppbcjaaDoor

namespace Go.Proofs.YtcnlolocppbcjaaDoor
set_option linter.unusedVariables false
set_option linter.unusedSimpArgs false
open Go.Shelf Go.RowKit Go.Joins
theorem OwnB.putY {lo hi : Nat} {w : World} {A : Option Addr} {n g o : Nat} {Z : Nat → Int} (v : Value) (h : OwnB lo hi w A n Z) (hr : n = 0 ∨ A ≠ some ⟨g, 0, none⟩) : OwnB lo hi (w.setCell ⟨g, o, none⟩ v) A n Z :=
  h.apart (grow_set _ g _ _) (fun g' e => by cases e; exact hr)
theorem Wrt.of_below {lo hi : Nat} {w w' : World} (h : Below w.heap.size w w') : Wrt lo hi w w' :=
  ⟨h.os, h.tape, h.output, h.size, fun k hk _ => h.block k hk⟩
theorem symV_mix {k0 j n : Nat} {LA : Nat → Option Addr} {LC : Nat → Nat} {L : Sy} {f : Nat → Value} (hf : ∀ i, i < n * 3 → f i = symV LA LC (mixY k0 L j) i) :
    ∀ i, i < n * 3 → (fun i => if i = j * 3 + 2 then .int .i64 ((my0 k0 L j : Int) + 1 + L.N j) else (fun i => if i = j * 3 then .string (mtB (my0 k0 L j)) else f i) i) i = symV LA LC (mixY k0 L (j + 1)) i := by
  intro i hi
  by_cases h2 : i = j * 3 + 2
  · subst h2
    simp only [if_pos rfl]
    rw [symV_2]
    simp only [mixY, if_pos (Nat.lt_succ_self j)]
    rfl
  · simp only [if_neg h2]
    by_cases h0 : i = j * 3
    · subst h0
      simp only [if_pos rfl]
      rw [symV_0]
      simp only [mixY, if_pos (Nat.lt_succ_self j)]
      rfl
    · simp only [if_neg h0]
      rw [hf i hi]
      by_cases e1 : i / 3 = j
      · have : i = j * 3 + 1 := by omega
        subst this
        rw [symV_1, symV_1]
        rfl
      · unfold symV
        by_cases e : i / 3 < j
        · simp only [mixY, if_pos e, if_pos (Nat.lt_succ_of_lt e)]
        · simp only [mixY, if_neg e, if_neg (show ¬ i / 3 < j + 1 by omega)]
set_option maxRecDepth 100000 in
set_option maxHeartbeats 8000000 in
theorem marksyms_any (lo hi : Nat) (A : Option Addr) (n c : Nat) (L : Sy) (k0 : Nat) (w : World) (hn : n ≤ 1048576) (hN : SmY n L) (hk0 : 0 < k0) (hk : k0 ≤ 1000000000000) (h : YsB lo hi w A n L) :
    Calls Tryd.prog 17 #[.slice A n c, .int .i64 k0] w fun e w' => e = .returned (.int .i64 (my0 k0 L n)) ∧ YsB lo hi w' A n (mixY k0 L n) ∧ Wrt lo hi w w' := by
  rcases h with rfl | ⟨g, LA, LC, m, f, rfl, g1, g2, hm, hr, hf, hc, hE, hD⟩
  · go_enter Tryd.func17, Tryd.ntmps17
    go_wp2
    refine wp_loop_rounds 1 ?_
    rw [rounds_succ]
    go_wp2
    go_ret
    exact ⟨rfl, .inl rfl, Wrt.refl _ _ _⟩
  have HC := hid hc; clear hc
  have HE := hid hE; clear hE
  have HD := hid hD; clear hD
  have HNN := hid hN
  have HB := hid (my0_bd k0 L n hN); clear hN
  go_enter Tryd.func17, Tryd.ntmps17
  go_wp2
  go_loopw [1, 5] (fun q i wr => ∃ (j : Nat) (fr : Nat → Value), j ≤ n ∧ i = .int .i64 j ∧ q = .int .i64 (my0 k0 L j) ∧ Wrt lo hi w wr ∧ wr.rowIs g 34 m fr ∧ (∀ i, i < n * 3 → fr i = symV LA LC (mixY k0 L j) i) ∧ ∀ i, i < n → OwnB lo hi wr (LA i) (L.N i) ((mixY k0 L j).Z i)) (fun _ i _ => n - (intOf i).toNat)
  case atStart => exact ⟨0, f, Nat.zero_le _, rfl, rfl, Wrt.refl _ _ _, hr, by rw [mixY_zero]; exact hf, fun i hi => by rw [mixY_zero]; exact (HC.out i hi).2.2⟩
  case round =>
    obtain ⟨j, fr, hj, rfl, rfl, hg, hr', hf', ho⟩ := hrel
    have HO := hid ho; clear ho
    have HF := hid hf'; clear hf' hr hf
    by_cases hlt : j < n
    · obtain ⟨b1, b2⟩ := HB.out j hj
      have hjb : j * 1048578 ≤ n * 1048578 := Nat.mul_le_mul_right _ hj
      have hNj := (HNN.out j hlt).1
      have hT := fun W => marktext_any (my0 k0 L j) W (by omega) (by omega)
      have hM := fun W (h : OwnB lo hi W (LA j) (L.N j) ((mixY k0 L j).Z j)) => markrow_any lo hi (LA j) (L.N j) (LC j) ((mixY k0 L j).Z j) ((my0 k0 L j : Int) + 1) W hNj (by omega) h
      have gg := hr'.lt
      have ff0 : wr.frozen? ⟨g, j * 3, none⟩ = false := hr'.frozen _
      have a00 := hr'.cell (i := j * 3) (by omega)
      have a0 : wr.cell? ⟨g, j * 3 + 1, none⟩ = some (.slice (LA j) (L.N j) (LC j)) := (hr'.cell (by omega)).trans (by rw [HF.out _ (by omega), symV_1]; rfl)
      have HS := hid (show my0 k0 L (j + 1) = my0 k0 L j + L.N j + 2 from rfl)
      have hsv := hid (symV_mix (k0 := k0) (j := j) HF.out)
      have hz0 : mixY k0 L j = mixY k0 L j := rfl
      have HZ := hid (show (mixY k0 L (j + 1)).Z j = fun x : Nat => (my0 k0 L j : Int) + 1 + x by funext x; simp only [mixY, if_pos (Nat.lt_succ_self j)])
      generalize my0 k0 L j = q at hT hM b1 b2 HS hsv HZ ⊢
      generalize mtB q = mt at hT hsv
      go_wp2_with fail
      refine (hT _).mono ?_
      rintro e w1 ⟨rfl, hb⟩
      have hb1 := hid hb
      have r1 := row_below hr' hb
      have c1 := r1.cell (i := j * 3) (by omega)
      have fz : w1.frozen? ⟨g, j * 3, none⟩ = false := r1.frozen _
      have c11 := (r1.cell (i := j * 3 + 1) (by omega)).trans (by rw [HF.out _ (by omega), symV_1])
      have hNe : (mixY k0 L j).N j = L.N j := rfl
      rw [hNe] at c11
      have gg1 := r1.lt
      have HO1 := hid (((HO.out j hlt).below hb).putY (g := g) (o := j * 3) (.string mt) (HE.out j hlt))
      have R1 := hid r1
      clear hb r1 a0 a00 ff0
      go_wp2_with fail
      refine (hM _ HO1.out).mono ?_
      rintro e w2 ⟨rfl, hO, row, hgr, hrow⟩
      have hrowne : row ≠ some g := fun e => by
        obtain ⟨_, h0, ha⟩ := hrow g e
        rcases HE.out j hlt with h | h
        · exact h0 h
        · exact h ha
      have r2 := (R1.out.set (j * 3) (.string mt)).of_block (hgr.block g (by simpa [World.setCell] using gg1) (fun e => hrowne e.symm))
      have c22 := r2.cell (i := j * 3 + 2) (by omega)
      have fz2 : w2.frozen? ⟨g, j * 3 + 2, none⟩ = false := r2.frozen _
      have gg2 := r2.lt
      clear hM c1 fz c11
      go_wp2_with fail
      go_roundw
      case rel =>
        refine ⟨j + 1, _, by omega, by go_num, ?_, ((((hg.trans (Wrt.of_below hb1.out)).trans (Wrt.of_grown (grow_set _ g _ _) (fun g' e => by cases e; exact ⟨g1, g2⟩))).trans (Wrt.of_grown hgr (fun g e => (hrow g e).1)))).trans (Wrt.of_grown (grow_set _ g _ _) (fun g' e => by cases e; exact ⟨g1, g2⟩)), r2.set (j * 3 + 2) _, hsv.out, fun i hi => ?_⟩
        · rw [HS.out]; go_num
        · refine OwnB.putY _ ?_ (HE.out i hi)
          by_cases e : i = j
          · subst e; rw [HZ.out]; exact hO
          · have hz : (mixY k0 L (j + 1)).Z i = (mixY k0 L j).Z i := by
              funext x; simp only [mixY]
              by_cases e2 : i < j
              · rw [if_pos e2, if_pos (by omega)]
              · rw [if_neg e2, if_neg (by omega)]
            rw [hz]
            refine ((((HO.out i hi).below hb1.out).putY (g := g) (o := j * 3) (.string mt) (HE.out i hi))).apart hgr (fun g' eg => ?_)
            obtain ⟨_, h0, ha⟩ := hrow g' eg
            rw [← ha]
            by_cases e2 : i < j
            · rcases HD.out i j e2 hlt with h | h | h
              · exact .inl h
              · exact absurd h h0
              · exact .inr h
            · rcases HD.out j i (by omega) hi with h | h | h
              · exact absurd h h0
              · exact .inl h
              · exact .inr (Ne.symm h)
      case measure => simp [intOf]; omega
    · have hje : j = n := by omega
      subst hje
      go_wp2
      go_ret
      exact ⟨rfl, .inr ⟨g, LA, LC, m, fr, rfl, g1, g2, hm, hr', HF.out, fun i hi => ⟨(HC.out i hi).1, (HC.out i hi).2.1, HO.out i hi⟩, HE.out, HD.out⟩, hg⟩
end Go.Proofs.YtcnlolocppbcjaaDoor

namespace Go.Proofs.YtcnlolocppbcjaaDoor
set_option linter.unusedVariables false
set_option linter.unusedSimpArgs false
open Go.Shelf Go.RowKit Go.Joins
set_option maxRecDepth 100000 in
set_option maxHeartbeats 8000000 in
theorem heldsyms_any (A : Option Addr) (n c : Nat) (L : Sy) (k0 : Nat) (w : World) (hn : n ≤ 1048576) (hN : SmY n L) (hk0 : 0 < k0) (hk : k0 ≤ 1000000000000) (hA : Syms w A n (mixY k0 L n)) :
    Calls Tryd.prog 18 #[.slice A n c, .int .i64 k0] w fun e w' => e = .returned (.int .i64 (my0 k0 L n)) ∧ Below w.heap.size w w' := by
  have HNN := hid hN
  have HB := hid (my0_bd k0 L n hN); clear hN
  go_enter Tryd.func18, Tryd.ntmps18
  go_wp2
  go_loopw [1, 5] (fun q i wr => ∃ j : Nat, j ≤ n ∧ i = .int .i64 j ∧ q = .int .i64 (my0 k0 L j) ∧ Below w.heap.size w wr) (fun _ i _ => n - (intOf i).toNat)
  case atStart => exact ⟨0, Nat.zero_le _, rfl, rfl, Below.refl _ _⟩
  case round =>
    obtain ⟨j, hj, rfl, rfl, hb⟩ := hrel
    by_cases hlt : j < n
    · obtain ⟨b1, b2⟩ := HB.out j hj
      have hjb : j * 1048578 ≤ n * 1048578 := Nat.mul_le_mul_right _ hj
      have hNj := (HNN.out j hlt).1
      rcases hA with h0 | ⟨g, off, rfl, hg, hc⟩
      · omega
      obtain ⟨a, cc, a0, a1, a2, _, _, hI⟩ := hc j hlt
      have eN : (mixY k0 L n).Nm j = mtB (my0 k0 L j) := by simp only [mixY, if_pos hlt]
      have eS : (mixY k0 L n).S j = (my0 k0 L j : Int) + 1 + L.N j := by simp only [mixY, if_pos hlt]
      have eZ : (mixY k0 L n).Z j = fun x : Nat => (my0 k0 L j : Int) + 1 + x := by funext x; simp only [mixY, if_pos hlt]
      have e1 : (mixY k0 L n).N j = L.N j := rfl
      rw [eN] at a0
      rw [eS] at a2
      rw [eZ, e1] at hI
      rw [e1] at a1
      clear hc eN eS eZ e1
      have gg : g < wr.heap.size := Nat.lt_of_lt_of_le hg hb.size
      replace a0 := carry hb a0
      replace a1 := carry hb a1
      replace a2 := carry hb a2
      replace hI := hI.below hb
      have hT := fun X : Gro wr => marktext_any (my0 k0 L j) (gro wr X) (by omega) (by omega)
      have HS := hid (show my0 k0 L (j + 1) = my0 k0 L j + L.N j + 2 from rfl)
      generalize my0 k0 L j = q at hT b1 b2 HS hI a0 a2 ⊢
      have hH := fun W (h : Below wr.heap.size wr W) => heldints_any a (L.N j) cc ((q : Int) + 1) W hNj (by omega) (hI.below h)
      generalize mtB q = mt at hT a0
      have d1 : (mt.toList == mt.toList) = true := by simp
      have d2 : decide ((q : Int) + 1 + L.N j < 0) = false := by simp; omega
      have d3 : ((q : Int) + 1 + L.N j != (q : Int) + 1 + L.N j) = false := by simp
      have A1 := hid a1; have A2 := hid a2
      clear a1 a2 hI
      have gc := @gro_cell wr
      go_upto_region 4 with fail
      refine wp_region_grow_lit (by kernel_rfl) (by kernel_rfl) ?_
      repeat (go_big_quiet_step ((go_at_call 30; exact grow_call _ (hT _))))
      refine wpQuiet_nil ?_
      rintro w1 ⟨⟨_, hX⟩, rfl⟩
      clear gc hT a0
      have a1 := carry hX A1.out
      have gg1 : g < w1.heap.size := Nat.lt_of_lt_of_le gg hX.size
      have HX := hid hX
      go_wp2_with fail
      refine (hH _ HX.out).mono ?_
      rintro e w2 ⟨rfl, rfl⟩
      have a2 := carry HX.out A2.out
      clear a1
      go_wp2_with fail
      go_roundw
      case rel => exact ⟨j + 1, by omega, by go_num, by rw [HS.out]; go_num, btr hb HX.out⟩
      case measure => simp [intOf]; omega
    · have hje : j = n := by omega
      subst hje
      go_wp2
      go_ret
      exact ⟨rfl, hb⟩
set_option maxHeartbeats 1000000 in
theorem marksig_any (lo hi : Nat) (A : Option Addr) (n c : Nat) (L : Sy) (k0 : Nat) (w : World) (hn : n ≤ 1048576) (hN : SmY n L) (hk0 : 0 < k0) (hk : k0 ≤ 1000000000000) (h : YsB lo hi w A n L) :
    Calls Tryd.prog 7 #[.agg #[.slice A n c], .int .i64 k0] w fun e w' => e = .returned (.int .i64 (my0 k0 L n)) ∧ YsB lo hi w' A n (mixY k0 L n) ∧ Wrt lo hi w w' := by
  have hM := marksyms_any lo hi A n c L k0 (w.alloc (.cells #[.slice A n c] 24)) hn hN hk0 hk (h.below (bal (Below.refl _ _) _))
  clear h
  generalize my0 k0 L n = q at hM ⊢
  go_enter Tryd.func7, Tryd.ntmps7
  go_wp2_with fail
  refine hM.mono ?_
  rintro e w1 ⟨rfl, ho, hr⟩
  go_wp2_with fail
  go_ret
  exact ⟨rfl, ho, (Wrt.of_below (bal (Below.refl _ _) _)).trans hr⟩
set_option maxHeartbeats 1000000 in
theorem heldsig_any (A : Option Addr) (n c : Nat) (L : Sy) (k0 : Nat) (w : World) (hn : n ≤ 1048576) (hN : SmY n L) (hk0 : 0 < k0) (hk : k0 ≤ 1000000000000) (hA : Syms w A n (mixY k0 L n)) :
    Calls Tryd.prog 8 #[.agg #[.slice A n c], .int .i64 k0] w fun e w' => e = .returned (.int .i64 (my0 k0 L n)) ∧ Below w.heap.size w w' := by
  have hH := fun W (hb : Below w.heap.size w W) => heldsyms_any A n c L k0 W hn hN hk0 hk (hA.below hb)
  clear hA
  generalize my0 k0 L n = q at hH ⊢
  have hp : decide ((q : Int) < 0) = false := by simp
  go_enter Tryd.func8, Tryd.ntmps8
  go_wp2_with fail
  refine (hH _ (bal (Below.refl _ _) _)).mono ?_
  rintro e w1 ⟨rfl, hq⟩
  go_wp2_with fail
  go_ret
  exact ⟨rfl, btr (bal (Below.refl _ _) _) hq⟩
end Go.Proofs.YtcnlolocppbcjaaDoor

namespace Go.Proofs.YtcnlolocppbcjaaDoor
set_option linter.unusedVariables false
set_option linter.unusedSimpArgs false
open Go.Shelf Go.RowKit Go.Joins
theorem Ints.congrS {w : World} {A : Option Addr} {n : Nat} {Z Y : Nat → Int} (e : ∀ k, k < n → Z k = Y k) (h : Ints w A n Z) : Ints w A n Y := by
  rcases h with h | ⟨g, off, ha, hg, hc⟩
  · exact .inl h
  · exact .inr ⟨g, off, ha, hg, fun k hk => by rw [← e k hk]; exact hc k hk⟩
theorem Syms.congrS {w : World} {A : Option Addr} {n : Nat} {L M : Sy} (e : SyEq n L M) (h : Syms w A n L) : Syms w A n M := by
  rcases h with h | ⟨g, off, ha, hg, hc⟩
  · exact .inl h
  · refine .inr ⟨g, off, ha, hg, fun k hk => ?_⟩
    obtain ⟨a, c, h0, h1, h2, h3, h4, h5⟩ := hc k hk
    obtain ⟨e0, e1, e2, e3⟩ := e k hk
    refine ⟨a, c, by rw [← e0]; exact h0, by rw [← e1]; exact h1, by rw [← e3]; exact h2, by rw [← e0]; exact h3, by rw [← e1]; exact h4, ?_⟩
    rw [← e1]
    exact h5.congrS e2
theorem box1_new (w : World) (x : Value) (t : TypeId) : KcL [(w.heap.size, 0, x)] (w.alloc (.cells #[x] t)) := ⟨by simp [go_sem], trivial⟩
set_option maxRecDepth 100000 in
set_option maxHeartbeats 8000000 in
theorem walk_ExactSigRead (s : ByteArray) (w : World) (hs : s.size ≤ 9223372036854775807) (hm : MaxAt w) (h1 : ErrAt w 1) (h2 : ErrAt w 2) :
    Calls Tryd.prog 3 #[.string s] w fun e w' => e = .returned (.bool true) ∧ Below w.heap.size w w' := by
  by_cases hbig : 1048576 < s.size
  · go_enter Tryd.func3, Tryd.ntmps3
    go_wp2
    go_ret
    exact ⟨rfl, Below.refl _ _⟩
  have hR := hid (fun W (hb : Below w.heap.size w W) => sigread_any s W (by omega) (hm.below hb) (h1.below hb) (h2.below hb))
  clear hm h1 h2
  go_enter Tryd.func3, Tryd.ntmps3
  go_wp2_with fail
  refine (ssigread_any s w (by omega)).mono ?_
  rintro e w1 ⟨A3, k, c3, M, ok, rfl, hk8, hSmM, hS0, q0, hVM⟩
  have HV := hid hVM; have HM := hid hSmM
  have z1 := q0.size
  have H := box1_new w1 (.slice A3 k c3) 24
  have al := bal (Below.refl w1.heap.size w1) (.cells #[.slice A3 k c3] 24)
  have HS0 := hid hS0
  have q1 := al
  have hk : k ≤ 8 := hk8
  replace q0 := btr q0 al
  clear al hVM hSmM hS0 hk8
  have HH_ := H; obtain ⟨c0, _⟩ := HH_
  simp only at c0
  have l0 := cell_lt c0
  go_wp2_with fail
  refine (hR.out _ q0).mono ?_
  rintro e w2 ⟨v, k', LA, LC, L, ok', rfl, hk7, hSm, hY, hq, hV⟩
  obtain ⟨e1, e2, hE⟩ := sgV_same HV.out hV
  subst e1 e2
  obtain ⟨A5, c5, rfl, _, _, hY5⟩ := hY.ysb (Nat.le_refl _)
  have HL := hid hSm
  have HE := hid hE
  have HS := hid (HS0.out.congrS hE)
  clear hY hV hSm hE LA LC HM
  rw [World.size_alloc] at hY5
  have z5 := hq.size
  rw [World.size_alloc] at z5
  clear c0 l0
  replace H := H.below hq
  replace q0 := btr q0 hq
  replace q1 := btr q1 hq
  have q5 := Below.refl w2.heap.size w2
  clear hq
  have N := box1_new w2 (.slice A5 k c5) 24
  have al := bal (Below.refl w2.heap.size w2) (.cells #[.slice A5 k c5] 24)
  replace H := (H.below al).app N
  replace q0 := btr q0 al
  replace q1 := btr q1 al
  replace hY5 := hY5.below al
  clear N al q5
  have HH_ := H; obtain ⟨c0, c1, _⟩ := HH_
  simp only at c0 c1
  have l0 := cell_lt c0
  have l1 := cell_lt c1
  have dbb : (ok != ok) = false := by simp
  go_wp2_with fail
  refine (eqsig_same (by omega) (hY5.syms HL.out) (HS.out.below q1)).mono ?_
  rintro e w6 ⟨rfl, hq⟩
  clear c0 c1 l0 l1
  replace H := H.below hq
  replace q0 := btr q0 hq
  replace q1 := btr q1 hq
  replace hY5 := hY5.below hq
  clear hq
  have HH_ := H; obtain ⟨c0, c1, _⟩ := HH_
  simp only at c0 c1
  have l0 := cell_lt c0
  have l1 := cell_lt c1
  go_wp2_with fail
  refine (marksig_any _ _ A5 k c5 L 1 _ (by omega) HL.out (by omega) (by omega) hY5).mono ?_
  rintro e w12 ⟨rfl, hY6, hWr⟩
  clear c0 c1 l0 l1 hY5
  replace H := hWr.kc (fun e he => by simp at he; rcases he with rfl | rfl <;> simp <;> omega) H
  replace q0 := hWr.below q0 (by omega)
  replace q1 := hWr.below q1 (by omega)
  have HL2 := hid (mixY_sm (k0 := 1) HL.out (by omega))
  have hb1 := hid (my0_bd 1 L k HL.out k (Nat.le_refl _))
  generalize hmm : my0 1 L k = mm at *
  have HMM := hid hmm; clear hmm hWr
  have n3 : ((mm : Int) != (mm : Int)) = false := by simp
  have n2 : decide ((mm : Int) < 0) = false := by simp
  have hH := hid (fun W (h : Syms W A5 k (mixY 1 L k)) => heldsig_any A5 k c5 L 1 W (by omega) HL.out (by omega) (by omega) h)
  rw [HMM.out] at hH
  have HH_ := H; obtain ⟨c0, c1, _⟩ := HH_
  simp only at c0 c1
  have l0 := cell_lt c0
  have l1 := cell_lt c1
  go_wp2_with fail
  refine (hH.out _ (hY6.syms HL2.out)).mono ?_
  rintro e w13 ⟨rfl, hq⟩
  clear c0 c1 l0 l1
  replace H := H.below hq
  replace q0 := btr q0 hq
  replace q1 := btr q1 hq
  replace hY6 := hY6.below hq
  clear hq
  have HH_ := H; obtain ⟨c0, c1, _⟩ := HH_
  simp only at c0 c1
  have l0 := cell_lt c0
  have l1 := cell_lt c1
  go_wp2_with fail
  refine (hR.out _ q0).mono ?_
  rintro e w14 ⟨v, k', LA, LC, L9, ok', rfl, _, hSm9, hY, hq, hV⟩
  obtain ⟨e1, e2, hE⟩ := sgV_same HV.out hV
  subst e1 e2
  obtain ⟨A9, c9, rfl, _, _, hSy9⟩ := hY.syms hSm9
  have HS9 := hid (HS0.out.congrS hE)
  clear hY hV hE hSm9 LA LC
  clear c0 c1 l0 l1
  replace H := H.below hq
  replace q0 := btr q0 hq
  replace q1 := btr q1 hq
  replace hY6 := hY6.below hq
  clear hq
  have N := box1_new w14 (.slice A9 k c9) 24
  have al := bal (Below.refl w14.heap.size w14) (.cells #[.slice A9 k c9] 24)
  replace H := (H.below al).app N
  replace q0 := btr q0 al
  replace q1 := btr q1 al
  replace hY6 := hY6.below al
  replace hSy9 := hSy9.below al
  clear N al
  have HH_ := H; obtain ⟨c0, c1, c2, _⟩ := HH_
  simp only at c0 c1 c2
  have l0 := cell_lt c0
  have l1 := cell_lt c1
  have l2 := cell_lt c2
  go_wp2_with fail
  refine (eqsig_same (by omega) hSy9 (HS9.out.below q1)).mono ?_
  rintro e w16 ⟨rfl, hq⟩
  clear c0 c1 c2 l0 l1 l2
  replace H := H.below hq
  replace q0 := btr q0 hq
  replace hY6 := hY6.below hq
  clear hq
  have HH_ := H; obtain ⟨c0, c1, c2, _⟩ := HH_
  simp only at c0 c1 c2
  have l0 := cell_lt c0
  have l1 := cell_lt c1
  have l2 := cell_lt c2
  go_wp2_with fail
  refine (hH.out _ (hY6.syms HL2.out)).mono ?_
  rintro e w17 ⟨rfl, hq⟩
  replace q0 := btr q0 hq
  clear hq
  go_wp2_with fail
  go_ret
  exact ⟨rfl, q0⟩
end Go.Proofs.YtcnlolocppbcjaaDoor
