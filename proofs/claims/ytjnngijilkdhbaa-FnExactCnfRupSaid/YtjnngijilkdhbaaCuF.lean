/- assign: a literal is put, and the clauses that watch its negation are looked at. -/
import Derived.Test.YtjnngijilkdhbaaCuE
namespace Go.Proofs.Ytjnngijilkdhbaa
set_option linter.unusedVariables false
set_option linter.unusedSimpArgs false
open Go.RowKit
theorem nodup_le : ∀ (n : Nat) (l : List Nat), l.Nodup → (∀ i ∈ l, i < n) → l.length ≤ n
  | 0, l, _, h => by
    cases l with
    | nil => exact Nat.le_refl _
    | cons a l => exact absurd (h a (by simp)) (by omega)
  | n + 1, l, hd, h => by
    by_cases hm : n ∈ l
    · have h1 := List.length_erase_of_mem hm
      have h2 := nodup_le n (l.erase n) (hd.erase n) (fun i hi => by
        have h3 := (List.Nodup.mem_erase_iff hd).1 hi
        have := h i h3.2
        omega)
      omega
    · have := nodup_le n l hd (fun i hi => by
        have := h i hi
        by_cases e : i = n
        · subst e; exact absurd hi hm
        · omega)
      omega
/-- the set of literals is that of the trail -/
def SetS (S : Nat → Int) (T : List Int) : Prop := ∀ v, v < 61 → S v = setU T v
theorem SetS.at {S : Nat → Int} {T : List Int} (h : SetS S T) {x : Int} (hx : ofC x 60 = true) : (S (vrC x).toNat = x ↔ atU T x = 1) ∧ (S (vrC x).toNat = -x ↔ atU T x = -1) ∧ (S (vrC x).toNat = 0 ↔ atU T x = 0) := by
  obtain ⟨v, e1, e2, e3, _⟩ := lit_rng hx
  rw [e2, h v (by omega)]
  exact setU_at e1 (ofC_iff.1 hx).1
theorem SetS.push {S : Nat → Int} {T : List Int} (h : SetS S T) {x : Int} {v : Nat} (hv : vrC x = (v : Int)) (hx : x ≠ 0) (h0 : atU T x = 0) : SetS (fun u => if u = v then x else S u) (T ++ [x]) := fun u hu => by
  rw [setU_push hv hx h0]
  simp only
  split
  · rfl
  · exact h u hu
theorem vals_app (T : List Int) (x : Int) : valsI T ++ [.int .i64 x] = valsI (T ++ [x]) := by unfold valsI; rw [List.map_append]; rfl
/-- the state while the clauses that watch the negation of x are looked at -/
def AsS (lo b : Nat) (k : Pq) (L : Lls) (T : List Int) (x : Int) (l : List Nat) (wv : Value) (q : Nat) (W : World) : Prop :=
  ∃ s : Ps, PrM lo b k s W ∧ s.T = T ++ [x] ∧ SetS s.S (T ++ [x]) ∧ Mid k.n L s.C s.Wl s.due T x l q ∧ s.WV (plc (-x)) = wv
theorem own_atU {w : World} {base n j ln lc : Nat} {e : TypeId} {la : Option Addr} {xs : List Value} (h : w.ownsRow base e 1 (.slice la ln lc) n xs) (hj : j < n) : ∃ g, la = some ⟨g, 0, none⟩ ∧ w.cell? ⟨g, j, none⟩ = xs[j]? ∧ g < w.heap.size := by
  have h0 := h
  rcases h.2 with ⟨_, e⟩ | ⟨g, cap, cur, e, hg, hh, _⟩
  · omega
  · rw [e] at h0
    injection e with e1 e2 e3
    exact ⟨g, e1, h0.cellAt j (by omega), (Array.getElem?_eq_some_iff.1 hh).1⟩
set_option maxHeartbeats 8000000 in
set_option maxRecDepth 100000 in
theorem assign_any (lo b : Nat) (k : Pq) (s : Ps) (L : Lls) (x : Int) (w : World) (hP : PrM lo b k s w) (hkL : k.N = L.N) (hn : k.n ≤ 400) (hL : LitL k.n L) (hN : ∀ i, i < k.n → L.N i ≤ 61) (hI : InvB k.n L s.C s.Wl s.T) (hD : InvD k.n L s.C s.due s.T x)
    (hS : SetS s.S s.T) (hx : ofC x 60 = true) (h0 : atU s.T x = 0) (hlen : s.T.length ≤ 61) (hlo : lo ≤ w.heap.size) :
    Calls Try.prog 43 #[.pointer (some ⟨b, 0, none⟩), .int .i64 x] w fun e w' => e = .returned (.tuple #[]) ∧ (∃ s', PrM lo b k s' w' ∧ s'.T = s.T ++ [x] ∧ SetS s'.S s'.T ∧ InvB k.n L s'.C s'.Wl s'.T ∧ InvD k.n L s'.C s'.due s'.T 0) ∧ Below lo w w' := by
  obtain ⟨v, e1, e2, e3, e4, e5, e6, e7, e8⟩ := lit_rng hx
  have hx0 : x ≠ 0 := (ofC_iff.1 hx).1
  have hxn : ofC (-x) 60 = true := by have := ofC_iff.1 hx; exact ofC_iff.2 ⟨by omega, by omega, by omega⟩
  have hM := hid (mid_start hL hI hD hx h0)
  have hSS := hid (hS.push e1 hx0 h0)
  have hpn := (plc_lt hxn).1
  have hl4 : (s.Wl (plc (-x))).length ≤ 400 := Nat.le_trans (nodup_le k.n _ hM.out.nd fun i hi => (hI.wok _ hxn i hi).1) hn
  have hAdd := addU_any b 123 v x (s.S v) w (hP.cs (by omega)) (hP.box.frozen _) ⟨e4, e5⟩ e1 e3
  have HP := hid hP
  have HL := hid hL; have HNN := hid hN; have HN := hid hkL
  clear hI hD hS hL hN hkL
  obtain ⟨i0, hi, hz0, hz1, hz2⟩ := info_parts infoI
  have HI := hid hi; clear hi
  obtain ⟨ta, tc, hta⟩ := own_sliceU hP.tr
  obtain ⟨la, lc, hla⟩ := own_sliceU (hP.wl _ hpn)
  have HTA := hid hta; have HLA := hid hla
  clear hta hla hP
  have hbl : lo ≤ b := HP.out.lob
  go_enter Try.func43, Try.ntmps43
  go_wp2_with fail
  refine hAdd.mono ?_
  rintro e w1 ⟨rfl, w0, hq0, hw1⟩
  have HP1 := hid ((HP.out.below hq0).setS (v := v) (by omega) x)
  rw [← hw1] at HP1
  have q1 : Below lo w w1 := by rw [hw1]; exact (hq0.mono hlo).setCell hbl _
  have hlo1 : lo ≤ w1.heap.size := Nat.le_trans hlo q1.size
  clear hAdd hw1 hq0
  have t1 : w1.cell? ⟨b, 184, none⟩ = some (.slice ta s.T.length tc) := by have h2 := HP1.out.c184; rw [← HTA.out]; exact h2
  have hb1 := cell_lt t1
  have CX := bal (Below.refl w1.heap.size w1) (.cells #[.int .i64 x] 3)
  have HP2 := hid (HP1.out.below CX)
  have hlo2 : lo ≤ (w1.alloc (.cells #[.int .i64 x] 3)).heap.size := Nat.le_trans hlo1 CX.size
  have q2 : Below lo w (w1.alloc (.cells #[.int .i64 x] 3)) := q1.trans (CX.mono hlo1)
  have hO := hid (show (w1.alloc (.cells #[.int .i64 x] 3)).ownsRow lo 3 1 (.slice ta s.T.length tc) s.T.length (valsI s.T) from by have h2 := HP2.out.tr; rw [← HTA.out]; exact h2)
  have hnews := news_one w1 (.int .i64 x) 3
  go_wp2_with ((at_builtin; refine wpList_appendU rfl _ _ 38 rfl lo 3 i0 (.int .i64 0) 1 8 Try.underlying38 HI.out hz0 hz1 hz2 rfl (by decide) (.slice ta s.T.length tc) s.T.length (valsI s.T) rfl hO.out ⟨w1.heap.size, 0, none⟩ 1 1 [.int .i64 x] rfl rfl hnews (fun u hu => by simp at hu; subst hu; rfl) (by unfold maxLen; omega) (by omega) hlo2 ?_; intro v' w5 hown hgrow hfresh; obtain ⟨av', cv', rfl⟩ := own_sliceU hown; obtain ⟨k1, _⟩ := HP2.out.keepW hO.out hgrow; have d0 := k1.cell (i := 184) (by decide); have g0 := k1.frozen 184; clear k1))
  have HP6 := hid (HP2.out.push (v' := .slice av' (s.T.length + 1) cv') (w' := w5) (x := x) (by show World.grownBy _ _ (Value.ownBlock s.TV); rw [HTA.out]; exact hgrow) hown (by show ∀ g, _ → Value.ownBlock s.TV = some g ∨ _; rw [HTA.out]; exact hfresh))
  have q6 : Below lo w (w5.setCell ⟨b, 184, none⟩ (.slice av' (s.T.length + 1) cv')) := (q2.grown hgrow hlo2 (fun r hr => (hO.out.lt r hr).1)).setCell hbl _
  clear hown hgrow hfresh hnews CX d0 g0 t1 hO
  obtain ⟨w6, hw6⟩ : ∃ w6, w6 = w5.setCell ⟨b, 184, none⟩ (.slice av' (s.T.length + 1) cv') := ⟨_, rfl⟩
  rw [← hw6] at HP6 q6 ⊢
  have hlo6 : lo ≤ w6.heap.size := Nat.le_trans hlo q6.size
  clear hw6
  have H6 : Hid (AsS lo b k L s.T x (s.Wl (plc (-x))) (s.WV (plc (-x))) 0 w6) := hid ⟨_, HP6.out, rfl, hSS.out, hM.out, rfl⟩
  have hNt := fun X : Gro w6 => (not_any x (gro w6 X) ⟨e4, e5⟩).mono fun e w' h => (⟨h.1, h.2 ▸ Below.refl _ _⟩ : e = .returned (.int .i64 (-x)) ∧ Below (gro w6 X).heap.size (gro w6 X) w')
  have hPl := fun X : Gro w6 => (place_any (-x) (gro w6 X) hxn).mono fun e w' h => (⟨h.1, h.2 ▸ Below.refl _ _⟩ : e = .returned (.int .i64 (plc (-x) : Int)) ∧ Below (gro w6 X).heap.size (gro w6 X) w')
  have hcw := HP6.out.cw hpn
  replace hcw : w6.cell? ⟨b, 1 + plc (-x), none⟩ = some (.slice la (s.Wl (plc (-x))).length lc) := by rw [← HLA.out]; exact hcw
  rw [HLA.out] at H6
  have HPL := hid (show plc (-x) = plc (-x) from rfl)
  obtain ⟨p, hp⟩ : ∃ p, p = plc (-x) := ⟨_, rfl⟩
  have HPE := hid hp
  rw [← hp] at hcw hPl H6 hpn hl4
  have hsb := cell_lt hcw
  have hpI : (p : Int) < 121 := by omega
  generalize hll : s.Wl p = l at *
  have hlI : (l.length : Int) ≤ 400 := by omega
  clear hp hll HPL hSS hM HP6 HP2 HP1 HP HTA HLA
  have gc := @gro_cell w6
  refine wp_region_grow_lit (by kernel_rfl) (by kernel_rfl) ?_
  repeat (go_big_quiet_step (first | (go_at_call 57; exact grow_call _ (hNt _)) | (go_at_call 58; exact grow_call _ (hPl _))))
  refine wpQuiet_nil ?_
  rintro _ ⟨X, rfl⟩
  clear gc hNt hPl
  have XH : Below w6.heap.size w6 (gro w6 X) := X.h
  obtain ⟨s6, hs6⟩ := H6.out
  have H7 : Hid (AsS lo b k L s.T x l (.slice la l.length lc) 0 (gro w6 X)) := hid ⟨s6, hs6.1.below XH, hs6.2⟩
  have q7 : Below lo w (gro w6 X) := q6.trans (XH.mono hlo6)
  clear hs6 H6 hcw XH q6 hlo6 q2 q1
  generalize gro w6 X = w7 at *
  go_wp2
  go_loopw [30] (fun v wr => ∃ q : Nat, q ≤ l.length ∧ v = .int .i64 (q : Int) ∧ AsS lo b k L s.T x l (.slice la l.length lc) q wr ∧ Below lo w wr) (fun v _ => l.length - (intOf v).toNat)
  case atStart => exact ⟨0, Nat.zero_le _, rfl, H7.out, q7⟩
  case round =>
    clear H7 q7
    obtain ⟨q, hq, rfl, ⟨s1, hP1, hT1, hS1, hMd, hWV⟩, hb⟩ := hrel
    by_cases hlt : q < l.length
    · obtain ⟨i, hqi⟩ : ∃ i, l[q]? = some i := ⟨l[q], List.getElem?_eq_getElem hlt⟩
      obtain ⟨hi, hN2, _⟩ := mid_at HL.out hMd hqi hx
      have hlw : lo ≤ wr.heap.size := Nat.le_trans hlo hb.size
      have hOl := hP1.wl p hpn
      rw [HPE.out, hWV, hMd.hl] at hOl
      obtain ⟨gl, rfl, cl, hgl⟩ := own_atU hOl hlt
      rw [valsN_at hqi] at cl
      have hqI : (q : Int) < (l.length : Int) := by omega
      have hmem : ∀ j, j < k.N i → ofC (s1.C i j) 60 = true := fun j hj => mem_lit HL.out hMd.base hi (by rw [← HN.out]; exact hj)
      have hle : ∀ y, ofC y 60 = true → s1.S (vrC y).toNat ≠ -y → (s1.Wl (plc y)).length ≤ 1000000 := fun y hy hne => by
        have h2 := nodup_le k.n _ (hMd.base.nod y hy (fun e => hne ((SetS.at hS1 hy).2.1.2 e))) (fun j hj => (hMd.base.wok y hy j hj).1)
        omega
      have hN60 : k.N i ≤ 1000 := by rw [HN.out]; have := HNN.out i hi; omega
      have hWA := fun W (h : Below wr.heap.size wr W) => wanother_any lo b i k s1 (-x) W (hP1.below h) hi (by rw [HN.out]; exact hN2) hN60 hmem hle (Nat.le_trans hlw h.size)
      have c122 := hP1.c122
      have hiI : (i : Int) < (k.n : Int) := by omega
      have HQI := hid hqi; have HP1 := hid hP1; have HS1 := hid hS1; have HMd := hid hMd; have HWV := hid hWV; have HT1 := hid hT1
      have hNx := fun W => not_any x W ⟨e4, e5⟩
      clear hqi hP1 hS1 hMd hWV hT1 hmem hle hOl
      go_upto_region 5 with fail
      have qd := (Below.refl wr.heap.size wr).drew
      refine region_planC (fun W => W.cell? ⟨b, 122, none⟩ = some (.slice (some ⟨k.gd, 0, none⟩) k.n k.n)) (.takes [0, 1, 2, 3, 4, 5, 6, 7] (.make 8 (.make 9 (.takes [10] .fin)))) 11 rfl (by kernel_rfl) c122 ?_
      refine plan_takes ?_; simp only [pickOps, List.getElem?_cons_zero, List.getElem?_cons_succ]
      refine quiet_doC rfl (.pointer (some ⟨b, 0, none⟩)) (fun W hW => by simp [execOp, go_sem]) ?_
      refine quiet_doC rfl (.pointer (some ⟨b, 0, none⟩)) (fun W hW => by simp [execOp, go_sem]) ?_
      refine quiet_doC rfl (.pointer (some ⟨b, 122, none⟩)) (fun W hW => by simp [execOp, go_sem]) ?_
      refine quiet_doC rfl (.slice (some ⟨k.gd, 0, none⟩) k.n k.n) (fun W hW => by simp [execOp, go_sem, hW]) ?_
      refine quiet_doC rfl (.int .i64 (i : Int)) (fun W hW => by simp [execOp, go_sem]) ?_
      refine quiet_doC rfl (.pointer (some ⟨b, 0, none⟩)) (fun W hW => by simp [execOp, go_sem]) ?_
      refine quiet_doC rfl (.int .i64 (i : Int)) (fun W hW => by simp [execOp, go_sem]) ?_
      refine quiet_doC rfl (.int .i64 x) (fun W hW => by simp [execOp, go_sem]) ?_
      refine wpQuiet_nil ?_
      simp only [Act.put, List.setIfInBounds_toArray, List.set_cons_succ, List.set_cons_zero]
      refine planC_call rfl rfl 57 #[.int .i64 x] (by kernel_rfl) ((hNx _).mono ?_)
      rintro e _ ⟨rfl, rfl⟩
      refine ⟨_, rfl, c122, ?_⟩
      simp only [Act.put, List.setIfInBounds_toArray, List.set_cons_succ, List.set_cons_zero]
      refine planC_call rfl rfl 59 #[.pointer (some ⟨b, 0, none⟩), .int .i64 (i : Int), .int .i64 (-x)] (by kernel_rfl) ((hWA _ qd).mono ?_)
      rintro e w9 ⟨⟨r, rfl, hWa⟩, hq9⟩
      have hD9 : ∃ s9, PrM lo b k s9 w9 := by
        rcases hWa with ⟨_, a, v', _, _, _, hp⟩ | ⟨_, _, hp⟩
        · exact ⟨_, hp⟩
        · exact ⟨_, hp⟩
      obtain ⟨s9, hP9⟩ := hD9
      refine ⟨_, rfl, hP9.c122, ?_⟩
      have d9 := hP9.cd hi
      have f9 := hP9.du.frozen i
      have hb9 : Below lo w w9 := hb.trans (((qd.mono hlw)).trans hq9)
      have hlod := hP9.lod
      have HWa := hid hWa
      clear hWa hP9
      simp only [Act.put, List.setIfInBounds_toArray, List.set_cons_succ, List.set_cons_zero]
      refine plan_takes ?_; simp only [pickOps, List.getElem?_cons_zero, List.getElem?_cons_succ]
      refine quiet_doC rfl (.bool (!r)) (fun W hW => by simp [execOp, go_sem]) ?_
      refine wpQuiet_nil ?_
      simp only [Act.put, List.setIfInBounds_toArray, List.set_cons_succ, List.set_cons_zero]
      refine plan_fin ?_
      simp only [List.drop_succ_cons, List.drop_zero, Act.put, List.setIfInBounds_toArray, List.set_cons_succ, List.set_cons_zero]
      go_wp2
      go_roundw
      case rel =>
        refine ⟨q + 1, by omega, by go_num, ?_, hb9.setCell hlod _⟩
        rcases HWa.out with ⟨rfl, a, v', a2, aN, hne, hp⟩ | ⟨rfl, hall, hp⟩
        · have hof : ∀ j, j < L.N i → ofC (s1.C i j) 60 = true := fun j hj => mem_lit HL.out HMd.out.base hi hj
          have hcm : ∀ j, j < L.N i → ofC (sw01 (-x) (s1.C i) j) 60 = true := fun j hj => by
            obtain ⟨j', hj', e'⟩ := (sw01_mem (N := L.N i) (c := s1.C i) (g := -x) hN2 _).1 ⟨j, hj, rfl⟩
            rw [← e']
            exact hof _ hj'
          have aL : a < L.N i := by rw [← HN.out]; exact aN
          have hca := hcm a aL
          have hfa : atU (s.T ++ [x]) (sw01 (-x) (s1.C i) a) ≠ -1 := fun e => hne ((SetS.at HS1.out hca).2.1.2 e)
          have hM2 := mid_found HL.out HMd.out HQI.out hx h0 a2 aL hfa
          have hpx : plc (-x) ≠ plc (sw01 (-x) (s1.C i) a) := fun e => hfa (by rw [← plc_inj hxn hca e, atU_push h0 hx0, if_neg (by omega), if_pos rfl])
          refine ⟨_, hp.setD i false, HT1.out, HS1.out, ?_, ?_⟩
          · have he : (fun q => if q = plc (sw01 (-x) (s1.C i) a) then s1.Wl (plc (sw01 (-x) (s1.C i) a)) ++ [i] else s1.Wl q) = (fun p => if p = plc (sw01 (-x) (s1.C i) a) then s1.Wl p ++ [i] else s1.Wl p) := by
              funext q'
              by_cases e' : q' = plc (sw01 (-x) (s1.C i) a)
              · rw [if_pos e', if_pos e', e']
              · rw [if_neg e', if_neg e']
            show Mid k.n L _ (fun q => if q = plc (sw01 (-x) (s1.C i) a) then s1.Wl (plc (sw01 (-x) (s1.C i) a)) ++ [i] else s1.Wl q) _ s.T x l (q + 1)
            rw [he]
            exact hM2
          · show (if plc (-x) = plc (sw01 (-x) (s1.C i) a) then v' else s1.WV (plc (-x))) = _
            rw [if_neg hpx]
            exact HWV.out
        · have hM2 := mid_due HL.out HMd.out HQI.out hx h0 (fun j j2 jN => by
            have hof : ∀ j, j < L.N i → ofC (s1.C i j) 60 = true := fun j hj => mem_lit HL.out HMd.out.base hi hj
            have hcj : ofC (sw01 (-x) (s1.C i) j) 60 = true := by
              obtain ⟨j', hj', e'⟩ := (sw01_mem (N := L.N i) (c := s1.C i) (g := -x) hN2 _).1 ⟨j, jN, rfl⟩
              rw [← e']
              exact hof _ hj'
            exact (SetS.at HS1.out hcj).2.1.1 (hall j j2 (by rw [HN.out]; exact jN)))
          exact ⟨_, hp.setD i true, HT1.out, HS1.out, hM2, HWV.out⟩
      case measure => simp [intOf]; omega
    · have hke : q = l.length := by omega
      subst hke
      obtain ⟨hB, hD⟩ := mid_end hMd
      go_wp2
      go_end0
      exact ⟨rfl, ⟨s1, hP1, hT1, by rw [hT1]; exact hS1, by rw [hT1]; exact hB, by rw [hT1]; exact hD⟩, hb⟩
end Go.Proofs.Ytjnngijilkdhbaa
