/- Contract of the model's LinRead. -/
import Derived.Test.YthcabejfmoedfaaDoorLdM
import Derived.Test.YthcabejfmoedfaaDoorLinL
import Derived.Test.YthcabejfmoedfaaDoorLinO
namespace Go.Proofs.YthcabejfmoedfaaDoor
set_option linter.unusedVariables false
set_option linter.unusedSimpArgs false
open Go.Shelf Go.RowKit Go.Joins
theorem bld_frz {B o : Nat} {wr w2 w3 : World} {Y : List Value} {k : Nat} {v v' : Value} (x : Value) (hBr : B < wr.heap.size) (hf : wr.frozen? ⟨B, o, none⟩ = false)
    (ho : wr.ownsRow (B + 1) 3 1 v k Y) (hq : Below wr.heap.size wr w2) (hg : (w2.alloc (.cells #[x] 3)).grownBy w3 v.ownBlock) : (w3.setCell ⟨B, 0, none⟩ v').frozen? ⟨B, o, none⟩ = false := by
  have hne : v.ownBlock ≠ some B := by
    intro he
    have := (ho.lt B he).1
    omega
  have hB2 : B < w2.heap.size := Nat.lt_of_lt_of_le hBr hq.size
  have f3 : w3.frozen? ⟨B, o, none⟩ = false := by
    rw [World.frozen?_of_block (w := w2.alloc (.cells #[x] 3)) (a := ⟨B, o, none⟩) (hg.block B (by simp; omega) (Ne.symm hne))]
    exact ((Below.refl w2.heap.size w2).alloc (Nat.le_refl _) _).frozen (p := ⟨B, o, none⟩) hB2 |>.trans (hq.frozen (p := ⟨B, o, none⟩) hBr |>.trans hf)
  simpa [go_sem] using f3
theorem bld_bel {B : Nat} {w0 wr w2 w3 : World} {Y : List Value} {k : Nat} {v : Value} (v' : Value) (x : Value) (hBr : B < wr.heap.size)
    (ho : wr.ownsRow (B + 1) 3 1 v k Y) (hq : Below wr.heap.size wr w2) (hg : (w2.alloc (.cells #[x] 3)).grownBy w3 v.ownBlock) (hb : Below B w0 wr) : Below B w0 (w3.setCell ⟨B, 0, none⟩ v') := by
  have b3 : Below B w0 w3 := by
    refine (hb.trans ((hq.mono (by omega)).alloc (by have := hq.size; omega) _)).grown hg (by have := hq.size; simp; omega) ?_
    intro j hj
    have := (ho.lt j hj).1
    omega
  exact b3.setCell (Nat.le_refl _) _
theorem OwnI.old4 {W w w' : World} {A : Option Addr} {n : Nat} {Z : Nat → Int} (h : OwnI W w A n Z) (hq : Below w.heap.size w w') : OwnI W w' A n Z := h.below hq
theorem str60 (t : ByteArray) : (t.toList == [60]) = decide (t.data.toList = [60]) := by
  rw [Bool.eq_iff_iff, ByteArray.toList_eq]
  simp only [beq_iff_eq, decide_eq_true_eq]
set_option maxRecDepth 100000 in
set_option maxHeartbeats 8000000 in
theorem slinread_any (s : ByteArray) (w : World) (hs : s.size ≤ 1048576) :
    Calls Tryd.prog 24 #[.string s] w fun e w' => LdP w s e w' ∧ Below w.heap.size w w' := by
  have hF := fun Z b st (h : LdOk s Z b st) => ld_split h
  have hA0 := fun Z b st (h : LdOk s Z b st) => okL_b9 h.1
  have hne : wsOf s 32 ≠ [] := by unfold wsOf; simp [split_ne]
  have hZ := fun t (h : t ∈ wsOf s 32) => ws_len h
  have hC := fun W => cut_at s 32 W hs
  have hE : s.size = 0 → (wsOf s 32).length ≠ 6 := fun h0 => by
    have : s.data.toList = [] := List.eq_nil_of_length_eq_zero (by simpa using h0)
    unfold wsOf; rw [this]; decide
  generalize wsOf s 32 = ws at hF hne hZ hC hE
  obtain ⟨p0, p1, p2⟩ := new3 w (.slice none 0 0) (.int .i64 0) (.bool false) 39
  have r0 : (w.alloc (.cells #[.slice none 0 0, .int .i64 0, .bool false] 39)).frozen? ⟨w.heap.size, 0, none⟩ = false := by simp [go_sem]
  have r1 : (w.alloc (.cells #[.slice none 0 0, .int .i64 0, .bool false] 39)).frozen? ⟨w.heap.size, 1, none⟩ = false := by simp [go_sem]
  have r2 : (w.alloc (.cells #[.slice none 0 0, .int .i64 0, .bool false] 39)).frozen? ⟨w.heap.size, 2, none⟩ = false := by simp [go_sem]
  have q0 := bal (Below.refl w.heap.size w) (.cells #[.slice none 0 0, .int .i64 0, .bool false] 39)
  go_enter Tryd.func24, Tryd.ntmps24
  go_wp2_with fail
  refine (hC _).mono ?_
  intro e w1 hN
  match ws, hne with
  | tt0 :: wt, _ =>
  obtain ⟨g, cap, rfl, hg, hgl, hcell, hb⟩ := ws_cells hN
  replace r0 := carryf hb r0 (cell_lt p0)
  replace r1 := carryf hb r1 (cell_lt p1)
  replace r2 := carryf hb r2 (cell_lt p2)
  replace p0 := carry hb p0
  replace p1 := carry hb p1
  replace p2 := carry hb p2
  replace q0 := btr q0 hb
  have hszA : w.heap.size < w1.heap.size := cell_lt p0
  clear hN hb hC
  have hBl := fun V => Bld.start w1 V 0 false
  have z1 : (w1.alloc (.cells #[.slice none 0 0, .int .i64 0, .bool false] 39)).frozen? ⟨w1.heap.size, 1, none⟩ = false := by simp [go_sem]
  have z2 : (w1.alloc (.cells #[.slice none 0 0, .int .i64 0, .bool false] 39)).frozen? ⟨w1.heap.size, 2, none⟩ = false := by simp [go_sem]
  have hWB : (w1.alloc (.cells #[.slice none 0 0, .int .i64 0, .bool false] 39)).heap.size = w1.heap.size + 1 := by simp
  replace r0 := carryAf2 (.cells #[.slice none 0 0, .int .i64 0, .bool false] 39) p0 r0
  replace r1 := carryAf2 (.cells #[.slice none 0 0, .int .i64 0, .bool false] 39) p1 r1
  replace r2 := carryAf2 (.cells #[.slice none 0 0, .int .i64 0, .bool false] 39) p2 r2
  replace p0 := carryA (.cells #[.slice none 0 0, .int .i64 0, .bool false] 39) p0
  replace p1 := carryA (.cells #[.slice none 0 0, .int .i64 0, .bool false] 39) p1
  replace p2 := carryA (.cells #[.slice none 0 0, .int .i64 0, .bool false] 39) p2
  replace hcell := fun j t h => carryA (.cells #[.slice none 0 0, .int .i64 0, .bool false] 39) (hcell j t h)
  have q1 := bal q0 (.cells #[.slice none 0 0, .int .i64 0, .bool false] 39)
  have qA := bal (Below.refl w1.heap.size w1) (.cells #[.slice none 0 0, .int .i64 0, .bool false] 39)
  go_upto_region 3 with fail
  generalize w1.alloc (.cells #[.slice none 0 0, .int .i64 0, .bool false] 39) = wA at *
  by_cases h6 : wt.length = 5
  case neg =>
    have d6 : (((wt.length : Int) + 1) != 6) = true := by simp; omega
    have d6' : ((((wt.length + 1 : Nat) : Int)) != 6) = true := by simp; omega
    go_wp2
    obtain ⟨t0_, t1_, t2_⟩ := set3 p0 p1 p2 (.slice none 0 0) (.int .i64 0) (.bool false)
    refine bodyPost_ret (v := .tuple #[.agg #[.slice none 0 0, .int .i64 0, .bool false], .bool false]) (by simp [results, Tryd.results24, go_sem, t0_, t1_, t2_]) rfl ?_
    refine ⟨.inr ⟨fun Z b st h => ?_, rfl⟩, ?_⟩
    · have := congrArg List.length (hF Z b st h); simp at this; omega
    · exact bst (bst (bst q1 (Nat.le_refl _) _) (Nat.le_refl _) _) (Nat.le_refl _) _
  match wt, h6 with
  | [tt1, tt2, tt3, tt4, tt5], _ =>
  have y0 := hZ tt0 (by simp)
  have y1 := hZ tt1 (by simp)
  have y2 := hZ tt2 (by simp)
  have y3 := hZ tt3 (by simp)
  have y4 := hZ tt4 (by simp)
  have y5 := hZ tt5 (by simp)
  obtain ⟨v0, b0, hv0, C0⟩ := lnum_val tt0 (by omega)
  obtain ⟨v1, b1, hv1, C1⟩ := lnum_val tt1 (by omega)
  obtain ⟨v2, b2, hv2, C2⟩ := lnum_val tt2 (by omega)
  obtain ⟨v3, b3, hv3, C3⟩ := lnum_val tt3 (by omega)
  obtain ⟨v5, b5, hv5, C5⟩ := lnum_val tt5 (by omega)
  have hS : s.size ≠ 0 := fun h0 => hE h0 rfl
  have hst4 := str60 tt4
  generalize hsd : decide (tt4.data.toList = [60]) = sd at hst4
  replace hF : ∀ Z b st, LdOk s Z b st → (∀ k, k < 4 → row4 v0 v1 v2 v3 k = Z k) ∧ v5 = b ∧ sd = st := fun Z b st h => by
    obtain ⟨c1, c2⟩ := hA0 Z b st h
    have e := hF Z b st h
    simp only [List.cons.injEq, and_true] at e
    obtain ⟨e0, e1, e2, e3, e4, e5⟩ := e
    refine ⟨fun k hk => ?_, hv5 b c2 (by rw [e5, bytes_list]), ?_⟩
    · rcases lt4 hk with rfl | rfl | rfl | rfl
      · exact hv0 _ (c1 0 hk) (by rw [e0, bytes_list])
      · exact hv1 _ (c1 1 hk) (by rw [e1, bytes_list])
      · exact hv2 _ (c1 2 hk) (by rw [e2, bytes_list])
      · exact hv3 _ (c1 3 hk) (by rw [e3, bytes_list])
    · rw [← hsd, e4, bytes_list]; exact sgn_iff st
  have hK : ∀ k, k < 4 → ∃ t bb, [tt0, tt1, tt2, tt3, tt4, tt5][k]? = some t ∧ ∀ W, Calls Tryd.prog 45 #[.string t] W fun e w' => e = .returned (.tuple #[.int .i64 (row4 v0 v1 v2 v3 k), .bool bb]) ∧ Below W.heap.size W w' := fun k hk => by
    rcases lt4 hk with rfl | rfl | rfl | rfl
    · exact ⟨tt0, b0, rfl, C0⟩
    · exact ⟨tt1, b1, rfl, C1⟩
    · exact ⟨tt2, b2, rfl, C2⟩
    · exact ⟨tt3, b3, rfl, C3⟩
  replace hBl := hBl (row4 v0 v1 v2 v3)
  generalize row4 v0 v1 v2 v3 = V at hBl hK hF
  have hx4 := hcell 4 tt4 rfl
  have hx5 := hcell 5 tt5 rfl
  clear hZ hv0 hv1 hv2 hv3 hv5 C0 C1 C2 C3 hA0 hE y0 y1 y2 y3
  obtain ⟨i0, hi, hz0, hz1, hz2⟩ := info_parts infoI
  have HF := hid hF; clear hF
  rw [show [tt1, tt2, tt3, tt4, tt5].length + 1 = 6 from rfl]
  go_upto_region 6 with fail
  go_loopw [6] (fun i wr => ∃ k : Nat, k ≤ 4 ∧ i = .int .i64 k ∧ Bld w1.heap.size w1 V 0 false k wr ∧ wr.frozen? ⟨w1.heap.size, 1, none⟩ = false ∧ wr.frozen? ⟨w1.heap.size, 2, none⟩ = false ∧ Below w1.heap.size wA wr) (fun i _ => 4 - (intOf i).toNat)
  case atStart => exact ⟨0, Nat.zero_le _, rfl, hBl, z1, z2, Below.refl _ _⟩
  case round =>
    clear hBl z1 z2
    obtain ⟨k, hk, rfl, ⟨v, hb, ho, s0, s1, s2, sf⟩, z1, z2, hbA⟩ := hrel
    have hBr : w1.heap.size < wr.heap.size := cell_lt s0
    have P0 := (hbA.cell (p := ⟨w.heap.size, 0, none⟩) hszA).trans p0
    by_cases hlt : k < 4
    · obtain ⟨t, bb, ht, hC⟩ := hK k hlt
      have hx := (hbA.cell (p := ⟨g, k, none⟩) hgl).trans (hcell k t ht)
      have hgr : g < wr.heap.size := cell_lt hx
      have hkI : (k : Int) < 6 := by omega
      clear hcell hK p0 p1 p2 r0 r1 r2 hx4 hx5 P0
      go_wp2_with fail
      refine (hC _).mono ?_
      rintro e w2 ⟨rfl, hq⟩
      have ho2 := own_below hq ho
      have s0' := carry hq s0
      have s1' := carry hq s1
      have s2' := carry hq s2
      have sf' := carryf hq sf hBr
      have hnews : ∀ (j : Nat) (u : Value), ([Value.int .i64 (V k)] : List Value)[j]? = some u → (w2.alloc (.cells #[.int .i64 (V k)] 3)).cell? ((⟨w2.heap.size, 0, none⟩ : Addr).add j) = some u := new_one w2 _ _
      have hone : ∀ u ∈ ([Value.int .i64 (V k)] : List Value), u.oneCell' = true := fun u hu => by simp at hu; subst hu; rfl
      have hx3 : w1.heap.size < w2.heap.size := Nat.lt_of_lt_of_le hBr hq.size
      clear hC hx hgr
      go_wp2_with ((at_builtin; refine wpList_append_own _ rfl _ _ 34 rfl (w1.heap.size + 1) 3 i0 (.int .i64 0) 1 8 Tryd.underlying34 hi hz0 hz1 hz2 rfl (by decide) _ _ _ rfl (ho2.alloc _) ⟨w2.heap.size, 0, none⟩ 1 1 [.int .i64 (V k)] rfl rfl hnews hone (by unfold maxLen; omega) (by omega) (by simp; omega) ?_; intro v' w3 hown hgrow _; obtain ⟨A', c', rfl⟩ := own_slice hown; have hB := hid (Bld.step (Z := V) (.int .i64 (V k)) hb hBr s1 s2 s0 sf ho hq hown hgrow); obtain ⟨m0, m1⟩ := bld_room (.int .i64 (V k)) hBr s0 sf ho hq hgrow; have hz1' := hid (bld_frz (v' := .slice A' (k + 1) c') (.int .i64 (V k)) hBr z1 ho hq hgrow); have hz2' := hid (bld_frz (v' := .slice A' (k + 1) c') (.int .i64 (V k)) hBr z2 ho hq hgrow); have hbA' := hid (bld_bel (.slice A' (k + 1) c') (.int .i64 (V k)) hBr ho hq hgrow hbA)))
      go_roundw
      case rel => exact ⟨k + 1, by omega, by go_num, hB.out, hz1'.out, hz2'.out, hbA'.out⟩
      case measure => simp [intOf]; omega
    · have hke : k = 4 := by omega
      subst hke
      obtain ⟨A', c', rfl, hc1, hc2, hO⟩ := own_new (W := wA) (by omega) (by omega) ho
      have P1 := (hbA.cell (p := ⟨w.heap.size, 1, none⟩) hszA).trans p1
      have P2 := (hbA.cell (p := ⟨w.heap.size, 2, none⟩) hszA).trans p2
      have R0 := (hbA.frozen (p := ⟨w.heap.size, 0, none⟩) hszA).trans r0
      have R1 := (hbA.frozen (p := ⟨w.heap.size, 1, none⟩) hszA).trans r1
      have R2 := (hbA.frozen (p := ⟨w.heap.size, 2, none⟩) hszA).trans r2
      have X4 := (hbA.cell (p := ⟨g, 4, none⟩) hgl).trans hx4
      have X5 := (hbA.cell (p := ⟨g, 5, none⟩) hgl).trans hx5
      have hgr : g < wr.heap.size := cell_lt X4
      replace q0 := q1.trans (hbA.mono (Nat.le_of_lt hszA))
      have hRr : w.heap.size < wr.heap.size := cell_lt P0
      clear hcell hK p0 p1 p2 r0 r1 r2 hx4 hx5 hbA q1 qA ho
      go_upto_region 11 with fail
      have hne2 : w.heap.size ≠ w1.heap.size := by omega
      have s0' := (World.cell?_setCell_other wr ⟨w1.heap.size, 2, none⟩ ⟨w1.heap.size, 0, none⟩ (.bool sd) (by simp)).trans s0
      have s1' := (World.cell?_setCell_other wr ⟨w1.heap.size, 2, none⟩ ⟨w1.heap.size, 1, none⟩ (.bool sd) (by simp)).trans s1
      have s2' := World.cell?_setCell_same wr ⟨w1.heap.size, 2, none⟩ (.bool sd) s2
      have z1' : (wr.setCell ⟨w1.heap.size, 2, none⟩ (.bool sd)).frozen? ⟨w1.heap.size, 1, none⟩ = false := by simpa [go_sem] using z1
      have P0' := (World.cell?_setCell_other wr ⟨w1.heap.size, 2, none⟩ ⟨w.heap.size, 0, none⟩ (.bool sd) (by simp <;> omega)).trans P0
      have P1' := (World.cell?_setCell_other wr ⟨w1.heap.size, 2, none⟩ ⟨w.heap.size, 1, none⟩ (.bool sd) (by simp <;> omega)).trans P1
      have P2' := (World.cell?_setCell_other wr ⟨w1.heap.size, 2, none⟩ ⟨w.heap.size, 2, none⟩ (.bool sd) (by simp <;> omega)).trans P2
      have R0' : (wr.setCell ⟨w1.heap.size, 2, none⟩ (.bool sd)).frozen? ⟨w.heap.size, 0, none⟩ = false := by simpa [go_sem] using R0
      have R1' : (wr.setCell ⟨w1.heap.size, 2, none⟩ (.bool sd)).frozen? ⟨w.heap.size, 1, none⟩ = false := by simpa [go_sem] using R1
      have R2' : (wr.setCell ⟨w1.heap.size, 2, none⟩ (.bool sd)).frozen? ⟨w.heap.size, 2, none⟩ = false := by simpa [go_sem] using R2
      have X5' := (World.cell?_setCell_other wr ⟨w1.heap.size, 2, none⟩ ⟨g, 5, none⟩ (.bool sd) (by simp <;> omega)).trans X5
      have hO' := hO.set (p := w1.heap.size) (o := 2) (.bool sd) (by omega)
      have q0' := bst q0 (p := ⟨w1.heap.size, 2, none⟩) (Nat.le_of_lt hszA) (.bool sd)
      clear s0 s1 s2 z1 z2 sf P0 P1 P2 R0 R1 R2 X4 X5 hO q0 hb
      generalize wr.setCell ⟨w1.heap.size, 2, none⟩ (.bool sd) = w4 at *
      have hg4 : g < w4.heap.size := cell_lt X5'
      have hB4 : w1.heap.size < w4.heap.size := cell_lt s0'
      go_wp2_with fail
      refine (C5 _).mono ?_
      rintro e w5 ⟨rfl, hq⟩
      replace s0' := carry hq s0'
      replace s1' := carry hq s1'
      replace s2' := carry hq s2'
      replace z1' := carryf hq z1' hB4
      replace R0' := carryf hq R0' (cell_lt P0')
      replace R1' := carryf hq R1' (cell_lt P1')
      replace R2' := carryf hq R2' (cell_lt P2')
      replace P0' := carry hq P0'
      replace P1' := carry hq P1'
      replace P2' := carry hq P2'
      replace hO' := hO'.old4 hq
      replace q0' := btr q0' hq
      clear hq X5'
      go_upto_region 12 with fail
      have S0 := (World.cell?_setCell_other w5 ⟨w1.heap.size, 1, none⟩ ⟨w1.heap.size, 0, none⟩ (.int .i64 v5) (by simp)).trans s0'
      have S2 := (World.cell?_setCell_other w5 ⟨w1.heap.size, 1, none⟩ ⟨w1.heap.size, 2, none⟩ (.int .i64 v5) (by simp)).trans s2'
      have S1 := World.cell?_setCell_same w5 ⟨w1.heap.size, 1, none⟩ (.int .i64 v5) s1'
      have P0 := (World.cell?_setCell_other w5 ⟨w1.heap.size, 1, none⟩ ⟨w.heap.size, 0, none⟩ (.int .i64 v5) (by simp <;> omega)).trans P0'
      have P1 := (World.cell?_setCell_other w5 ⟨w1.heap.size, 1, none⟩ ⟨w.heap.size, 1, none⟩ (.int .i64 v5) (by simp <;> omega)).trans P1'
      have P2 := (World.cell?_setCell_other w5 ⟨w1.heap.size, 1, none⟩ ⟨w.heap.size, 2, none⟩ (.int .i64 v5) (by simp <;> omega)).trans P2'
      have R0 : (w5.setCell ⟨w1.heap.size, 1, none⟩ (.int .i64 v5)).frozen? ⟨w.heap.size, 0, none⟩ = false := by simpa [go_sem] using R0'
      have R1 : (w5.setCell ⟨w1.heap.size, 1, none⟩ (.int .i64 v5)).frozen? ⟨w.heap.size, 1, none⟩ = false := by simpa [go_sem] using R1'
      have R2 : (w5.setCell ⟨w1.heap.size, 1, none⟩ (.int .i64 v5)).frozen? ⟨w.heap.size, 2, none⟩ = false := by simpa [go_sem] using R2'
      have hO := hO'.set (p := w1.heap.size) (o := 1) (.int .i64 v5) (by omega)
      have q0 := bst q0' (p := ⟨w1.heap.size, 1, none⟩) (Nat.le_of_lt hszA) (.int .i64 v5)
      clear s0' s1' s2' z1' P0' P1' P2' R0' R1' R2' hO' q0'
      generalize w5.setCell ⟨w1.heap.size, 1, none⟩ (.int .i64 v5) = w6 at *
      have hB6 : w1.heap.size < w6.heap.size := cell_lt S0
      go_wp2_with fail
      refine (slintext_any A' 4 c' V v5 sd _ (by omega) hO.ints).mono ?_
      rintro e w7 ⟨rfl, hq⟩
      replace S0 := carry hq S0
      replace S1 := carry hq S1
      replace S2 := carry hq S2
      replace R0 := carryf hq R0 (cell_lt P0)
      replace R1 := carryf hq R1 (cell_lt P1)
      replace R2 := carryf hq R2 (cell_lt P2)
      replace P0 := carry hq P0
      replace P1 := carry hq P1
      replace P2 := carry hq P2
      replace hO := hO.old4 hq
      replace q0 := btr q0 hq
      clear hq
      have hB7 : w1.heap.size < w7.heap.size := cell_lt S0
      have hR7 : w.heap.size < w7.heap.size := cell_lt P0
      have hR : LdOk s V v5 sd ↔ s = ⟨(linTxt 4 V v5 sd).toArray⟩ := ⟨ld_txt, ld_ne hS⟩
      generalize (⟨(linTxt 4 V v5 sd).toArray⟩ : ByteArray) = X at hR ⊢
      by_cases hk' : s = X
      · have hk5 : (X.toList == s.toList) = true := by rw [strs_eq]; simp [hk']
        obtain ⟨t0_, t1_, t2_⟩ := set3 P0 P1 P2 (.slice A' 4 c') (.int .i64 v5) (.bool sd)
        go_wp2
        refine bodyPost_ret (v := .tuple #[.agg #[.slice A' 4 c', .int .i64 v5, .bool sd], .bool true]) (by simp [results, Tryd.results24, go_sem, t0_, t1_, t2_]) rfl ?_
        have hlw : w.heap.size < wA.heap.size := by omega
        have hO2 := (((hO.set (p := w.heap.size) (o := 0) (.slice A' 4 c') hlw).set (p := w.heap.size) (o := 1) (.int .i64 v5) hlw).set (p := w.heap.size) (o := 2) (.bool sd) hlw).old (W := w) (Nat.le_of_lt hlw)
        refine ⟨.inl ⟨V, v5, sd, _, hR.2 hk', rfl, A', c', rfl, hc1, hc2, hO2⟩, ?_⟩
        exact bst (bst (bst q0 (Nat.le_refl _) _) (Nat.le_refl _) _) (Nat.le_refl _) _
      · have hk5 : (X.toList == s.toList) = false := by rw [strs_eq]; simp; exact fun h => hk' h.symm
        obtain ⟨t0_, t1_, t2_⟩ := set3 P0 P1 P2 (.slice none 0 0) (.int .i64 0) (.bool false)
        go_wp2
        refine bodyPost_ret (v := .tuple #[.agg #[.slice none 0 0, .int .i64 0, .bool false], .bool false]) (by simp [results, Tryd.results24, go_sem, t0_, t1_, t2_]) rfl ?_
        refine ⟨.inr ⟨fun Z b st h => ?_, rfl⟩, ?_⟩
        · obtain ⟨e1, e2, e3⟩ := HF.out Z b st h
          subst e2; subst e3
          exact hk' (hR.1 (ld_congr (fun k hk => (e1 k hk).symm) h))
        · exact bst (bst (bst q0 (Nat.le_refl _) _) (Nat.le_refl _) _) (Nat.le_refl _) _
end Go.Proofs.YthcabejfmoedfaaDoor
