/- Contract of the model's l2Add: the combination of two valid constraints. -/
import Derived.Test.YtplocljoanaoeaaLinL
namespace Go.Proofs.Ytplocljoanaoeaa
set_option linter.unusedVariables false
set_option linter.unusedSimpArgs false
open Go.RowKit
/-- the combination of two rows -/
def addZ (Z : Nat → Int) (m : Int) (Y : Nat → Int) (n : Int) : Nat → Int := fun k => Z k * m + Y k * n
def strB (s : Bool) (m : Int) (u : Bool) (n : Int) : Bool := (s && decide (0 < m)) || (u && decide (0 < n))
def addR2 (Z : Nat → Int) (b : Int) (s : Bool) (m : Int) (Y : Nat → Int) (d : Int) (u : Bool) (n : Int) : LinR × Bool :=
  if okL 4 (addZ Z m Y n) (b * m + d * n) = true then ((4, addZ Z m Y n, b * m + d * n, strB s m u n), true) else (zeroL, false)
def SumP (w : World) (r : LinR × Bool) (e : Ending) (w' : World) : Prop := ∃ v, e = .returned (.tuple #[v, .bool r.2]) ∧ NewL w r.1 v w' ∧ Below w.heap.size w w'
theorem sum_p {w w' : World} {r : LinR × Bool} {v : Value} (h : NewL w r.1 v w') (hb : Below w.heap.size w w') : SumP w r (.returned (.tuple #[v, .bool r.2])) w' := ⟨v, rfl, h, hb⟩
theorem addZ_bd {Z Y : Nat → Int} {m n : Int} {k : Nat} (h1 : inC (Z k) = true) (h2 : inC (Y k) = true) (hm : 0 ≤ m ∧ m ≤ 1000000) (hn : 0 ≤ n ∧ n ≤ 1000000) : (-1000000000000 ≤ Z k * m ∧ Z k * m ≤ 1000000000000) ∧ (-1000000000000 ≤ Y k * n ∧ Y k * n ≤ 1000000000000) :=
  ⟨mul_bd6 (inC_iff.1 h1) (by omega), mul_bd6 (inC_iff.1 h2) (by omega)⟩
/-- two boxed constraints and a result, behind w -/
def Two (w w3 : World) (x y : Value) : Prop := Below w.heap.size w w3 ∧ w3.cell? ⟨w.heap.size, 0, none⟩ = some x ∧ w3.cell? ⟨w.heap.size + 1, 0, none⟩ = some y ∧ w3.cell? ⟨w.heap.size + 1 + 1, 0, none⟩ = some (.slice none 0 0) ∧ w3.cell? ⟨w.heap.size + 1 + 1, 1, none⟩ = some (.int .i64 0) ∧ w3.cell? ⟨w.heap.size + 1 + 1, 2, none⟩ = some (.bool false) ∧ w3.frozen? ⟨w.heap.size + 1 + 1, 0, none⟩ = false ∧ w3.frozen? ⟨w.heap.size + 1 + 1, 1, none⟩ = false ∧ w3.frozen? ⟨w.heap.size + 1 + 1, 2, none⟩ = false
theorem Two.mk (w : World) (x x1 x2 y y1 y2 : Value) (t : TypeId) : Two w (((w.alloc (.cells #[x, x1, x2] t)).alloc (.cells #[y, y1, y2] t)).alloc (.cells #[.slice none 0 0, .int .i64 0, .bool false] t)) x y := by
  refine ⟨bal (bal (bal (Below.refl _ _) _) _) _, ?_, ?_, ?_, ?_, ?_, ?_, ?_, ?_⟩ <;> simp [go_sem]
set_option maxRecDepth 100000 in
set_option maxHeartbeats 4000000 in
theorem lladd_core (g off c : Nat) (Z : Nat → Int) (b m : Int) (s : Bool) (g2 off2 c2 : Nat) (Y : Nat → Int) (d n : Int) (u : Bool) (w : World) (hg : g < w.heap.size) (hcell : ∀ k, k < 4 → w.cell? ⟨g, off + k, none⟩ = some (.int .i64 (Z k))) (hg2 : g2 < w.heap.size) (hcell2 : ∀ k, k < 4 → w.cell? ⟨g2, off2 + k, none⟩ = some (.int .i64 (Y k)))
    (hv : okL 4 Z b = true) (hv2 : okL 4 Y d = true) (hm : 0 ≤ m ∧ m ≤ 1000000) (hn : 0 ≤ n ∧ n ≤ 1000000) :
    Calls Try.prog 76 #[.agg #[.slice (some ⟨g, off, none⟩) 4 c, .int .i64 b, .bool s], .int .i64 m, .agg #[.slice (some ⟨g2, off2, none⟩) 4 c2, .int .i64 d, .bool u], .int .i64 n] w (SumP w (addR2 Z b s m Y d u n)) := by
  obtain ⟨_, _, _, _, b1, b2⟩ := okL_bd4 hv
  obtain ⟨_, _, _, _, d1, d2⟩ := okL_bd4 hv2
  obtain ⟨p1, p2⟩ := mul_bd6 (x := b) (y := m) ⟨b1, b2⟩ (by omega)
  obtain ⟨p3, p4⟩ := mul_bd6 (x := d) (y := n) ⟨d1, d2⟩ (by omega)
  obtain ⟨i0, hi, hz0, hz1, hz2⟩ := info_parts infoI
  have HZ := hid (okL_iff.1 hv).2.1
  have HY := hid (okL_iff.1 hv2).2.1
  obtain ⟨m1, m2⟩ := hm
  obtain ⟨n1, n2⟩ := hn
  have e1 : m * b = b * m := Int.mul_comm _ _
  have e2 : n * d = d * n := Int.mul_comm _ _
  clear hv hv2
  go_enter Try.func76, Try.ntmps76
  go_upto_region 1 with fail
  go_cut [10] (fun s10 wx => ∃ w3, Two w w3 (.slice (some ⟨g, off, none⟩) 4 c) (.slice (some ⟨g2, off2, none⟩) 4 c2) ∧ s10 = .pointer (some ⟨w3.heap.size, 0, none⟩) ∧ wx = w3.alloc (.cells #[.slice none 0 0, .int .i64 (b * m + d * n), .bool (strB s m u n)] 28))
  case first =>
    have hT := Two.mk w (.slice (some ⟨g, off, none⟩) 4 c) (.int .i64 b) (.bool s) (.slice (some ⟨g2, off2, none⟩) 4 c2) (.int .i64 d) (.bool u) 28
    by_cases hm0 : 0 < m
    · have k1 : decide (0 < m) = true := by simpa using hm0
      cases s
      · by_cases hn0 : 0 < n
        · have k2 : decide (0 < n) = true := by simpa using hn0
          go_wp2
          go_meet
          exact ⟨_, hT, by simp, by simp only [strB, k1, k2, Bool.and_true, Bool.and_false, Bool.false_or, Bool.or_false, Bool.true_or, Bool.false_and, Bool.true_and]⟩
        · have k2 : decide (0 < n) = false := by simpa using hn0
          go_wp2
          go_meet
          exact ⟨_, hT, by simp, by simp only [strB, k1, k2, Bool.and_true, Bool.and_false, Bool.false_or, Bool.or_false, Bool.true_or, Bool.false_and, Bool.true_and]⟩
      · go_wp2
        go_meet
        exact ⟨_, hT, by simp, by simp only [strB, k1, Bool.and_true, Bool.true_and, Bool.true_or]⟩
    · have k1 : decide (0 < m) = false := by simpa using hm0
      by_cases hn0 : 0 < n
      · have k2 : decide (0 < n) = true := by simpa using hn0
        go_wp2
        go_meet
        exact ⟨_, hT, by simp, by simp only [strB, k1, k2, Bool.and_true, Bool.and_false, Bool.false_or, Bool.or_false, Bool.true_or, Bool.false_and, Bool.true_and]⟩
      · have k2 : decide (0 < n) = false := by simpa using hn0
        go_wp2
        go_meet
        exact ⟨_, hT, by simp, by simp only [strB, k1, k2, Bool.and_true, Bool.and_false, Bool.false_or, Bool.or_false, Bool.true_or, Bool.false_and, Bool.true_and]⟩
  case rest =>
    obtain ⟨w3, ⟨q0, x0, y0, r0, r1, r2, f0, f1, f2⟩, rfl, rfl⟩ := hcut
    have hBl := Bld.start w3 (addZ Z m Y n) (b * m + d * n) (strB s m u n)
    generalize hst : strB s m u n = st at *
    generalize hbd : b * m + d * n = bd at *
    have HST := hid hst; clear hst
    have HBD := hid hbd; clear hbd
    clear e1 e2
    go_wp2
    go_loopw [11] (fun i wr => ∃ k : Nat, k ≤ 4 ∧ i = .int .i64 k ∧ Bld w3.heap.size w3 (addZ Z m Y n) bd st k wr) (fun i _ => 4 - (intOf i).toNat)
    case atStart => exact ⟨0, Nat.zero_le _, rfl, hBl⟩
    case round =>
      clear hBl
      obtain ⟨k, hk, rfl, v, hb, ho, o0, o1, o2, of⟩ := hrel
      have hBr : w3.heap.size < wr.heap.size := cell_lt o0
      have hx0 : wr.cell? ⟨w.heap.size, 0, none⟩ = some (.slice (some ⟨g, off, none⟩) 4 c) := (hb.cell (p := ⟨w.heap.size, 0, none⟩) (cell_lt x0)).trans x0
      have hy0 : wr.cell? ⟨w.heap.size + 1, 0, none⟩ = some (.slice (some ⟨g2, off2, none⟩) 4 c2) := (hb.cell (p := ⟨w.heap.size + 1, 0, none⟩) (cell_lt y0)).trans y0
      have lx := cell_lt hx0
      have ly := cell_lt hy0
      by_cases hlt : k < 4
      · have z0 : wr.cell? ⟨g, off + k, none⟩ = some (.int .i64 (Z k)) := (hb.cell (p := ⟨g, off + k, none⟩) (Nat.lt_of_lt_of_le hg q0.size)).trans ((q0.cell (p := ⟨g, off + k, none⟩) hg).trans (hcell k hlt))
        have z1 : wr.cell? ⟨g2, off2 + k, none⟩ = some (.int .i64 (Y k)) := (hb.cell (p := ⟨g2, off2 + k, none⟩) (Nat.lt_of_lt_of_le hg2 q0.size)).trans ((q0.cell (p := ⟨g2, off2 + k, none⟩) hg2).trans (hcell2 k hlt))
        have hgr := cell_lt z0
        have hgr2 := cell_lt z1
        obtain ⟨⟨zb1, zb2⟩, ⟨zb3, zb4⟩⟩ := addZ_bd (HZ.out k hlt) (HY.out k hlt) ⟨m1, m2⟩ ⟨n1, n2⟩
        have zz : addZ Z m Y n k = m * Z k + n * Y k := by unfold addZ; rw [Int.mul_comm (Z k), Int.mul_comm (Y k)]
        rw [Int.mul_comm] at zb1 zb2 zb3 zb4
        have ds : (decide (k < 4)) = true := by simpa using hlt
        have ZZ := hid zz; clear zz
        have gc := @gro_cell wr
        go_wp2
        refine region_grow_maker 17 rfl (by kernel_rfl) (by kernel_rfl) rfl ?_; simp only [List.take_succ_cons, List.take_zero]; (repeat (go_big_quiet_step (fail))); refine wpQuiet_nil ?_
        intro w4 hq4
        clear gc
        have ho2 := own_below hq4 ho
        have hx3 : w3.heap.size < w4.heap.size := Nat.lt_of_lt_of_le hBr hq4.size
        clear hx0 hy0 z0 z1 lx ly hgr hgr2 ds
        refine ⟨.slice (some ⟨w4.heap.size, 0, none⟩) 1 1, w4.alloc (.cells #[.int .i64 (m * Z k + n * Y k)] 3), by kernel_rfl, hq4.alloc hq4.size _, ?_⟩
        rw [← ZZ.out]
        have hnews : ∀ (j : Nat) (u : Value), ([Value.int .i64 (addZ Z m Y n k)] : List Value)[j]? = some u → (w4.alloc (.cells #[.int .i64 (addZ Z m Y n k)] 3)).cell? ((⟨w4.heap.size, 0, none⟩ : Addr).add j) = some u := new_one w4 _ _
        have hone : ∀ u ∈ ([Value.int .i64 (addZ Z m Y n k)] : List Value), u.oneCell' = true := fun u hu => by simp at hu; subst hu; rfl
        go_wp2_with ((at_builtin; refine wpList_append_own _ rfl _ _ 24 rfl (w3.heap.size + 1) 3 i0 (.int .i64 0) 1 8 Try.underlying24 hi hz0 hz1 hz2 rfl (by decide) _ _ _ rfl (ho2.alloc _) ⟨w4.heap.size, 0, none⟩ 1 1 [.int .i64 (addZ Z m Y n k)] rfl rfl hnews hone (by unfold maxLen; omega) (by omega) (by simp; omega) ?_; intro v' w5 hown hgrow _; obtain ⟨A', c', rfl⟩ := own_slice hown; have hB := hid (Bld.step (Z := addZ Z m Y n) (.int .i64 (addZ Z m Y n k)) hb hBr o1 o2 o0 of ho hq4 hown hgrow); obtain ⟨m0, m1'⟩ := bld_room (.int .i64 (addZ Z m Y n k)) hBr o0 of ho hq4 hgrow))
        exact ⟨⟨k + 1, by omega, by go_num, hB.out⟩, by simp [intOf]; omega⟩
      · have hke : k = 4 := by omega
        subst hke
        obtain ⟨A', c', rfl, hc1, hc2, hO⟩ := own_new (W := w3) (by omega) (Nat.le_succ _) ho
        have qr : Below w.heap.size w wr := q0.trans (hb.mono q0.size)
        have hlr : w.heap.size + 1 + 1 < w3.heap.size := cell_lt r0
        have g0 := (hb.frozen (p := ⟨w.heap.size + 1 + 1, 0, none⟩) (cell_lt r0)).trans f0
        have g1 := (hb.frozen (p := ⟨w.heap.size + 1 + 1, 1, none⟩) (cell_lt r1)).trans f1
        have g2' := (hb.frozen (p := ⟨w.heap.size + 1 + 1, 2, none⟩) (cell_lt r2)).trans f2
        have s0 := (hb.cell (p := ⟨w.heap.size + 1 + 1, 0, none⟩) (cell_lt r0)).trans r0
        have s1 := (hb.cell (p := ⟨w.heap.size + 1 + 1, 1, none⟩) (cell_lt r1)).trans r1
        have s2 := (hb.cell (p := ⟨w.heap.size + 1 + 1, 2, none⟩) (cell_lt r2)).trans r2
        clear hx0 hy0 lx ly x0 y0 r0 r1 r2 f0 f1 f2 hcell hcell2 ho
        go_wp2_with fail
        refine (slinok_any A' 4 c' (addZ Z m Y n) bd st wr (by omega) hO.ints).mono ?_
        rintro e w6 ⟨rfl, hq⟩
        replace g0 := carryf hq g0 (cell_lt s0)
        replace g1 := carryf hq g1 (cell_lt s1)
        replace g2' := carryf hq g2' (cell_lt s2)
        replace s0 := carry hq s0
        replace s1 := carry hq s1
        replace s2 := carry hq s2
        replace o0 := carry hq o0
        replace o1 := carry hq o1
        replace o2 := carry hq o2
        replace qr := btr qr hq
        have hO2 := hO.below hq
        clear hq hO hb of
        have HR : Hid (addR2 Z b s m Y d u n = if okL 4 (addZ Z m Y n) bd = true then ((4, addZ Z m Y n, bd, st), true) else (zeroL, false)) := hid (by unfold addR2; rw [HBD.out, HST.out])
        have HO := hid hO2; clear hO2
        cases hok : okL 4 (addZ Z m Y n) bd
        · have HK := hid hok; clear hok
          go_wp2_with fail
          obtain ⟨t0, t1, t2⟩ := set3 s0 s1 s2 (.slice none 0 0) (.int .i64 0) (.bool false)
          rw [HR.out, HK.out, if_neg (by simp)]
          refine bodyPost_ret (v := .tuple #[.agg #[.slice none 0 0, .int .i64 0, .bool false], .bool false]) (by simp [results, Try.results76, go_sem, t0, t1, t2]) rfl (sum_p (r := (zeroL, false)) (NewL.zero _ _) ?_)
          clear g0 g1 g2' s0 s1 s2 t0 t1 t2 o0 o1 o2
          (repeat first | with_reducible exact Below.refl _ _ | with_reducible assumption | with_reducible refine Below.drew ?_ | with_reducible refine bdn ?_ _ | with_reducible refine bal ?_ _ | (with_reducible refine bst ?_ ?_ _; rotate_left; (simp <;> omega)) | (with_reducible refine btr ?_ (by with_reducible assumption)))
        · have HK := hid hok; clear hok
          go_wp2_with fail
          obtain ⟨t0, t1, t2⟩ := set3 s0 s1 s2 (.slice A' 4 c') (.int .i64 bd) (.bool st)
          rw [HR.out, HK.out, if_pos rfl]
          have hO3 := ((((HO.out).set (o := 0) (.slice A' 4 c') hlr).set (o := 1) (.int .i64 bd) hlr).set (o := 2) (.bool st) hlr).old (W := w) q0.size
          refine bodyPost_ret (v := .tuple #[.agg #[.slice A' 4 c', .int .i64 bd, .bool st], .bool true]) (by simp [results, Try.results76, go_sem, t0, t1, t2]) rfl (sum_p (r := ((4, addZ Z m Y n, bd, st), true)) ⟨A', c', rfl, hc1, hc2, hO3⟩ ?_)
          clear g0 g1 g2' s0 s1 s2 t0 t1 t2 o0 o1 o2 hO3
          (repeat first | with_reducible exact Below.refl _ _ | with_reducible assumption | with_reducible refine Below.drew ?_ | with_reducible refine bdn ?_ _ | with_reducible refine bal ?_ _ | (with_reducible refine bst ?_ ?_ _; rotate_left; (simp <;> omega)) | (with_reducible refine btr ?_ (by with_reducible assumption)))
theorem lladd_any (A : Option Addr) (c : Nat) (Z : Nat → Int) (b m : Int) (s : Bool) (B : Option Addr) (c2 : Nat) (Y : Nat → Int) (d n : Int) (u : Bool) (w : World) (hA : Ints w A 4 Z) (hB : Ints w B 4 Y)
    (hv : okL 4 Z b = true) (hv2 : okL 4 Y d = true) (hm : 0 ≤ m ∧ m ≤ 1000000) (hn : 0 ≤ n ∧ n ≤ 1000000) :
    Calls Try.prog 76 #[.agg #[.slice A 4 c, .int .i64 b, .bool s], .int .i64 m, .agg #[.slice B 4 c2, .int .i64 d, .bool u], .int .i64 n] w (SumP w (addR2 Z b s m Y d u n)) := by
  rcases hA with h | ⟨g, off, rfl, hg, hc⟩
  · omega
  rcases hB with h | ⟨g2, off2, rfl, hg2, hc2⟩
  · omega
  exact lladd_core g off c Z b m s g2 off2 c2 Y d n u w hg hc hg2 hc2 hv hv2 hm hn
end Go.Proofs.Ytplocljoanaoeaa
