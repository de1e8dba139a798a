/- Contract of the program's AtomSame: the walk. -/
import Derived.Test.YtcnlolocppbcjaaAtC
namespace Go.Proofs.Ytcnlolocppbcjaa
set_option linter.unusedVariables false
set_option linter.unusedSimpArgs false
open Go.RowKit
set_option maxRecDepth 100000 in
set_option maxHeartbeats 8000000 in
theorem atomsame_at (x y : At) (b : Bool) (hb : b = true ↔ AtEq x y) (A1 : Option Addr) (c1 : Nat) (A2 : Option Addr) (c2 : Nat) (A3 : Option Addr) (c3 : Nat) (A4 : Option Addr) (c4 : Nat) (B1 : Option Addr) (d1 : Nat) (B2 : Option Addr) (d2 : Nat) (B3 : Option Addr) (d3 : Nat) (B4 : Option Addr) (d4 : Nat) (w : World) (hA : AtT w x A1 A2 A3 A4) (hB : AtT w y B1 B2 B3 B4)
    (hc : x.a.n ≤ c1 ∧ c1 ≤ 9223372036854775807 ∧ x.b.n ≤ c2 ∧ c2 ≤ 9223372036854775807 ∧ x.m ≤ 9223372036854775807) (hd : y.a.n ≤ d1 ∧ d1 ≤ 9223372036854775807 ∧ y.b.n ≤ d2 ∧ d2 ≤ 9223372036854775807 ∧ y.m ≤ 9223372036854775807) (hz : atSz x ≤ 536870912) (hz' : atSz y ≤ 536870912) :
    Calls Try.prog 49 #[.agg (x.cs A1 c1 A2 c2 A3 c3 A4 c4), .agg (y.cs B1 d1 B2 d2 B3 d3 B4 d4)] w fun e w' => e = .returned (.bool b) ∧ Below w.heap.size w w' := by
  obtain ⟨k1, k2, k3, ⟨g3, rfl⟩, k4⟩ := hA
  obtain ⟨j1, j2, j3, ⟨h3, rfl⟩, j4⟩ := hB
  obtain ⟨v1, v2, v3, v4, v5⟩ := hc
  obtain ⟨u1, u2, u3, u4, u5⟩ := hd
  have hE := hid (teq2 x y)
  have hS1 := sumT_kid2 x x.n
  have hS2 := sumT_kid2 y y.n
  have hN1 := sumT_ge (f := fun k => tSz (x.kid k)) (fun k => tSz_pos _) x.n
  have hN2 := sumT_ge (f := fun k => tSz (y.kid k)) (fun k => tSz_pos _) y.n
  unfold atSz at hz hz'
  have hn1 : x.n ≤ 536870912 := by omega
  have hn2 : y.n ≤ 536870912 := by omega
  have hT1 := hid (show tSz (.mk ⟨#[]⟩ (x.n + 2) (kid2 x)) ≤ 1073741824 by rw [tSz]; omega)
  have HB := hid hb
  clear hS1 hS2 hN1 hN2 hz hz' hb
  obtain ⟨kd, a, bb, n, kid, m, Z, bd, st⟩ := x
  obtain ⟨kd', a', bb', n', kid', m', Z', bd', st'⟩ := y
  simp only [At.cs] at *
  have q2 := bal (bal (Below.refl w.heap.size w) (.cells #[.int .i64 kd, .string a.nm, .slice A1 a.n c1, .string bb.nm, .slice A2 bb.n c2, .slice (some ⟨g3, 0, none⟩) n c3, .slice A4 m c4, .int .i64 bd, .bool st] 70)) (.cells #[.int .i64 kd', .string a'.nm, .slice B1 a'.n d1, .string bb'.nm, .slice B2 bb'.n d2, .slice (some ⟨h3, 0, none⟩) n' d3, .slice B4 m' d4, .int .i64 bd', .bool st'] 70)
  have hS := hid (fun W (h : Below w.heap.size w W) => sleq_any A4 B4 m m' c4 d4 Z Z' W v5 u5 (k4.below h) (j4.below h))
  have notf : ∀ {P : Prop}, (AtEq ⟨kd, a, bb, n, kid, m, Z, bd, st⟩ ⟨kd', a', bb', n', kid', m', Z', bd', st'⟩ → P) → ¬ P → b = false := fun h hp => by
    cases b with
    | false => rfl
    | true => exact absurd (h (HB.out.1 rfl)) hp
  by_cases e1 : kd = kd'
  rotate_left
  · have hbf := notf (fun h => h.1) e1
    subst hbf
    have z1 : (kd != kd') = true := by simpa using e1
    have E1 := hid e1; clear e1
    clear k1 k2 k3 k4 j1 j2 j3 j4 notf
    go_enter Try.func49, Try.ntmps49
    go_wp2
    go_ret
    exact ⟨rfl, q2⟩
  by_cases e2 : bd = bd'
  rotate_left
  · have hbf := notf (fun h => h.2.2.2.2.2.1) e2
    subst hbf
    subst e1
    have z1 : (kd != kd) = false := by simp
    have z2 : (bd != bd') = true := by simpa using e2
    have E2 := hid e2; clear e2
    clear k1 k2 k3 k4 j1 j2 j3 j4 notf
    go_enter Try.func49, Try.ntmps49
    go_wp2
    go_ret
    exact ⟨rfl, q2⟩
  by_cases e3 : st = st'
  rotate_left
  · have hbf := notf (fun h => h.2.2.2.2.2.2) e3
    subst hbf
    subst e1 e2
    have z1 : (kd != kd) = false := by simp
    have z2 : (bd != bd) = false := by simp
    have z3 : (st != st') = true := by simpa using e3
    have E3 := hid e3; clear e3
    clear k1 k2 k3 k4 j1 j2 j3 j4 notf
    go_enter Try.func49, Try.ntmps49
    go_wp2
    go_ret
    exact ⟨rfl, q2⟩
  subst e1 e2 e3
  have z1 : (kd != kd) = false := by simp
  have z2 : (bd != bd) = false := by simp
  have z3 : (st != st) = false := by simp
  by_cases e4 : eqI m Z m' Z' = true
  rotate_left
  · have hbf := notf (fun h => eqI_iff.2 h.2.2.2.2.1) e4
    subst hbf
    have z4 : eqI m Z m' Z' = false := by simpa using e4
    rw [z4] at hS
    have E4 := hid e4; clear e4
    clear k1 k2 k3 k4 j1 j2 j3 j4 notf
    go_enter Try.func49, Try.ntmps49
    go_wp2_with fail
    refine (hS.out _ q2).mono ?_
    rintro e w1 ⟨rfl, hq⟩
    go_wp2
    go_ret
    exact ⟨rfl, btr q2 hq⟩
  rw [e4] at hS
  have E4 := hid e4; clear e4 notf
  have H : KcL [(w.heap.size, 1, .string a.nm), (w.heap.size, 2, .slice A1 a.n c1), (w.heap.size, 3, .string bb.nm), (w.heap.size, 4, .slice A2 bb.n c2), (w.heap.size, 5, .slice (some ⟨g3, 0, none⟩) n c3), (w.heap.size + 1, 1, .string a'.nm), (w.heap.size + 1, 2, .slice B1 a'.n d1), (w.heap.size + 1, 3, .string bb'.nm), (w.heap.size + 1, 4, .slice B2 bb'.n d2), (w.heap.size + 1, 5, .slice (some ⟨h3, 0, none⟩) n' d3)] ((w.alloc (.cells #[.int .i64 kd, .string a.nm, .slice A1 a.n c1, .string bb.nm, .slice A2 bb.n c2, .slice (some ⟨g3, 0, none⟩) n c3, .slice A4 m c4, .int .i64 bd, .bool st] 70)).alloc (.cells #[.int .i64 kd, .string a'.nm, .slice B1 a'.n d1, .string bb'.nm, .slice B2 bb'.n d2, .slice (some ⟨h3, 0, none⟩) n' d3, .slice B4 m' d4, .int .i64 bd, .bool st] 70)) := by
    refine ⟨?_, ?_, ?_, ?_, ?_, ?_, ?_, ?_, ?_, ?_, trivial⟩ <;> simp [go_sem]
  obtain ⟨i0, hi, hz0, hz1, hz2⟩ := info_parts infoTm
  go_enter Try.func49, Try.ntmps49
  go_wp2_with fail
  refine (hS.out _ q2).mono ?_
  rintro e w1 ⟨rfl, hq⟩
  replace H := H.below hq
  replace q2 := btr q2 hq
  clear hq
  have HH_ := H; obtain ⟨s0, s1, s2, s3, s4, s5, s6, s7, s8, s9, _⟩ := HH_
  go_upto_region 3 with fail
  obtain ⟨f, hf1, hf2⟩ := nums_read k3
  obtain ⟨f', hf1', hf2'⟩ := nums_read j3
  have CX := bal (Below.refl w1.heap.size w1) (.cells #[.string a.nm, .slice A1 a.n c1, .string bb.nm, .slice A2 bb.n c2] 38)
  have QX := btr q2 CX
  have hown4 := own_new2 w1 (.string a.nm) (.slice A1 a.n c1) (.string bb.nm) (.slice A2 bb.n c2)
  have hnews : ∀ (j : Nat) (u : Value), ((List.range (n * 2)).map (tmV f kid))[j]? = some u → (w1.alloc (.cells #[.string a.nm, .slice A1 a.n c1, .string bb.nm, .slice A2 bb.n c2] 38)).cell? ((⟨g3, 0, none⟩ : Addr).add j) = some u := fun j u h => (QX.cell (World.block_lt_of_cell? w _ (hf1 j u h))).trans (hf1 j u h)
  have hone : ∀ (f : Nat → Option Addr × Nat) (kid : Nat → Tm) (n : Nat), ∀ u ∈ (List.range (n * 2)).map (tmV f kid), u.oneCell' = true := fun f kid n u hu => by
    obtain ⟨j, _, rfl⟩ := List.mem_map.1 hu
    unfold tmV; split <;> rfl
  have hbase : w1.heap.size ≤ (w1.alloc (.cells #[.string a.nm, .slice A1 a.n c1, .string bb.nm, .slice A2 bb.n c2] 38)).heap.size := CX.size
  have hw1 := q2.size
  have K1 := hid k1; have K2 := hid k2; have J1 := hid j1; have J2 := hid j2; have HF2 := hid hf2; have HF2' := hid hf2'; have HF1' := hid hf1'
  have HONE := hid hone
  have hone1 := hone f kid n
  clear k1 k2 k3 j1 j2 j3 hf1 hf2 hf1' hf2' hone
  have l0 := cell_lt s0
  have l1 := cell_lt s5
  go_upto_region 4 with ((at_builtin; go_loud (refine wpList_append_own _ rfl _ _ 36 rfl w1.heap.size 38 i0 _ 2 40 Try.underlying36 hi hz0 hz1 hz2 rfl (by decide) _ _ _ rfl hown4 ⟨g3, 0, none⟩ n c3 ((List.range (n * 2)).map (tmV f kid)) rfl (by simp) hnews hone1 (by unfold maxLen; omega) (by omega) hbase ?_); intro v' w6 hown6 hgrow _))
  have B61 := CX.grown hgrow hbase (fun j hj => (hown4.lt j hj).1)
  have B6 := btr q2 B61
  rw [Nat.add_comm 2 n] at hown6
  obtain ⟨A', c', rfl, hnc, hcm, KT⟩ := own_kidt (n := n + 2) (kid := kid2 ⟨kd, a, bb, n, kid, m, Z, bd, st⟩) (f := fun k => if k = 0 then (A1, c1) else if k = 1 then (A2, c2) else f (k - 2)) hown6 (fun k hk => by
    obtain ⟨r0, r1⟩ := all_read (x := ⟨kd, a, bb, n, kid, m, Z, bd, st⟩) (A1 := A1) (A2 := A2) (c1 := c1) (c2 := c2) (f := f) k hk
    refine ⟨r0, r1, ?_⟩
    match k with
    | 0 => exact ⟨v1, v2, K1.out.keep (KpT.below B6)⟩
    | 1 => exact ⟨v3, v4, K2.out.keep (KpT.below B6)⟩
    | k + 2 =>
      obtain ⟨t1, t2, t3⟩ := HF2.out k (by omega)
      exact ⟨t1, t2, t3.keep (KpT.below B6)⟩)
  clear s0 s1 s2 s3 s4 s5 s6 s7 s8 s9
  clear hown6 hgrow hown4 hnews hone1 hbase CX QX q2 l0 l1
  replace H := H.below B61
  clear B61
  have HH_ := H; obtain ⟨s0, s1, s2, s3, s4, s5, s6, s7, s8, s9, _⟩ := HH_
  have l0 := cell_lt s0
  have l1 := cell_lt s5
  have CX := bal (Below.refl w6.heap.size w6) (.cells #[.string a'.nm, .slice B1 a'.n d1, .string bb'.nm, .slice B2 bb'.n d2] 38)
  have QX := btr B6 CX
  have hown4 := own_new2 w6 (.string a'.nm) (.slice B1 a'.n d1) (.string bb'.nm) (.slice B2 bb'.n d2)
  have hnews : ∀ (j : Nat) (u : Value), ((List.range (n' * 2)).map (tmV f' kid'))[j]? = some u → (w6.alloc (.cells #[.string a'.nm, .slice B1 a'.n d1, .string bb'.nm, .slice B2 bb'.n d2] 38)).cell? ((⟨h3, 0, none⟩ : Addr).add j) = some u := fun j u h => (QX.cell (World.block_lt_of_cell? w _ (HF1'.out j u h))).trans (HF1'.out j u h)
  have hbase : w6.heap.size ≤ (w6.alloc (.cells #[.string a'.nm, .slice B1 a'.n d1, .string bb'.nm, .slice B2 bb'.n d2] 38)).heap.size := CX.size
  have hone1 := HONE.out f' kid' n'
  have HKT := hid KT; clear KT
  go_upto_region 5 with ((at_builtin; go_loud (refine wpList_append_own _ rfl _ _ 36 rfl w6.heap.size 38 i0 _ 2 40 Try.underlying36 hi hz0 hz1 hz2 rfl (by decide) _ _ _ rfl hown4 ⟨h3, 0, none⟩ n' d3 ((List.range (n' * 2)).map (tmV f' kid')) rfl (by simp) hnews hone1 (by unfold maxLen; omega) (by omega) hbase ?_); intro v' w7 hown7 hgrow _))
  have B71 := CX.grown hgrow hbase (fun j hj => (hown4.lt j hj).1)
  have B7 := btr B6 B71
  rw [Nat.add_comm 2 n'] at hown7
  obtain ⟨A'', c'', rfl, hnc', hcm', KT'⟩ := own_kidt (n := n' + 2) (kid := kid2 ⟨kd, a', bb', n', kid', m', Z', bd, st⟩) (f := fun k => if k = 0 then (B1, d1) else if k = 1 then (B2, d2) else f' (k - 2)) hown7 (fun k hk => by
    obtain ⟨r0, r1⟩ := all_read (x := ⟨kd, a', bb', n', kid', m', Z', bd, st⟩) (A1 := B1) (A2 := B2) (c1 := d1) (c2 := d2) (f := f') k hk
    refine ⟨r0, r1, ?_⟩
    match k with
    | 0 => exact ⟨u1, u2, J1.out.keep (KpT.below B7)⟩
    | 1 => exact ⟨u3, u4, J2.out.keep (KpT.below B7)⟩
    | k + 2 =>
      obtain ⟨t1, t2, t3⟩ := HF2'.out k (by omega)
      exact ⟨t1, t2, t3.keep (KpT.below B7)⟩)
  clear s0 s1 s2 s3 s4 s5 s6 s7 s8 s9
  have hbt : b = true ↔ TEq (.mk ⟨#[]⟩ (n + 2) (kid2 ⟨kd, a, bb, n, kid, m, Z, bd, st⟩)) (.mk ⟨#[]⟩ (n' + 2) (kid2 ⟨kd, a', bb', n', kid', m', Z', bd, st⟩)) :=
    HB.out.trans ⟨fun h => hE.out.2 ⟨h.2.1, h.2.2.1, h.2.2.2.1.1, h.2.2.2.1.2⟩, fun h => by
      obtain ⟨g1, g2, g4, g5⟩ := hE.out.1 h
      exact ⟨rfl, g1, g2, ⟨g4, g5⟩, eqI_iff.1 E4.out, rfl, rfl⟩⟩
  have hTS : Calls Try.prog 24 #[.agg #[.string ⟨#[]⟩, .slice A' (n + 2) c'], .agg #[.string ⟨#[]⟩, .slice A'' (n' + 2) c'']] w7 _ := termsame_at (.mk ⟨#[]⟩ (n + 2) (kid2 ⟨kd, a, bb, n, kid, m, Z, bd, st⟩)) (.mk ⟨#[]⟩ (n' + 2) (kid2 ⟨kd, a', bb', n', kid', m', Z', bd, st⟩)) b hbt A' A'' c' c'' w7 (HKT.out.keep (KpT.below B71)) KT' ⟨hnc, hcm⟩ ⟨hnc', hcm'⟩ hT1.out
  clear hbt KT' hown7 hgrow hown4 hnews hone1 hbase CX QX l0 l1 B71 H
  go_wp2_with fail
  refine hTS.mono ?_
  rintro e w8 ⟨rfl, hq⟩
  go_wp2
  go_ret
  exact ⟨rfl, btr B7 hq⟩
end Go.Proofs.Ytcnlolocppbcjaa
