/- Several texts in one: AtC, AtD, AtN, CtA, AkM, AdA, AdB, AdC, AdD, AkE, AkI, AkJ, AkL, AkN, AkO, AkP, AkS, AkD, AkX. -/
import Derived.Test.YtanfljajafelgaaBA
import Derived.Test.YtanfljajafelgaaBI
import Derived.Test.YtanfljajafelgaaBP
import Derived.Test.YtanfljajafelgaaTermF
import Derived.Test.YtanfljajafelgaaBF
import Derived.Test.YtanfljajafelgaaBS
import Derived.Test.YtanfljajafelgaaBoo
import Derived.Handy
import Derived.Test.YtanfljajafelgaaPlanB
namespace Go.Proofs.Ytanfljajafelgaa
set_option linter.unusedVariables false
set_option linter.unusedSimpArgs false
open Go.RowKit
/-- two atoms are one -/
def AtEq (x y : At) : Prop := x.kd = y.kd ∧ TEq x.a y.a ∧ TEq x.b y.b ∧ (x.n = y.n ∧ ∀ k, k < x.n → TEq (x.kid k) (y.kid k)) ∧ (x.m = y.m ∧ ∀ k, k < x.m → x.Z k = y.Z k) ∧ x.bd = y.bd ∧ x.st = y.st
theorem ateq_bool (x y : At) : ∃ b : Bool, b = true ↔ AtEq x y := by
  classical
  exact ⟨decide (AtEq x y), by simp⟩
/-- the terms of an atom, one behind the other -/
def kid2 (x : At) (i : Nat) : Tm := if i = 0 then x.a else if i = 1 then x.b else x.kid (i - 2)
theorem sumT_kid2 (x : At) : ∀ n, sumT (n + 2) (fun k => tSz (kid2 x k)) = tSz x.a + tSz x.b + sumT n (fun k => tSz (x.kid k))
  | 0 => by simp [sumT, kid2]
  | n + 1 => by
    have ih := sumT_kid2 x n
    rw [show n + 1 + 2 = (n + 2) + 1 by omega, sumT, ih, sumT]
    have : kid2 x (n + 2) = x.kid n := by unfold kid2; rw [if_neg (by omega), if_neg (by omega)]; simp
    rw [this]; omega
theorem teq2 (x y : At) : TEq (.mk ⟨#[]⟩ (x.n + 2) (kid2 x)) (.mk ⟨#[]⟩ (y.n + 2) (kid2 y)) ↔ TEq x.a y.a ∧ TEq x.b y.b ∧ x.n = y.n ∧ ∀ k, k < x.n → TEq (x.kid k) (y.kid k) := by
  rw [tEq_iff]
  constructor
  · rintro ⟨_, h1, h2⟩
    have h1' : x.n + 2 = y.n + 2 := h1
    refine ⟨h2 0 (by show 0 < x.n + 2; omega), h2 1 (by show 1 < x.n + 2; omega), by omega, fun k hk => ?_⟩
    have := h2 (k + 2) (by show k + 2 < x.n + 2; omega)
    simpa [Tm.kid, kid2] using this
  · rintro ⟨h1, h2, h3, h4⟩
    refine ⟨rfl, by show x.n + 2 = y.n + 2; omega, fun k hk => ?_⟩
    have hk' : k < x.n + 2 := hk
    show TEq (kid2 x k) (kid2 y k)
    unfold kid2
    by_cases e0 : k = 0
    · rw [if_pos e0, if_pos e0]; exact h1
    · rw [if_neg e0, if_neg e0]
      by_cases e1 : k = 1
      · rw [if_pos e1, if_pos e1]; exact h2
      · rw [if_neg e1, if_neg e1]; exact h4 _ (by omega)
def tmV (f : Nat → Option Addr × Nat) (kid : Nat → Tm) (j : Nat) : Value := if j % 2 = 0 then .string (kid (j / 2)).nm else .slice (f (j / 2)).1 (kid (j / 2)).n (f (j / 2)).2
theorem own_kidt {w : World} {base n : Nat} {v : Value} {xs : List Value} {kid : Nat → Tm} {f : Nat → Option Addr × Nat} (h : w.ownsRow base 76 2 v n xs) (h0 : ∀ k, k < n → xs[k * 2]? = some (.string (kid k).nm) ∧ xs[k * 2 + 1]? = some (.slice (f k).1 (kid k).n (f k).2) ∧ (kid k).n ≤ (f k).2 ∧ (f k).2 ≤ 9223372036854775807 ∧ KidT 0 w (kid k) (f k).1) :
    ∃ A c, v = .slice A n c ∧ n ≤ c ∧ c ≤ 9223372036854775807 ∧ KidT 0 w (.mk ⟨#[]⟩ n kid) A := by
  obtain ⟨hl, ⟨rfl, rfl⟩ | ⟨g, cap, cur, rfl, hg, hh, h1, h2, h3, h4⟩⟩ := h
  · exact ⟨none, 0, rfl, Nat.le_refl _, by omega, .inl rfl⟩
  · refine ⟨_, cap, rfl, h1, by unfold maxLen at h2; omega, .inr ⟨g, 0, cur, rfl, Nat.zero_le _, hh, fun k hk => ?_⟩⟩
    obtain ⟨e0, e1, e2, e3, e4⟩ := h0 k hk
    rw [← h4, List.getElem?_take_of_lt (by omega), Array.getElem?_toList] at e0
    rw [← h4, List.getElem?_take_of_lt (by omega), Array.getElem?_toList] at e1
    exact ⟨(f k).1, (f k).2, by rw [Nat.zero_add]; exact e0, by rw [Nat.zero_add]; exact e1, e2, e3, e4⟩
/-- the cells of the further terms -/
theorem nums_read {w : World} {n g : Nat} {kid : Nat → Tm} (h : KidT 0 w (.mk ⟨#[]⟩ n kid) (some ⟨g, 0, none⟩)) : ∃ f : Nat → Option Addr × Nat, (∀ j u, ((List.range (n * 2)).map (tmV f kid))[j]? = some u → w.cell? ((⟨g, 0, none⟩ : Addr).add j) = some u) ∧ ∀ k, k < n → (kid k).n ≤ (f k).2 ∧ (f k).2 ≤ 9223372036854775807 ∧ KidT 0 w (kid k) (f k).1 := by
  rcases h with rfl | ⟨g', off, cs, ha, _, hg, hc⟩
  · exact ⟨fun _ => (none, 0), fun j u h => by simp at h, fun k hk => absurd hk (by omega)⟩
  · injection ha with ha
    injection ha with e1 e2 _
    subst e1 e2
    obtain ⟨f, hf⟩ := Go.Deep.choose_lt (p := fun k (r : Option Addr × Nat) => cs[0 + k * 2]? = some (.string (kid k).nm) ∧ cs[0 + k * 2 + 1]? = some (.slice r.1 (kid k).n r.2) ∧ (kid k).n ≤ r.2 ∧ r.2 ≤ 9223372036854775807 ∧ KidT 0 w (kid k) r.1) (n := n) (fun k hk => by
      obtain ⟨a, c, h0, h1, h2, h3, h4⟩ := hc k hk
      exact ⟨(a, c), h0, h1, h2, h3, h4⟩)
    refine ⟨f, fun j u h => ?_, fun k hk => (hf k hk).2.2⟩
    have hj : j < n * 2 := by
      have := (List.getElem?_eq_some_iff.1 h).1
      simpa using this
    simp [hj] at h
    subst h
    obtain ⟨h0, h1, _⟩ := hf (j / 2) (by omega)
    have hadd : (⟨g, 0, none⟩ : Addr).add j = ⟨g, j, none⟩ := by
      by_cases e : j = 0
      · subst e; rfl
      · simp [Addr.add, e]
    rw [hadd]
    unfold tmV
    by_cases e : j % 2 = 0
    · rw [if_pos e]
      have : 0 + j / 2 * 2 = j := by omega
      rw [this] at h0
      simp [World.cell?, hg, h0]
    · rw [if_neg e]
      have : 0 + j / 2 * 2 + 1 = j := by omega
      rw [this] at h1
      simp [World.cell?, hg, h1]
theorem own_new2 (w : World) (x0 x1 x2 x3 : Value) : (w.alloc (.cells #[x0, x1, x2, x3] 76)).ownsRow w.heap.size 76 2 (.slice (some ⟨w.heap.size, 0, none⟩) 2 2) 2 [x0, x1, x2, x3] :=
  ⟨rfl, .inr ⟨w.heap.size, 2, _, rfl, Nat.le_refl _, (MapKept.heap_alloc w _).1, Nat.le_refl _, by unfold maxLen; omega, rfl, rfl⟩⟩
theorem all_read {x : At} {A1 A2 : Option Addr} {c1 c2 : Nat} {f : Nat → Option Addr × Nat} : ∀ k, k < x.n + 2 →
    ([.string x.a.nm, .slice A1 x.a.n c1, .string x.b.nm, .slice A2 x.b.n c2] ++ (List.range (x.n * 2)).map (tmV f x.kid) : List Value)[k * 2]? = some (.string (kid2 x k).nm) ∧
    ([.string x.a.nm, .slice A1 x.a.n c1, .string x.b.nm, .slice A2 x.b.n c2] ++ (List.range (x.n * 2)).map (tmV f x.kid) : List Value)[k * 2 + 1]? = some (.slice (if k = 0 then (A1, c1) else if k = 1 then (A2, c2) else f (k - 2)).1 (kid2 x k).n (if k = 0 then (A1, c1) else if k = 1 then (A2, c2) else f (k - 2)).2) := by
  intro k hk
  match k with
  | 0 => exact ⟨rfl, rfl⟩
  | 1 => exact ⟨rfl, rfl⟩
  | k + 2 =>
    have e1 : (k + 2) * 2 = k * 2 + 4 := by omega
    have hk' : k < x.n := by omega
    constructor
    · rw [e1, List.getElem?_append_right (by simp)]
      have : k * 2 < x.n * 2 := by omega
      simp [this, tmV, kid2]
    · rw [e1, List.getElem?_append_right (by simp)]
      have : k * 2 + 1 < x.n * 2 := by omega
      have h2 : (k * 2 + 1) / 2 = k := by omega
      have h3 : (k * 2 + 4 + 1 - 4) = k * 2 + 1 := by omega
      simp [h3, this, tmV, kid2, h2]
end Go.Proofs.Ytanfljajafelgaa

namespace Go.Proofs.Ytanfljajafelgaa
set_option linter.unusedVariables false
set_option linter.unusedSimpArgs false
open Go.RowKit
set_option maxRecDepth 100000 in
set_option maxHeartbeats 8000000 in
theorem atomsame_at (x y : At) (b : Bool) (hb : b = true ↔ AtEq x y) (A1 : Option Addr) (c1 : Nat) (A2 : Option Addr) (c2 : Nat) (A3 : Option Addr) (c3 : Nat) (A4 : Option Addr) (c4 : Nat) (B1 : Option Addr) (d1 : Nat) (B2 : Option Addr) (d2 : Nat) (B3 : Option Addr) (d3 : Nat) (B4 : Option Addr) (d4 : Nat) (w : World) (hA : AtT w x A1 A2 A3 A4) (hB : AtT w y B1 B2 B3 B4)
    (hc : x.a.n ≤ c1 ∧ c1 ≤ 9223372036854775807 ∧ x.b.n ≤ c2 ∧ c2 ≤ 9223372036854775807 ∧ x.m ≤ 9223372036854775807) (hd : y.a.n ≤ d1 ∧ d1 ≤ 9223372036854775807 ∧ y.b.n ≤ d2 ∧ d2 ≤ 9223372036854775807 ∧ y.m ≤ 9223372036854775807) (hz : atSz x ≤ 536870912) (hz' : atSz y ≤ 536870912) :
    Calls Try.prog 184 #[.agg (x.cs A1 c1 A2 c2 A3 c3 A4 c4), .agg (y.cs B1 d1 B2 d2 B3 d3 B4 d4)] w fun e w' => e = .returned (.bool b) ∧ Below w.heap.size w w' := by
  obtain ⟨k1, k2, k3, ⟨g3, rfl⟩, k4⟩ := hA
  obtain ⟨j1, j2, j3, ⟨h3, rfl⟩, j4⟩ := hB
  obtain ⟨v1, v2, v3, v4, v5⟩ := hc
  obtain ⟨u1, u2, u3, u4, u5⟩ := hd
  have hE := hid (teq2 x y)
  have hS1 := sumT_kid2 x x.n
  have hS2 := sumT_kid2 y y.n
  have hN1 := sumT_ge (f := fun k => tSz (x.kid k)) (fun k => tSz_pos _) x.n
  have hN2 := sumT_ge (f := fun k => tSz (y.kid k)) (fun k => tSz_pos _) y.n
  unfold atSz at hz hz'
  have hn1 : x.n ≤ 536870912 := by omega
  have hn2 : y.n ≤ 536870912 := by omega
  have hT1 := hid (show tSz (.mk ⟨#[]⟩ (x.n + 2) (kid2 x)) ≤ 1073741824 by rw [tSz]; omega)
  have HB := hid hb
  clear hS1 hS2 hN1 hN2 hz hz' hb
  obtain ⟨kd, a, bb, n, kid, m, Z, bd, st⟩ := x
  obtain ⟨kd', a', bb', n', kid', m', Z', bd', st'⟩ := y
  simp only [At.cs] at *
  have q2 := bal (bal (Below.refl w.heap.size w) (.cells #[.int .i64 kd, .string a.nm, .slice A1 a.n c1, .string bb.nm, .slice A2 bb.n c2, .slice (some ⟨g3, 0, none⟩) n c3, .slice A4 m c4, .int .i64 bd, .bool st] 95)) (.cells #[.int .i64 kd', .string a'.nm, .slice B1 a'.n d1, .string bb'.nm, .slice B2 bb'.n d2, .slice (some ⟨h3, 0, none⟩) n' d3, .slice B4 m' d4, .int .i64 bd', .bool st'] 95)
  have hS := hid (fun W (h : Below w.heap.size w W) => sleq_any A4 B4 m m' c4 d4 Z Z' W v5 u5 (k4.below h) (j4.below h))
  have notf : ∀ {P : Prop}, (AtEq ⟨kd, a, bb, n, kid, m, Z, bd, st⟩ ⟨kd', a', bb', n', kid', m', Z', bd', st'⟩ → P) → ¬ P → b = false := fun h hp => by
    cases b with
    | false => rfl
    | true => exact absurd (h (HB.out.1 rfl)) hp
  by_cases e1 : kd = kd'
  rotate_left
  · have hbf := notf (fun h => h.1) e1
    subst hbf
    have z1 : (kd != kd') = true := by simpa using e1
    have E1 := hid e1; clear e1
    clear k1 k2 k3 k4 j1 j2 j3 j4 notf
    go_enter Try.func184, Try.ntmps184
    go_wp2
    go_ret
    exact ⟨rfl, q2⟩
  by_cases e2 : bd = bd'
  rotate_left
  · have hbf := notf (fun h => h.2.2.2.2.2.1) e2
    subst hbf
    subst e1
    have z1 : (kd != kd) = false := by simp
    have z2 : (bd != bd') = true := by simpa using e2
    have E2 := hid e2; clear e2
    clear k1 k2 k3 k4 j1 j2 j3 j4 notf
    go_enter Try.func184, Try.ntmps184
    go_wp2
    go_ret
    exact ⟨rfl, q2⟩
  by_cases e3 : st = st'
  rotate_left
  · have hbf := notf (fun h => h.2.2.2.2.2.2) e3
    subst hbf
    subst e1 e2
    have z1 : (kd != kd) = false := by simp
    have z2 : (bd != bd) = false := by simp
    have z3 : (st != st') = true := by simpa using e3
    have E3 := hid e3; clear e3
    clear k1 k2 k3 k4 j1 j2 j3 j4 notf
    go_enter Try.func184, Try.ntmps184
    go_wp2
    go_ret
    exact ⟨rfl, q2⟩
  subst e1 e2 e3
  have z1 : (kd != kd) = false := by simp
  have z2 : (bd != bd) = false := by simp
  have z3 : (st != st) = false := by simp
  by_cases e4 : eqI m Z m' Z' = true
  rotate_left
  · have hbf := notf (fun h => eqI_iff.2 h.2.2.2.2.1) e4
    subst hbf
    have z4 : eqI m Z m' Z' = false := by simpa using e4
    rw [z4] at hS
    have E4 := hid e4; clear e4
    clear k1 k2 k3 k4 j1 j2 j3 j4 notf
    go_enter Try.func184, Try.ntmps184
    go_wp2_with fail
    refine (hS.out _ q2).mono ?_
    rintro e w1 ⟨rfl, hq⟩
    go_wp2
    go_ret
    exact ⟨rfl, btr q2 hq⟩
  rw [e4] at hS
  have E4 := hid e4; clear e4 notf
  have H : KcL [(w.heap.size, 1, .string a.nm), (w.heap.size, 2, .slice A1 a.n c1), (w.heap.size, 3, .string bb.nm), (w.heap.size, 4, .slice A2 bb.n c2), (w.heap.size, 5, .slice (some ⟨g3, 0, none⟩) n c3), (w.heap.size + 1, 1, .string a'.nm), (w.heap.size + 1, 2, .slice B1 a'.n d1), (w.heap.size + 1, 3, .string bb'.nm), (w.heap.size + 1, 4, .slice B2 bb'.n d2), (w.heap.size + 1, 5, .slice (some ⟨h3, 0, none⟩) n' d3)] ((w.alloc (.cells #[.int .i64 kd, .string a.nm, .slice A1 a.n c1, .string bb.nm, .slice A2 bb.n c2, .slice (some ⟨g3, 0, none⟩) n c3, .slice A4 m c4, .int .i64 bd, .bool st] 95)).alloc (.cells #[.int .i64 kd, .string a'.nm, .slice B1 a'.n d1, .string bb'.nm, .slice B2 bb'.n d2, .slice (some ⟨h3, 0, none⟩) n' d3, .slice B4 m' d4, .int .i64 bd, .bool st] 95)) := by
    refine ⟨?_, ?_, ?_, ?_, ?_, ?_, ?_, ?_, ?_, ?_, trivial⟩ <;> simp [go_sem]
  obtain ⟨i0, hi, hz0, hz1, hz2⟩ := info_parts infoTm
  go_enter Try.func184, Try.ntmps184
  go_wp2_with fail
  refine (hS.out _ q2).mono ?_
  rintro e w1 ⟨rfl, hq⟩
  replace H := H.below hq
  replace q2 := btr q2 hq
  clear hq
  have HH_ := H; obtain ⟨s0, s1, s2, s3, s4, s5, s6, s7, s8, s9, _⟩ := HH_
  go_upto_region 3 with fail
  obtain ⟨f, hf1, hf2⟩ := nums_read k3
  obtain ⟨f', hf1', hf2'⟩ := nums_read j3
  have CX := bal (Below.refl w1.heap.size w1) (.cells #[.string a.nm, .slice A1 a.n c1, .string bb.nm, .slice A2 bb.n c2] 76)
  have QX := btr q2 CX
  have hown4 := own_new2 w1 (.string a.nm) (.slice A1 a.n c1) (.string bb.nm) (.slice A2 bb.n c2)
  have hnews : ∀ (j : Nat) (u : Value), ((List.range (n * 2)).map (tmV f kid))[j]? = some u → (w1.alloc (.cells #[.string a.nm, .slice A1 a.n c1, .string bb.nm, .slice A2 bb.n c2] 76)).cell? ((⟨g3, 0, none⟩ : Addr).add j) = some u := fun j u h => (QX.cell (World.block_lt_of_cell? w _ (hf1 j u h))).trans (hf1 j u h)
  have hone : ∀ (f : Nat → Option Addr × Nat) (kid : Nat → Tm) (n : Nat), ∀ u ∈ (List.range (n * 2)).map (tmV f kid), u.oneCell' = true := fun f kid n u hu => by
    obtain ⟨j, _, rfl⟩ := List.mem_map.1 hu
    unfold tmV; split <;> rfl
  have hbase : w1.heap.size ≤ (w1.alloc (.cells #[.string a.nm, .slice A1 a.n c1, .string bb.nm, .slice A2 bb.n c2] 76)).heap.size := CX.size
  have hw1 := q2.size
  have K1 := hid k1; have K2 := hid k2; have J1 := hid j1; have J2 := hid j2; have HF2 := hid hf2; have HF2' := hid hf2'; have HF1' := hid hf1'
  have HONE := hid hone
  have hone1 := hone f kid n
  clear k1 k2 k3 j1 j2 j3 hf1 hf2 hf1' hf2' hone
  have l0 := cell_lt s0
  have l1 := cell_lt s5
  go_upto_region 4 with ((at_builtin; go_loud (refine wpList_append_own _ rfl _ _ 52 rfl w1.heap.size 76 i0 _ 2 40 Try.underlying52 hi hz0 hz1 hz2 rfl (by decide) _ _ _ rfl hown4 ⟨g3, 0, none⟩ n c3 ((List.range (n * 2)).map (tmV f kid)) rfl (by simp) hnews hone1 (by unfold maxLen; omega) (by omega) hbase ?_); intro v' w6 hown6 hgrow _))
  have B61 := CX.grown hgrow hbase (fun j hj => (hown4.lt j hj).1)
  have B6 := btr q2 B61
  rw [Nat.add_comm 2 n] at hown6
  obtain ⟨A', c', rfl, hnc, hcm, KT⟩ := own_kidt (n := n + 2) (kid := kid2 ⟨kd, a, bb, n, kid, m, Z, bd, st⟩) (f := fun k => if k = 0 then (A1, c1) else if k = 1 then (A2, c2) else f (k - 2)) hown6 (fun k hk => by
    obtain ⟨r0, r1⟩ := all_read (x := ⟨kd, a, bb, n, kid, m, Z, bd, st⟩) (A1 := A1) (A2 := A2) (c1 := c1) (c2 := c2) (f := f) k hk
    refine ⟨r0, r1, ?_⟩
    match k with
    | 0 => exact ⟨v1, v2, K1.out.keep (KpT.below B6)⟩
    | 1 => exact ⟨v3, v4, K2.out.keep (KpT.below B6)⟩
    | k + 2 =>
      obtain ⟨t1, t2, t3⟩ := HF2.out k (by omega)
      exact ⟨t1, t2, t3.keep (KpT.below B6)⟩)
  clear s0 s1 s2 s3 s4 s5 s6 s7 s8 s9
  clear hown6 hgrow hown4 hnews hone1 hbase CX QX q2 l0 l1
  replace H := H.below B61
  clear B61
  have HH_ := H; obtain ⟨s0, s1, s2, s3, s4, s5, s6, s7, s8, s9, _⟩ := HH_
  have l0 := cell_lt s0
  have l1 := cell_lt s5
  have CX := bal (Below.refl w6.heap.size w6) (.cells #[.string a'.nm, .slice B1 a'.n d1, .string bb'.nm, .slice B2 bb'.n d2] 76)
  have QX := btr B6 CX
  have hown4 := own_new2 w6 (.string a'.nm) (.slice B1 a'.n d1) (.string bb'.nm) (.slice B2 bb'.n d2)
  have hnews : ∀ (j : Nat) (u : Value), ((List.range (n' * 2)).map (tmV f' kid'))[j]? = some u → (w6.alloc (.cells #[.string a'.nm, .slice B1 a'.n d1, .string bb'.nm, .slice B2 bb'.n d2] 76)).cell? ((⟨h3, 0, none⟩ : Addr).add j) = some u := fun j u h => (QX.cell (World.block_lt_of_cell? w _ (HF1'.out j u h))).trans (HF1'.out j u h)
  have hbase : w6.heap.size ≤ (w6.alloc (.cells #[.string a'.nm, .slice B1 a'.n d1, .string bb'.nm, .slice B2 bb'.n d2] 76)).heap.size := CX.size
  have hone1 := HONE.out f' kid' n'
  have HKT := hid KT; clear KT
  go_upto_region 5 with ((at_builtin; go_loud (refine wpList_append_own _ rfl _ _ 52 rfl w6.heap.size 76 i0 _ 2 40 Try.underlying52 hi hz0 hz1 hz2 rfl (by decide) _ _ _ rfl hown4 ⟨h3, 0, none⟩ n' d3 ((List.range (n' * 2)).map (tmV f' kid')) rfl (by simp) hnews hone1 (by unfold maxLen; omega) (by omega) hbase ?_); intro v' w7 hown7 hgrow _))
  have B71 := CX.grown hgrow hbase (fun j hj => (hown4.lt j hj).1)
  have B7 := btr B6 B71
  rw [Nat.add_comm 2 n'] at hown7
  obtain ⟨A'', c'', rfl, hnc', hcm', KT'⟩ := own_kidt (n := n' + 2) (kid := kid2 ⟨kd, a', bb', n', kid', m', Z', bd, st⟩) (f := fun k => if k = 0 then (B1, d1) else if k = 1 then (B2, d2) else f' (k - 2)) hown7 (fun k hk => by
    obtain ⟨r0, r1⟩ := all_read (x := ⟨kd, a', bb', n', kid', m', Z', bd, st⟩) (A1 := B1) (A2 := B2) (c1 := d1) (c2 := d2) (f := f') k hk
    refine ⟨r0, r1, ?_⟩
    match k with
    | 0 => exact ⟨u1, u2, J1.out.keep (KpT.below B7)⟩
    | 1 => exact ⟨u3, u4, J2.out.keep (KpT.below B7)⟩
    | k + 2 =>
      obtain ⟨t1, t2, t3⟩ := HF2'.out k (by omega)
      exact ⟨t1, t2, t3.keep (KpT.below B7)⟩)
  clear s0 s1 s2 s3 s4 s5 s6 s7 s8 s9
  have hbt : b = true ↔ TEq (.mk ⟨#[]⟩ (n + 2) (kid2 ⟨kd, a, bb, n, kid, m, Z, bd, st⟩)) (.mk ⟨#[]⟩ (n' + 2) (kid2 ⟨kd, a', bb', n', kid', m', Z', bd, st⟩)) :=
    HB.out.trans ⟨fun h => hE.out.2 ⟨h.2.1, h.2.2.1, h.2.2.2.1.1, h.2.2.2.1.2⟩, fun h => by
      obtain ⟨g1, g2, g4, g5⟩ := hE.out.1 h
      exact ⟨rfl, g1, g2, ⟨g4, g5⟩, eqI_iff.1 E4.out, rfl, rfl⟩⟩
  have hTS : Calls Try.prog 128 #[.agg #[.string ⟨#[]⟩, .slice A' (n + 2) c'], .agg #[.string ⟨#[]⟩, .slice A'' (n' + 2) c'']] w7 _ := termsame_at (.mk ⟨#[]⟩ (n + 2) (kid2 ⟨kd, a, bb, n, kid, m, Z, bd, st⟩)) (.mk ⟨#[]⟩ (n' + 2) (kid2 ⟨kd, a', bb', n', kid', m', Z', bd, st⟩)) b hbt A' A'' c' c'' w7 (HKT.out.keep (KpT.below B71)) KT' ⟨hnc, hcm⟩ ⟨hnc', hcm'⟩ hT1.out
  clear hbt KT' hown7 hgrow hown4 hnews hone1 hbase CX QX l0 l1 B71 H
  go_wp2_with fail
  refine hTS.mono ?_
  rintro e w8 ⟨rfl, hq⟩
  go_wp2
  go_ret
  exact ⟨rfl, btr B7 hq⟩
end Go.Proofs.Ytanfljajafelgaa

namespace Go.Proofs.Ytanfljajafelgaa
set_option linter.unusedVariables false
set_option linter.unusedSimpArgs false
open Go.RowKit
theorem wpList_append_none {P : Program} {w : World} {ops : Array Oper} {rest : List Oper} {o : Oper} {a : Act} {Q : Exit → Act → World → Prop} (hgd : o.guard = none) (s x : Operand) (t : TypeId)
    (ho : o.op = .call { callee := .builtin .append, args := #[s, x], argTypes := #[t, t] })
    (base : Nat) (e : TypeId) (i : TypeInfo) (size : Nat) (ht : P.underlying t = some (.slice e)) (hi : P.info? e = some i)
    (v : Value) (n : Nat) (xs : List Value) (hs : a.eval s = v) (hown : w.ownsRow base e size v n xs) (hx : a.eval x = .slice none 0 0)
    (h : wpList P ops Q rest (a.put o.dst v) w) : wpList P ops Q (o :: rest) a w := by
  refine wpList_plain hgd fun K hK => ?_
  have hr := run_append_owned_none (P := P) (w := w) base t o.type e i size ht hi v n xs hown
  unfold Oper.wp execOp
  simp only [ho, resolve, invoke, builtin, Sem.run_bind, Sem.run_pure, Result.andThen_ok, List.map_toArray, List.map_cons, List.map_nil, hs, hx, hr]
  exact hK _ _ h
set_option maxRecDepth 100000 in
set_option maxHeartbeats 8000000 in
theorem atomsame_nil (x y : At) (b : Bool) (hb : b = true ↔ AtEq x y) (A1 : Option Addr) (c1 : Nat) (A2 : Option Addr) (c2 : Nat) (A3 : Option Addr) (c3 : Nat) (A4 : Option Addr) (c4 : Nat) (B1 : Option Addr) (d1 : Nat) (B2 : Option Addr) (d2 : Nat) (w : World) (hn0 : y.n = 0) (hm0 : y.m = 0) (hA : AtT w x A1 A2 A3 A4) (hB1 : KidT 0 w y.a B1) (hB2 : KidT 0 w y.b B2)
    (hc : x.a.n ≤ c1 ∧ c1 ≤ 9223372036854775807 ∧ x.b.n ≤ c2 ∧ c2 ≤ 9223372036854775807 ∧ x.m ≤ 9223372036854775807) (hd : y.a.n ≤ d1 ∧ d1 ≤ 9223372036854775807 ∧ y.b.n ≤ d2 ∧ d2 ≤ 9223372036854775807) (hz : atSz x ≤ 536870912) (hz' : atSz y ≤ 536870912) :
    Calls Try.prog 184 #[.agg (x.cs A1 c1 A2 c2 A3 c3 A4 c4), .agg (y.cs B1 d1 B2 d2 none 0 none 0)] w fun e w' => e = .returned (.bool b) ∧ Below w.heap.size w w' := by
  obtain ⟨k1, k2, k3, ⟨g3, rfl⟩, k4⟩ := hA
  have j1 := hB1; have j2 := hB2
  clear hB1 hB2
  obtain ⟨v1, v2, v3, v4, v5⟩ := hc
  obtain ⟨u1, u2, u3, u4⟩ := hd
  have hE := hid (teq2 x y)
  have hS1 := sumT_kid2 x x.n
  have hS2 := sumT_kid2 y y.n
  have hN1 := sumT_ge (f := fun k => tSz (x.kid k)) (fun k => tSz_pos _) x.n
  have hN2 := sumT_ge (f := fun k => tSz (y.kid k)) (fun k => tSz_pos _) y.n
  unfold atSz at hz hz'
  have hn1 : x.n ≤ 536870912 := by omega
  have hn2 : y.n ≤ 536870912 := by omega
  have hT1 := hid (show tSz (.mk ⟨#[]⟩ (x.n + 2) (kid2 x)) ≤ 1073741824 by rw [tSz]; omega)
  have HB := hid hb
  clear hS1 hS2 hN1 hN2 hz hz' hb
  obtain ⟨kd, a, bb, n, kid, m, Z, bd, st⟩ := x
  obtain ⟨kd', a', bb', n', kid', m', Z', bd', st'⟩ := y
  simp only at hn0 hm0
  subst hn0
  subst hm0
  simp only [At.cs] at *
  have q2 := bal (bal (Below.refl w.heap.size w) (.cells #[.int .i64 kd, .string a.nm, .slice A1 a.n c1, .string bb.nm, .slice A2 bb.n c2, .slice (some ⟨g3, 0, none⟩) n c3, .slice A4 m c4, .int .i64 bd, .bool st] 95)) (.cells #[.int .i64 kd', .string a'.nm, .slice B1 a'.n d1, .string bb'.nm, .slice B2 bb'.n d2, .slice none 0 0, .slice none 0 0, .int .i64 bd', .bool st'] 95)
  have hS := hid (fun W (h : Below w.heap.size w W) => sleq_any A4 none m 0 c4 0 Z Z' W v5 (by omega) (k4.below h) (.inl rfl))
  have notf : ∀ {P : Prop}, (AtEq ⟨kd, a, bb, n, kid, m, Z, bd, st⟩ ⟨kd', a', bb', 0, kid', 0, Z', bd', st'⟩ → P) → ¬ P → b = false := fun h hp => by
    cases b with
    | false => rfl
    | true => exact absurd (h (HB.out.1 rfl)) hp
  by_cases e1 : kd = kd'
  rotate_left
  · have hbf := notf (fun h => h.1) e1
    subst hbf
    have z1 : (kd != kd') = true := by simpa using e1
    have E1 := hid e1; clear e1
    clear k1 k2 k3 k4 j1 j2 notf
    go_enter Try.func184, Try.ntmps184
    go_wp2
    go_ret
    exact ⟨rfl, q2⟩
  by_cases e2 : bd = bd'
  rotate_left
  · have hbf := notf (fun h => h.2.2.2.2.2.1) e2
    subst hbf
    subst e1
    have z1 : (kd != kd) = false := by simp
    have z2 : (bd != bd') = true := by simpa using e2
    have E2 := hid e2; clear e2
    clear k1 k2 k3 k4 j1 j2 notf
    go_enter Try.func184, Try.ntmps184
    go_wp2
    go_ret
    exact ⟨rfl, q2⟩
  by_cases e3 : st = st'
  rotate_left
  · have hbf := notf (fun h => h.2.2.2.2.2.2) e3
    subst hbf
    subst e1 e2
    have z1 : (kd != kd) = false := by simp
    have z2 : (bd != bd) = false := by simp
    have z3 : (st != st') = true := by simpa using e3
    have E3 := hid e3; clear e3
    clear k1 k2 k3 k4 j1 j2 notf
    go_enter Try.func184, Try.ntmps184
    go_wp2
    go_ret
    exact ⟨rfl, q2⟩
  subst e1 e2 e3
  have z1 : (kd != kd) = false := by simp
  have z2 : (bd != bd) = false := by simp
  have z3 : (st != st) = false := by simp
  by_cases e4 : eqI m Z 0 Z' = true
  rotate_left
  · have hbf := notf (fun h => eqI_iff.2 h.2.2.2.2.1) e4
    subst hbf
    have z4 : eqI m Z 0 Z' = false := by simpa using e4
    rw [z4] at hS
    have E4 := hid e4; clear e4
    clear k1 k2 k3 k4 j1 j2 notf
    go_enter Try.func184, Try.ntmps184
    go_wp2_with fail
    refine (hS.out _ q2).mono ?_
    rintro e w1 ⟨rfl, hq⟩
    go_wp2
    go_ret
    exact ⟨rfl, btr q2 hq⟩
  rw [e4] at hS
  have E4 := hid e4; clear e4 notf
  have H : KcL [(w.heap.size, 1, .string a.nm), (w.heap.size, 2, .slice A1 a.n c1), (w.heap.size, 3, .string bb.nm), (w.heap.size, 4, .slice A2 bb.n c2), (w.heap.size, 5, .slice (some ⟨g3, 0, none⟩) n c3), (w.heap.size + 1, 1, .string a'.nm), (w.heap.size + 1, 2, .slice B1 a'.n d1), (w.heap.size + 1, 3, .string bb'.nm), (w.heap.size + 1, 4, .slice B2 bb'.n d2), (w.heap.size + 1, 5, .slice none 0 0)] ((w.alloc (.cells #[.int .i64 kd, .string a.nm, .slice A1 a.n c1, .string bb.nm, .slice A2 bb.n c2, .slice (some ⟨g3, 0, none⟩) n c3, .slice A4 m c4, .int .i64 bd, .bool st] 95)).alloc (.cells #[.int .i64 kd, .string a'.nm, .slice B1 a'.n d1, .string bb'.nm, .slice B2 bb'.n d2, .slice none 0 0, .slice none 0 0, .int .i64 bd, .bool st] 95)) := by
    refine ⟨?_, ?_, ?_, ?_, ?_, ?_, ?_, ?_, ?_, ?_, trivial⟩ <;> simp [go_sem]
  obtain ⟨i0, hi, hz0, hz1, hz2⟩ := info_parts infoTm
  go_enter Try.func184, Try.ntmps184
  go_wp2_with fail
  refine (hS.out _ q2).mono ?_
  rintro e w1 ⟨rfl, hq⟩
  replace H := H.below hq
  replace q2 := btr q2 hq
  clear hq
  have HH_ := H; obtain ⟨s0, s1, s2, s3, s4, s5, s6, s7, s8, s9, _⟩ := HH_
  go_upto_region 3 with fail
  obtain ⟨f, hf1, hf2⟩ := nums_read k3
  have CX := bal (Below.refl w1.heap.size w1) (.cells #[.string a.nm, .slice A1 a.n c1, .string bb.nm, .slice A2 bb.n c2] 76)
  have QX := btr q2 CX
  have hown4 := own_new2 w1 (.string a.nm) (.slice A1 a.n c1) (.string bb.nm) (.slice A2 bb.n c2)
  have hnews : ∀ (j : Nat) (u : Value), ((List.range (n * 2)).map (tmV f kid))[j]? = some u → (w1.alloc (.cells #[.string a.nm, .slice A1 a.n c1, .string bb.nm, .slice A2 bb.n c2] 76)).cell? ((⟨g3, 0, none⟩ : Addr).add j) = some u := fun j u h => (QX.cell (World.block_lt_of_cell? w _ (hf1 j u h))).trans (hf1 j u h)
  have hone : ∀ (f : Nat → Option Addr × Nat) (kid : Nat → Tm) (n : Nat), ∀ u ∈ (List.range (n * 2)).map (tmV f kid), u.oneCell' = true := fun f kid n u hu => by
    obtain ⟨j, _, rfl⟩ := List.mem_map.1 hu
    unfold tmV; split <;> rfl
  have hbase : w1.heap.size ≤ (w1.alloc (.cells #[.string a.nm, .slice A1 a.n c1, .string bb.nm, .slice A2 bb.n c2] 76)).heap.size := CX.size
  have hw1 := q2.size
  have K1 := hid k1; have K2 := hid k2; have J1 := hid j1; have J2 := hid j2; have HF2 := hid hf2
  have HONE := hid hone
  have hone1 := hone f kid n
  clear k1 k2 k3 j1 j2 hf1 hf2 hone
  have l0 := cell_lt s0
  have l1 := cell_lt s5
  go_upto_region 4 with ((at_builtin; go_loud (refine wpList_append_own _ rfl _ _ 52 rfl w1.heap.size 76 i0 _ 2 40 Try.underlying52 hi hz0 hz1 hz2 rfl (by decide) _ _ _ rfl hown4 ⟨g3, 0, none⟩ n c3 ((List.range (n * 2)).map (tmV f kid)) rfl (by simp) hnews hone1 (by unfold maxLen; omega) (by omega) hbase ?_); intro v' w6 hown6 hgrow _))
  have B61 := CX.grown hgrow hbase (fun j hj => (hown4.lt j hj).1)
  have B6 := btr q2 B61
  rw [Nat.add_comm 2 n] at hown6
  obtain ⟨A', c', rfl, hnc, hcm, KT⟩ := own_kidt (n := n + 2) (kid := kid2 ⟨kd, a, bb, n, kid, m, Z, bd, st⟩) (f := fun k => if k = 0 then (A1, c1) else if k = 1 then (A2, c2) else f (k - 2)) hown6 (fun k hk => by
    obtain ⟨r0, r1⟩ := all_read (x := ⟨kd, a, bb, n, kid, m, Z, bd, st⟩) (A1 := A1) (A2 := A2) (c1 := c1) (c2 := c2) (f := f) k hk
    refine ⟨r0, r1, ?_⟩
    match k with
    | 0 => exact ⟨v1, v2, K1.out.keep (KpT.below B6)⟩
    | 1 => exact ⟨v3, v4, K2.out.keep (KpT.below B6)⟩
    | k + 2 =>
      obtain ⟨t1, t2, t3⟩ := HF2.out k (by omega)
      exact ⟨t1, t2, t3.keep (KpT.below B6)⟩)
  clear s0 s1 s2 s3 s4 s5 s6 s7 s8 s9
  clear hown6 hgrow hown4 hnews hone1 hbase CX QX q2 l0 l1
  replace H := H.below B61
  clear B61
  have HH_ := H; obtain ⟨s0, s1, s2, s3, s4, s5, s6, s7, s8, s9, _⟩ := HH_
  have l0 := cell_lt s0
  have l1 := cell_lt s5
  have CX := bal (Below.refl w6.heap.size w6) (.cells #[.string a'.nm, .slice B1 a'.n d1, .string bb'.nm, .slice B2 bb'.n d2] 76)
  have QX := btr B6 CX
  have hown4 := own_new2 w6 (.string a'.nm) (.slice B1 a'.n d1) (.string bb'.nm) (.slice B2 bb'.n d2)
  have HKT := hid KT; clear KT
  go_upto_region 5 with ((at_builtin; go_loud (refine wpList_append_none rfl _ _ 52 rfl w6.heap.size 76 i0 2 Try.underlying52 hi _ _ _ rfl hown4 rfl ?_)))
  have B71 := CX
  have B7 := btr B6 B71
  obtain ⟨A'', c'', hve, hnc', hcm', KT'⟩ := own_kidt (n := 2) (kid := kid2 ⟨kd, a', bb', 0, kid', 0, Z', bd, st⟩) (f := fun k => if k = 0 then (B1, d1) else (B2, d2)) hown4 (fun k hk => by
    match k with
    | 0 => exact ⟨rfl, rfl, u1, u2, J1.out.keep (KpT.below B7)⟩
    | 1 => exact ⟨rfl, rfl, u3, u4, J2.out.keep (KpT.below B7)⟩)
  injection hve with hv1 _ hv3
  subst hv1 hv3
  generalize w6.alloc (.cells #[.string a'.nm, .slice B1 a'.n d1, .string bb'.nm, .slice B2 bb'.n d2] 76) = w7 at *
  clear s0 s1 s2 s3 s4 s5 s6 s7 s8 s9
  have hbt : b = true ↔ TEq (.mk ⟨#[]⟩ (n + 2) (kid2 ⟨kd, a, bb, n, kid, m, Z, bd, st⟩)) (.mk ⟨#[]⟩ (0 + 2) (kid2 ⟨kd, a', bb', 0, kid', 0, Z', bd, st⟩)) :=
    HB.out.trans ⟨fun h => hE.out.2 ⟨h.2.1, h.2.2.1, h.2.2.2.1.1, h.2.2.2.1.2⟩, fun h => by
      obtain ⟨g1, g2, g4, g5⟩ := hE.out.1 h
      exact ⟨rfl, g1, g2, ⟨g4, g5⟩, eqI_iff.1 E4.out, rfl, rfl⟩⟩
  have hTS : Calls Try.prog 128 #[.agg #[.string ⟨#[]⟩, .slice A' (n + 2) c'], .agg #[.string ⟨#[]⟩, .slice (some ⟨w6.heap.size, 0, none⟩) 2 2]] w7 _ := termsame_at (.mk ⟨#[]⟩ (n + 2) (kid2 ⟨kd, a, bb, n, kid, m, Z, bd, st⟩)) (.mk ⟨#[]⟩ (0 + 2) (kid2 ⟨kd, a', bb', 0, kid', 0, Z', bd, st⟩)) b hbt A' _ c' _ w7 (HKT.out.keep (KpT.below B71)) KT' ⟨hnc, hcm⟩ ⟨hnc', hcm'⟩ hT1.out
  clear hbt KT' B71 H
  go_wp2_with fail
  refine hTS.mono ?_
  rintro e w8 ⟨rfl, hq⟩
  go_wp2
  go_ret
  exact ⟨rfl, btr B7 hq⟩
end Go.Proofs.Ytanfljajafelgaa

namespace Go.Proofs.Ytanfljajafelgaa
set_option linter.unusedVariables false
set_option linter.unusedSimpArgs false
open Go.RowKit
/-- worlds that hold two cells -/
structure Kp2 (g o : Nat) (x0 x1 : Value) where
  w : World
  h0 : w.cell? ⟨g, o, none⟩ = some x0
  h1 : w.cell? ⟨g, o + 1, none⟩ = some x1
def kp2 {g o : Nat} {x0 x1 : Value} (X : Kp2 g o x0 x1) : World := X.w
/-- a list of terms, copied to new memory, its parts apart -/
def CopiesP (W : World) (t : Tm) (e : Ending) (w' : World) : Prop :=
  ∃ A c, e = .returned (.slice A t.n c) ∧ t.n ≤ c ∧ c ≤ 9223372036854775807 ∧ SepT w' t W.heap.size w'.heap.size A ∧ Below W.heap.size W w' ∧ (t.n ≠ 0 → ∃ g, A = some ⟨g, 0, none⟩)
theorem TRow.sep0 {w : World} {lo : Nat} {X : List TX} {v : Value} (h : TRow w lo X v) : X.length ≠ 0 → ∃ g c, v = .slice (some ⟨g, 0, none⟩) X.length c := by
  intro hx
  obtain ⟨_, ⟨h, h0⟩ | ⟨g, cap, cur, h, _⟩⟩ := h.own
  · exact absurd h0 hx
  · exact ⟨_, _, h⟩
set_option maxRecDepth 100000 in
set_option maxHeartbeats 4000000 in
theorem copyterms_of (nm : ByteArray) (n : Nat) (kid : Nat → Tm) (hn : n ≤ 1048576) (IH : ∀ k, k < n → ∀ (a : Option Addr) (c : Nat) (W : World), Kids 0 W (kid k) a → Calls Try.prog 308 #[.slice a (kid k).n c] W (CopiesP W (kid k)))
    (A : Option Addr) (c : Nat) (w : World) (hA : Kids 0 w (.mk ⟨#[]⟩ n kid) A) :
    Calls Try.prog 308 #[.slice A n c] w (CopiesP w (.mk nm n kid)) := by
  have HI := hid IH; clear IH
  have hr0 := Below.refl w.heap.size w
  go_enter Try.func308, Try.ntmps308
  go_wp2
  go_loopw [3, 8] (fun vv i wr => ∃ (k : Nat) (X : List TX) (v : Value), k ≤ n ∧ i = .int .i64 k ∧ vv = v ∧ Below w.heap.size w wr ∧ TRow wr w.heap.size X v ∧ X.length = k ∧ ∀ i, i < k → (X.getD i default).t = kid i) (fun _ i _ => n - (intOf i).toNat)
  case atStart => exact ⟨0, [], .slice none 0 0, Nat.zero_le _, rfl, rfl, hr0, TRow.nil _ _, rfl, fun i hi => absurd hi (Nat.not_lt_zero _)⟩
  case round =>
    obtain ⟨k, X, v, hk, rfl, hvv, hbr, hT, hXl, hXk⟩ := hrel
    have HT := hid hT; have HXk := hid hXk; have HXl := hid hXl
    clear hT hXk hXl hr0
    have hvs : ∃ aa cc, v = .slice aa k cc := by
      obtain ⟨_, ⟨h, h0⟩ | ⟨g, cap, cur, h, _⟩⟩ := HT.out.own
      · exact ⟨none, 0, by rw [h, ← HXl.out, h0]⟩
      · exact ⟨_, _, by rw [← HXl.out]; exact h⟩
    obtain ⟨va, vc, hve⟩ := hvs
    subst hve
    subst hvv
    by_cases hlt : k < n
    · rcases hA with h0 | ⟨g, off, rfl, _, hg, hcA⟩
      · omega
      obtain ⟨a, ca, a0, a1, hI⟩ := hcA k hlt
      have gg := Nat.lt_of_lt_of_le hg hbr.size
      replace a0 := carry hbr a0
      replace a1 := carry hbr a1
      replace hI := hI.below hbr
      clear hcA
      obtain ⟨i0, hi, hz0, hz1, hz2⟩ := info_parts infoTm
      have al := bal (Below.refl wr.heap.size wr) (.cells #[.string (kid k).nm, .slice a (kid k).n ca] 76)
      have hx2 := row2_new wr (.string (kid k).nm) (.slice a (kid k).n ca) 76
      go_upto_region 5 with fail
      have HVL := hid (fun r (e : (Value.slice va k vc).ownBlock = some r) => (HT.out.lt e).2)
      have hTd := hid (HT.out.below (al.drew))
      have hbd := btr hbr al.drew
      have hIu := hI.below al.drew
      have hxd := row_below hx2 (Below.refl _ _).drew
      have y0 := hxd.cell (i := 0) (by omega)
      have y1 := hxd.cell (i := 1) (by omega)
      simp only [if_true, Nat.one_ne_zero, if_false] at y0 y1
      have hsz : wr.heap.size < (wr.alloc (.cells #[.string (kid k).nm, .slice a (kid k).n ca] 76)).drew.heap.size := hxd.lt
      clear hI al hx2 a0 a1 gg hxd
      refine region_planC (fun w' => w'.cell? ⟨wr.heap.size, 0, none⟩ = some (.string (kid k).nm) ∧ w'.cell? ⟨wr.heap.size, 1, none⟩ = some (.slice a (kid k).n ca)) (.takes [0, 1, 2, 3, 4] (.make 5 (.takes [6] (.make 7 (.make 8 .fin))))) 9 rfl (by kernel_rfl) ⟨y0, y1⟩ ?_
      refine plan_takes ?_; simp only [pickOps, List.getElem?_cons_zero, List.getElem?_cons_succ]
      refine quiet_doC rfl (.slice va k vc) (fun w' hw' => by simp [execOp, go_sem]) ?_
      refine quiet_doC rfl (.pointer (some ⟨wr.heap.size, 0, none⟩)) (fun w' hw' => by simp [execOp, go_sem]) ?_
      refine quiet_doC rfl (.string (kid k).nm) (fun w' hw' => by have := hw'.1; simp [execOp, go_sem, this]) ?_
      refine quiet_doC rfl (.pointer (some ⟨wr.heap.size, 1, none⟩)) (fun w' hw' => by simp [execOp, go_sem]) ?_
      refine quiet_doC rfl (.slice a (kid k).n ca) (fun w' hw' => by have := hw'.2; simp [execOp, go_sem, this]) ?_
      refine wpQuiet_nil ?_
      generalize (wr.alloc (.cells #[.string (kid k).nm, .slice a (kid k).n ca] 76)).drew = u at *
      refine planC_call rfl rfl 308 #[.slice a (kid k).n ca] (by kernel_rfl) ?_
      refine (HI.out k hlt a ca u hIu).mono ?_
      rintro e w3 ⟨A3, c3, rfl, m1, m2, hS3, hq3, _⟩
      replace y0 := carry hq3 y0
      replace y1 := carry hq3 y1
      refine ⟨_, rfl, ⟨y0, y1⟩, ?_⟩
      refine plan_takes ?_; simp only [pickOps, List.getElem?_cons_zero, List.getElem?_cons_succ]
      refine quiet_doC rfl (.agg #[.string (kid k).nm, .slice A3 (kid k).n c3]) (fun w' hw' => by simp [execOp, go_sem]) ?_
      refine wpQuiet_nil ?_
      have CX := bal (Below.refl w3.heap.size w3) (.cells #[.string (kid k).nm, .slice A3 (kid k).n c3] 76)
      have hq4 := btr hq3 CX
      have hS4 := hid (hS3.below CX)
      have hh4 : w3.heap.size ≤ (w3.alloc (.cells #[.string (kid k).nm, .slice A3 (kid k).n c3] 76)).heap.size := CX.size
      refine planC_val rfl rfl (.slice (some ⟨w3.heap.size, 0, none⟩) 1 1) (w'' := w3.alloc (.cells #[.string (kid k).nm, .slice A3 (kid k).n c3] 76)) (by simp [execOp, go_sem]) ⟨carry CX y0, carry CX y1⟩ ?_
      replace y0 := carry CX y0
      replace y1 := carry CX y1
      have hTg := hid (hTd.out.below hq4)
      have hbg := btr hbd hq4
      have hnews : ∀ (j : Nat) (u : Value), ([.string (kid k).nm, .slice A3 (kid k).n c3] : List Value)[j]? = some u → (w3.alloc (.cells #[.string (kid k).nm, .slice A3 (kid k).n c3] 76)).cell? ((⟨w3.heap.size, 0, none⟩ : Addr).add j) = some u := by
        intro j u h
        match j with
        | 0 => simp at h; subst h; simp [go_sem, Addr.add]
        | 1 => simp at h; subst h; simp [go_sem, Addr.add]
        | j + 2 => simp at h
      have hone : ∀ u ∈ ([.string (kid k).nm, .slice A3 (kid k).n c3] : List Value), u.oneCell' = true := fun u hu => by simp at hu; rcases hu with rfl | rfl <;> rfl
      have hlu : w.heap.size ≤ u.heap.size := hbd.size
      have hlog : w.heap.size ≤ (w3.alloc (.cells #[.string (kid k).nm, .slice A3 (kid k).n c3] 76)).heap.size := Nat.le_trans hlu hq4.size
      have hown0 := hTg.out.own
      rw [HXl.out] at hown0
      refine planC_append rfl rfl _ _ 52 rfl w.heap.size 76 i0 _ 2 40 Try.underlying52 hi hz0 hz1 hz2 rfl (by decide) (.slice va k vc) k (flatX X) (by kernel_rfl) hown0 ⟨w3.heap.size, 0, none⟩ 1 1 [.string (kid k).nm, .slice A3 (kid k).n c3] (by kernel_rfl) rfl hnews hone (by unfold maxLen; omega) (by omega) hlog ?_
      intro v' w6 hown6 hgrow hfresh
      have hrl := fun r (e : (Value.slice va k vc).ownBlock = some r) => hTd.out.lt e
      have hTp := (hTd.out.push (x := ⟨kid k, A3, c3⟩) (v' := v') (w' := w6) hlu hq4 hS4.out hq3.size hh4 m1 m2 (by rw [HXl.out]; exact hown6) hgrow hfresh)
      have hb6 : Below w.heap.size w w6 := ⟨hgrow.os.trans hbg.os, hgrow.tape.trans hbg.tape, hgrow.output.trans hbg.output, Nat.le_trans hbg.size hgrow.size, fun j hj => (hgrow.block j (Nat.lt_of_lt_of_le hj hbg.size) (fun e => by have := (hrl _ e.symm).1; omega)).trans (hbg.block j hj)⟩
      have hkeep : ∀ {o : Nat} {z : Value}, (w3.alloc (.cells #[.string (kid k).nm, .slice A3 (kid k).n c3] 76)).cell? ⟨wr.heap.size, o, none⟩ = some z → w6.cell? ⟨wr.heap.size, o, none⟩ = some z := fun {o z} h => (World.cell?_of_block (a := ⟨wr.heap.size, o, none⟩) (hgrow.block wr.heap.size (cell_lt h) (fun e => by have := HVL.out _ e.symm; omega))).trans h
      refine ⟨⟨hkeep y0, hkeep y1⟩, ?_⟩
      refine plan_fin ?_
      simp only [List.drop_succ_cons, List.drop_zero, Act.put, List.setIfInBounds_toArray, List.set_cons_succ, List.set_cons_zero]
      have HTp := hid hTp; have HB6 := hid hb6
      clear hTp hb6 hkeep hrl hown6 hgrow hfresh hown0 hnews hone CX hlog y0 y1
      go_wp2
      go_roundw
      case rel => exact ⟨k + 1, X ++ [⟨kid k, A3, c3⟩], v', by omega, by go_num, rfl, HB6.out, HTp.out, by rw [List.length_append, HXl.out]; simp, fun i hi => by
        by_cases e : i = k
        · rw [e, ← HXl.out, getX_new, HXl.out]
        · rw [getX_left (by rw [HXl.out]; omega)]
          exact HXk.out i (by omega)⟩
      case measure => simp [intOf]; omega
    · have hke : k = n := by omega
      subst hke
      have HB := hid hbr
      go_wp2
      go_ret
      have h1 := HT.out.slice
      rw [HXl.out] at h1
      obtain ⟨a1, c1, e1, m1, m2⟩ := h1
      injection e1 with e1 _ e3
      subst e1 e3
      refine ⟨va, vc, rfl, m1, m2, ?_, HB.out, fun h0 => ?_⟩
      · have h2 := HT.out.sep (A := va) (c := vc) (by rw [HXl.out]) ⟨#[]⟩
        rw [HXl.out] at h2
        exact h2.congr (fun i hi => HXk.out i hi)
      · obtain ⟨g, c4, h4⟩ := HT.out.sep0 (by rw [HXl.out]; exact h0)
        injection h4 with h5 _ _
        exact ⟨g, h5⟩
theorem copyterms_any : ∀ (t : Tm), Fits 1048576 t → ∀ (A : Option Addr) (c : Nat) (w : World), Kids 0 w t A →
    Calls Try.prog 308 #[.slice A t.n c] w (CopiesP w t) := by
  intro t
  induction t with
  | bad => intro h; exact False.elim h
  | mk nm n kid ih =>
    rintro ⟨_, hn, hf⟩ A c w hA
    exact copyterms_of nm n kid hn (fun k hk a c W h => ih k (hf k hk) a c W h) A c w hA
end Go.Proofs.Ytanfljajafelgaa

namespace Go.Proofs.Ytanfljajafelgaa
set_option linter.unusedVariables false
set_option linter.unusedSimpArgs false
open Go.RowKit
/-- the text of a term -/
def tb (t : Tm) : ByteArray := ⟨(txt t).toArray⟩
theorem stext_at {t : Tm} (hF : Fits 1048576 t) (hw : wellB t = true) {A : Option Addr} {c : Nat} {w : World} (hA : Kids 0 w t A) (W : World) (hb : Below w.heap.size w W) :
    Calls Try.prog 132 #[.agg #[.string t.nm, .slice A t.n c]] W fun e w' => e = .returned (.string (tb t)) ∧ Below W.heap.size W w' :=
  text_any 4 (by omega) t hF (wellB_iff.1 hw).1 A c W (hA.below hb)
theorem right_at {t : Tm} (hF : Fits 1048576 t) {A : Option Addr} {c : Nat} {w : World} (hA : Kids 0 w t A) {r : Bool} (h : wellB t = r) (W : World) (hb : Below w.heap.size w W) :
    Calls Try.prog 182 #[.agg #[.string t.nm, .slice A t.n c]] W fun e w' => e = .returned (.bool r) ∧ Below W.heap.size W w' := by
  subst h; exact right_any t hF A c W (hA.below hb)
/-- there is no term -/
def NoT (t : Tm) : Prop := t.nm.toList = [] ∧ t.n = 0
/-- one addend of a sum -/
def AddQ (x : At) (k : Nat) : Prop := wellB (x.kid k) = true ∧ x.Z k ≠ 0 ∧ -50 ≤ x.Z k ∧ x.Z k ≤ 50 ∧ (k ≠ 0 → Op.bytesLess (tb (x.kid (k - 1))).toList (tb (x.kid k)).toList = true)
def SumQ (x : At) : Prop := NoT x.a ∧ NoT x.b ∧ x.n = x.m ∧ 1 ≤ x.n ∧ x.n ≤ 4 ∧ -1000 ≤ x.bd ∧ x.bd ≤ 1000 ∧ ∀ k, k < x.n → AddQ x k
def EqQ (x : At) : Prop := wellB x.a = true ∧ wellB x.b = true ∧ x.n = 0 ∧ x.m = 0 ∧ x.bd = 0 ∧ x.st = false
/-- something can be told, whatever its sorts -/
def RightQ (x : At) : Prop := (x.kd = 2 ∧ SumQ x) ∨ (x.kd = 1 ∧ EqQ x)
/-- something can be told -/
def AtomP (n : Nat) (L : Sy) (x : At) : Prop := sigB n L = true ∧ RightQ x ∧ (x.kd = 1 → 0 ≤ sortT n L x.a ∧ sortT n L x.a = sortT n L x.b) ∧ (x.kd = 2 → ∀ k, k < x.n → sortT n L (x.kid k) = 1)
theorem none_at {t : Tm} {A : Option Addr} {c : Nat} {r : Bool} (hn : t.n ≤ 9223372036854775807) (h : r = true ↔ NoT t) (w : World) :
    Calls Try.prog 215 #[.agg #[.string t.nm, .slice A t.n c]] w fun e w' => e = .returned (.bool r) ∧ Below w.heap.size w w' := by
  have q0 := bal (Below.refl w.heap.size w) (.cells #[.string t.nm, .slice A t.n c] 76)
  by_cases h1 : t.nm.toList = []
  · have d : t.nm.toList.isEmpty = true := by simpa using h1
    have HF := hid (show (((t.n : Nat) : Int) == 0) = r by
      cases r
      · simp; intro h2; exact absurd (h.2 ⟨h1, h2⟩) (by simp)
      · simp; exact (h.1 rfl).2)
    clear h h1
    go_enter Try.func215, Try.ntmps215
    go_wp2
    go_ret
    exact ⟨ret_bool HF.out, q0⟩
  · have d : t.nm.toList.isEmpty = false := by simpa using h1
    have HF := hid (b_no h (fun h => h1 h.1))
    clear h h1
    go_enter Try.func215, Try.ntmps215
    go_wp2
    go_ret
    exact ⟨ret_bool HF.out.symm, q0⟩
-- PART 2
set_option maxRecDepth 100000 in
set_option maxHeartbeats 8000000 in
theorem l6sum_any (res : Bool) (x : At) (hb : res = true ↔ SumQ x) (hF : AtF 1048576 x) (A1 : Option Addr) (c1 : Nat) (A2 : Option Addr) (c2 : Nat) (A3 : Option Addr) (c3 : Nat) (A4 : Option Addr) (c4 : Nat) (w : World) (hA : AtK w x A1 A2 A3 A4) :
    Calls Try.prog 181 #[.agg (x.cs A1 c1 A2 c2 A3 c3 A4 c4)] w fun e w' => e = .returned (.bool res) ∧ Below w.heap.size w w' := by
  obtain ⟨kd, a, bb, n, kid, m, Z, bd, st⟩ := x
  obtain ⟨f1, f2, f3, f4, f5⟩ := hF
  obtain ⟨k1, k2, k3, k4⟩ := hA
  simp only at f1 f2 f3 f4 f5 k1 k2 k3 k4
  simp only [At.cs]
  have HB := hid hb; clear hb
  have HK := hid f4; clear f4
  have n1 := f1.n
  have n2 := f2.n
  clear f1 f2
  obtain ⟨ra, hra⟩ := bool_of (NoT a)
  obtain ⟨rb, hrb⟩ := bool_of (NoT bb)
  have HRA := hid hra; have HRB := hid hrb
  have CA := hid (fun W => none_at (A := A1) (c := c1) (by omega) hra W)
  have CB := hid (fun W => none_at (A := A2) (c := c2) (by omega) hrb W)
  clear hra hrb
  have H : KcL [(w.heap.size, 0, .int .i64 kd), (w.heap.size, 1, .string a.nm), (w.heap.size, 2, .slice A1 a.n c1), (w.heap.size, 3, .string bb.nm), (w.heap.size, 4, .slice A2 bb.n c2), (w.heap.size, 5, .slice A3 n c3), (w.heap.size, 6, .slice A4 m c4), (w.heap.size, 7, .int .i64 bd), (w.heap.size, 8, .bool st)] (w.alloc (.cells #[.int .i64 kd, .string a.nm, .slice A1 a.n c1, .string bb.nm, .slice A2 bb.n c2, .slice A3 n c3, .slice A4 m c4, .int .i64 bd, .bool st] 95)) := by
    refine ⟨?_, ?_, ?_, ?_, ?_, ?_, ?_, ?_, ?_, trivial⟩ <;> simp [go_sem]
  have q0 := bal (Below.refl w.heap.size w) (.cells #[.int .i64 kd, .string a.nm, .slice A1 a.n c1, .string bb.nm, .slice A2 bb.n c2, .slice A3 n c3, .slice A4 m c4, .int .i64 bd, .bool st] 95)
  have k3' := k3.below q0
  have k4' := k4.below q0
  clear k1 k2 k3 k4
  have NF : Hid (∀ {P : Prop}, (SumQ ⟨kd, a, bb, n, kid, m, Z, bd, st⟩ → P) → ¬ P → res = false) := hid (fun h hp => b_no HB.out (fun hq => hp (h hq)))
  go_enter Try.func181, Try.ntmps181
  have HH_ := H; obtain ⟨s0, s1, s2, s3, s4, s5, s6, s7, s8, _⟩ := HH_
  go_wp2_with fail
  refine (CA.out _).mono ?_
  rintro e w1 ⟨rfl, hq⟩
  clear s0 s1 s2 s3 s4 s5 s6 s7 s8
  replace H := H.below hq
  replace q0 := btr q0 hq
  replace k3' := k3'.below hq
  replace k4' := k4'.below hq
  clear hq CA
  cases ra with
  | false =>
    have hbf := hid (NF.out (fun h => h.1) (fun h => by have := HRA.out.2 h; cases this))
    have HH_ := H; obtain ⟨s0, s1, s2, s3, s4, s5, s6, s7, s8, _⟩ := HH_
    go_wp2
    go_ret
    exact ⟨ret_bool hbf.out.symm, q0⟩
  | true =>
  have HH_ := H; obtain ⟨s0, s1, s2, s3, s4, s5, s6, s7, s8, _⟩ := HH_
  go_wp2_with fail
  refine (CB.out _).mono ?_
  rintro e w2 ⟨rfl, hq⟩
  clear s0 s1 s2 s3 s4 s5 s6 s7 s8
  replace H := H.below hq
  replace q0 := btr q0 hq
  replace k3' := k3'.below hq
  replace k4' := k4'.below hq
  clear hq CB
  cases rb with
  | false =>
    have hbf := hid (NF.out (fun h => h.2.1) (fun h => by have := HRB.out.2 h; cases this))
    have HH_ := H; obtain ⟨s0, s1, s2, s3, s4, s5, s6, s7, s8, _⟩ := HH_
    go_wp2
    go_ret
    exact ⟨ret_bool hbf.out.symm, q0⟩
  | true =>
  by_cases e3 : n = m
  rotate_left
  · have hbf := hid (NF.out (fun h => h.2.2.1) e3)
    have z1 : ((n : Int) != (m : Int)) = true := by simp; omega
    clear e3
    have HH_ := H; obtain ⟨s0, s1, s2, s3, s4, s5, s6, s7, s8, _⟩ := HH_
    go_wp2
    go_ret
    exact ⟨ret_bool hbf.out.symm, q0⟩
  subst e3
  have z3 : ((n : Int) != (n : Int)) = false := by simp
  by_cases e4 : n < 1
  · have hbf := hid (NF.out (fun h => h.2.2.2.1) (by simp only; omega))
    have z1 : decide ((n : Int) < 1) = true := by simp; omega
    clear e4
    have HH_ := H; obtain ⟨s0, s1, s2, s3, s4, s5, s6, s7, s8, _⟩ := HH_
    go_wp2
    go_ret
    exact ⟨ret_bool hbf.out.symm, q0⟩
  have z4 : decide ((n : Int) < 1) = false := by simp; omega
  by_cases e5 : 4 < n
  · have hbf := hid (NF.out (fun h => h.2.2.2.2.1) (by simp only; omega))
    have z1 : decide (4 < (n : Int)) = true := by simp; omega
    clear e5
    have HH_ := H; obtain ⟨s0, s1, s2, s3, s4, s5, s6, s7, s8, _⟩ := HH_
    go_wp2
    go_ret
    exact ⟨ret_bool hbf.out.symm, q0⟩
  have z5 : decide (4 < (n : Int)) = false := by simp; omega
  by_cases e6 : bd < -1000
  · have hbf := hid (NF.out (fun h => h.2.2.2.2.2.1) (by simp only; omega))
    have z1 : decide (bd < -1000) = true := by simp; omega
    clear e6
    have HH_ := H; obtain ⟨s0, s1, s2, s3, s4, s5, s6, s7, s8, _⟩ := HH_
    go_wp2
    go_ret
    exact ⟨ret_bool hbf.out.symm, q0⟩
  have z6 : decide (bd < -1000) = false := by simp; omega
  by_cases e7 : 1000 < bd
  · have hbf := hid (NF.out (fun h => h.2.2.2.2.2.2.1) (by simp only; omega))
    have z1 : decide (1000 < bd) = true := by simp; omega
    clear e7
    have HH_ := H; obtain ⟨s0, s1, s2, s3, s4, s5, s6, s7, s8, _⟩ := HH_
    go_wp2
    go_ret
    exact ⟨ret_bool hbf.out.symm, q0⟩
  have z7 : decide (1000 < bd) = false := by simp; omega
  have HH_ := H; obtain ⟨s0, s1, s2, s3, s4, s5, s6, s7, s8, _⟩ := HH_
  go_wp2
  clear s0 s1 s2 s3 s4 s5 s6 s7 s8
  clear z3 z4 z5 z6 z7
  have HT := hid (fun (h : ∀ k, k < n → AddQ ⟨kd, a, bb, n, kid, n, Z, bd, st⟩ k) => b_yes HB.out ⟨HRA.out.1 (by trivial), HRB.out.1 (by trivial), rfl, by simp only; omega, by simp only; omega, by simp only; omega, by simp only; omega, h⟩)
  replace NF : Hid (∀ k, k < n → ¬ AddQ ⟨kd, a, bb, n, kid, n, Z, bd, st⟩ k → res = false) := hid (fun k hk hn => NF.out (fun h => h.2.2.2.2.2.2.2 k hk) hn)
  clear e4 e5 e6 e7
  generalize w2 = W0 at *
  go_loopw [3, 4] (fun i _ wr => ∃ k : Nat, k ≤ n ∧ i = .int .i64 k ∧ Below W0.heap.size W0 wr ∧ ∀ j, j < k → AddQ ⟨kd, a, bb, n, kid, n, Z, bd, st⟩ j) (fun i _ _ => n - (intOf i).toNat)
  case atStart => exact ⟨0, Nat.zero_le _, rfl, Below.refl _ _, fun k h => absurd h (Nat.not_lt_zero _)⟩
  case round =>
    obtain ⟨k, hk, rfl, hb, he⟩ := hrel
    have HE := hid he; clear he
    replace H := H.below hb
    replace q0 := btr q0 hb
    by_cases hlt : k < n
    rotate_left
    · have hke : k = n := by omega
      subst hke
      have hbf := hid (HT.out HE.out)
      have HH_ := H; obtain ⟨s0, s1, s2, s3, s4, s5, s6, s7, s8, _⟩ := HH_
      have l0 := cell_lt s0
      go_wp2
      go_ret
      exact ⟨ret_bool hbf.out.symm, q0⟩
    rcases k3' with h0 | ⟨g, off, rfl, _, hg, hcA⟩
    · omega
    rcases k4' with h0 | ⟨g2, off2, rfl, hg2, hcB⟩
    · omega
    obtain ⟨ac, cc, a0, a1, hI⟩ := hcA k hlt
    have HP := hid hcA; clear hcA
    have z0 := carry hb (hcB k hlt)
    have gg : g < wr.heap.size := Nat.lt_of_lt_of_le hg hb.size
    have gg2 : g2 < wr.heap.size := Nat.lt_of_lt_of_le hg2 hb.size
    clear hcB
    replace a0 := carry hb a0
    replace a1 := carry hb a1
    have HI := hid (hI.below hb); clear hI
    have gc := @gro_cell wr
    have HH_ := H; obtain ⟨s0, s1, s2, s3, s4, s5, s6, s7, s8, _⟩ := HH_
    have l0 := cell_lt s0
    cases hv : wellB (kid k)
    · have hO := fun Y : Gro wr => right_at (c := cc) (HK.out k hlt) HI.out hv (gro wr Y) Y.h
      have hbf := hid (NF.out k hlt (fun h => by have := h.1; simp only at this; rw [hv] at this; cases this))
      clear hv
      go_upto_region 7 with fail
      refine wp_region_grow_lit (by kernel_rfl) (by kernel_rfl) ?_
      repeat (go_big_quiet_step (first | (go_at_call 182; exact grow_call _ (hO _))))
      refine wpQuiet_nil ?_
      rintro _ ⟨X, rfl⟩
      clear gc l0
      clear s0 s1 s2 s3 s4 s5 s6 s7 s8
      go_wp2
      go_ret
      exact ⟨ret_bool hbf.out.symm, btr q0 X.h⟩
    have hO := fun Y : Gro wr => right_at (c := cc) (HK.out k hlt) HI.out hv (gro wr Y) Y.h
    by_cases e1 : Z k = 0
    · have z1 : (Z k == 0) = true := by simpa using e1
      have hbf := hid (NF.out k hlt (fun h => h.2.1 e1))
      clear e1
      go_upto_region 7 with fail
      refine wp_region_grow_lit (by kernel_rfl) (by kernel_rfl) ?_
      repeat (go_big_quiet_step (first | (go_at_call 182; exact grow_call _ (hO _))))
      refine wpQuiet_nil ?_
      rintro _ ⟨X, rfl⟩
      clear gc l0
      clear s0 s1 s2 s3 s4 s5 s6 s7 s8
      go_wp2
      go_ret
      exact ⟨ret_bool hbf.out.symm, btr q0 X.h⟩
    have z1 : (Z k == 0) = false := by simpa using e1
    by_cases e2 : Z k < -50
    · have z2 : decide (Z k < -50) = true := by simpa using e2
      have hbf := hid (NF.out k hlt (fun h => by have := h.2.2.1; simp only at this; omega))
      clear e2
      go_upto_region 7 with fail
      refine wp_region_grow_lit (by kernel_rfl) (by kernel_rfl) ?_
      repeat (go_big_quiet_step (first | (go_at_call 182; exact grow_call _ (hO _))))
      refine wpQuiet_nil ?_
      rintro _ ⟨X, rfl⟩
      clear gc l0
      clear s0 s1 s2 s3 s4 s5 s6 s7 s8
      go_wp2
      go_ret
      exact ⟨ret_bool hbf.out.symm, btr q0 X.h⟩
    have z2 : decide (Z k < -50) = false := by simpa using e2
    by_cases e3 : 50 < Z k
    · have z3 : decide (50 < Z k) = true := by simpa using e3
      have hbf := hid (NF.out k hlt (fun h => by have := h.2.2.2.1; simp only at this; omega))
      clear e3
      go_upto_region 7 with fail
      refine wp_region_grow_lit (by kernel_rfl) (by kernel_rfl) ?_
      repeat (go_big_quiet_step (first | (go_at_call 182; exact grow_call _ (hO _))))
      refine wpQuiet_nil ?_
      rintro _ ⟨X, rfl⟩
      clear gc l0
      clear s0 s1 s2 s3 s4 s5 s6 s7 s8
      go_wp2
      go_ret
      exact ⟨ret_bool hbf.out.symm, btr q0 X.h⟩
    have z3 : decide (50 < Z k) = false := by simpa using e3
    have HV := hid (show wellB (kid k) = true ∧ Z k ≠ 0 ∧ -50 ≤ Z k ∧ Z k ≤ 50 from ⟨hv, e1, by omega, by omega⟩)
    clear hv e1 e2 e3
    by_cases hk0 : k = 0
    · subst hk0
      have HQ := hid (show AddQ ⟨kd, a, bb, n, kid, n, Z, bd, st⟩ 0 from ⟨HV.out.1, HV.out.2.1, HV.out.2.2.1, HV.out.2.2.2, fun h => absurd rfl h⟩)
      simp only [Nat.zero_mul, Nat.add_zero] at a0 a1 z0
      go_upto_region 7 with fail
      refine wp_region_grow_lit (by kernel_rfl) (by kernel_rfl) ?_
      repeat (go_big_quiet_step (first | (go_at_call 182; exact grow_call _ (hO _))))
      refine wpQuiet_nil ?_
      rintro _ ⟨X, rfl⟩
      clear gc l0
      clear s0 s1 s2 s3 s4 s5 s6 s7 s8
      go_wp2
      go_roundw
      case rel =>
        refine ⟨1, by omega, by go_num, btr hb X.h, fun j hj => ?_⟩
        by_cases e : j = 0
        · subst e; exact HQ.out
        · exact HE.out j (by omega)
      case measure => simp [intOf]; omega
    obtain ⟨p, rfl⟩ : ∃ p, k = p + 1 := ⟨k - 1, by omega⟩
    obtain ⟨ac', cc', p0, p1, hJ⟩ := HP.out p (by omega)
    replace p0 := carry hb p0
    replace p1 := carry hb p1
    have HJ := hid (hJ.below hb); clear hJ
    have dk : decide ((0 : Int) < ((p + 1 : Nat) : Int)) = true := by simp
    have hsub : (((p + 1 : Nat) : Int)) - 1 = (p : Int) := by omega
    have hC1 := fun Y : Gro wr => stext_at (c := cc') (HK.out p (by omega)) (HE.out p (by omega)).1 HJ.out (gro wr Y) Y.h
    have hC2 := fun Y : Gro wr => stext_at (c := cc) (HK.out (p + 1) hlt) HV.out.1 HI.out (gro wr Y) Y.h
    cases hl : Op.bytesLess (tb (kid p)).toList (tb (kid (p + 1))).toList
    · have hbf := hid (NF.out (p + 1) hlt (fun h => by have := h.2.2.2.2 (by omega); simp only [Nat.add_sub_cancel] at this; rw [hl] at this; cases this))
      go_upto_region 7 with fail
      refine wp_region_grow_lit (by kernel_rfl) (by kernel_rfl) ?_
      iterate 30 (go_big_quiet_step (first | (go_at_call 182; exact grow_call _ (hO _)) | (go_at_call 132; exact grow_call _ (hC1 _))))
      repeat (go_big_quiet_step ((go_at_call 132; exact grow_call _ (hC2 _))))
      refine wpQuiet_nil ?_
      rintro _ ⟨X, rfl⟩
      clear gc l0
      clear s0 s1 s2 s3 s4 s5 s6 s7 s8
      go_wp2
      go_ret
      exact ⟨ret_bool hbf.out.symm, btr q0 X.h⟩
    · have HQ := hid (show AddQ ⟨kd, a, bb, n, kid, n, Z, bd, st⟩ (p + 1) from ⟨HV.out.1, HV.out.2.1, HV.out.2.2.1, HV.out.2.2.2, fun h => hl⟩)
      go_upto_region 7 with fail
      refine wp_region_grow_lit (by kernel_rfl) (by kernel_rfl) ?_
      iterate 30 (go_big_quiet_step (first | (go_at_call 182; exact grow_call _ (hO _)) | (go_at_call 132; exact grow_call _ (hC1 _))))
      repeat (go_big_quiet_step ((go_at_call 132; exact grow_call _ (hC2 _))))
      refine wpQuiet_nil ?_
      rintro _ ⟨X, rfl⟩
      clear gc l0
      clear s0 s1 s2 s3 s4 s5 s6 s7 s8
      go_wp2
      go_roundw
      case rel =>
        refine ⟨p + 1 + 1, by omega, by go_num, btr hb X.h, fun j hj => ?_⟩
        by_cases e : j = p + 1
        · subst e; exact HQ.out
        · exact HE.out j (by omega)
      case measure => simp [intOf]; omega
set_option maxRecDepth 100000 in
set_option maxHeartbeats 8000000 in
theorem l6right_any (res : Bool) (x : At) (hb : res = true ↔ RightQ x) (hF : AtF 1048576 x) (A1 : Option Addr) (c1 : Nat) (A2 : Option Addr) (c2 : Nat) (A3 : Option Addr) (c3 : Nat) (A4 : Option Addr) (c4 : Nat) (w : World) (hA : AtK w x A1 A2 A3 A4) :
    Calls Try.prog 131 #[.agg (x.cs A1 c1 A2 c2 A3 c3 A4 c4)] w fun e w' => e = .returned (.bool res) ∧ Below w.heap.size w w' := by
  have HB := hid hb; clear hb
  obtain ⟨rs, hrs⟩ := bool_of (SumQ x)
  have HRS := hid hrs
  have CS := hid (fun W (h : Below w.heap.size w W) => l6sum_any rs x hrs hF A1 c1 A2 c2 A3 c3 A4 c4 W (hA.below h))
  clear hrs
  obtain ⟨kd, a, bb, n, kid, m, Z, bd, st⟩ := x
  obtain ⟨f1, f2, f3, f4, f5⟩ := hF
  obtain ⟨k1, k2, k3, k4⟩ := hA
  simp only at f1 f2 f3 f4 f5 k1 k2 k3 k4
  simp only [At.cs] at CS ⊢
  have CA := hid (fun W (r : Bool) (hr : wellB a = r) (h : Below w.heap.size w W) => right_at (c := c1) f1 k1 hr W h)
  have CB := hid (fun W (r : Bool) (hr : wellB bb = r) (h : Below w.heap.size w W) => right_at (c := c2) f2 k2 hr W h)
  clear f1 f2 f4 k1 k2 k3 k4
  have H : KcL [(w.heap.size, 0, .int .i64 kd), (w.heap.size, 1, .string a.nm), (w.heap.size, 2, .slice A1 a.n c1), (w.heap.size, 3, .string bb.nm), (w.heap.size, 4, .slice A2 bb.n c2), (w.heap.size, 5, .slice A3 n c3), (w.heap.size, 6, .slice A4 m c4), (w.heap.size, 7, .int .i64 bd), (w.heap.size, 8, .bool st)] (w.alloc (.cells #[.int .i64 kd, .string a.nm, .slice A1 a.n c1, .string bb.nm, .slice A2 bb.n c2, .slice A3 n c3, .slice A4 m c4, .int .i64 bd, .bool st] 95)) := by
    refine ⟨?_, ?_, ?_, ?_, ?_, ?_, ?_, ?_, ?_, trivial⟩ <;> simp [go_sem]
  have q0 := bal (Below.refl w.heap.size w) (.cells #[.int .i64 kd, .string a.nm, .slice A1 a.n c1, .string bb.nm, .slice A2 bb.n c2, .slice A3 n c3, .slice A4 m c4, .int .i64 bd, .bool st] 95)
  by_cases e0 : kd = 2
  · have z0 : (kd == 2) = true := by simpa using e0
    have hbf := hid (show rs = res by
      cases rs
      · refine (b_no HB.out (fun h => ?_)).symm
        rcases h with h | h
        · have := HRS.out.2 h.2; cases this
        · have h1 := h.1; simp only at h1; omega
      · exact (b_yes HB.out (.inl ⟨e0, HRS.out.1 rfl⟩)).symm)
    clear e0
    go_enter Try.func131, Try.ntmps131
    have HH_ := H; obtain ⟨s0, s1, s2, s3, s4, s5, s6, s7, s8, _⟩ := HH_
    go_wp2_with fail
    refine (CS.out _ q0).mono ?_
    rintro e w1 ⟨rfl, hq⟩
    clear s0 s1 s2 s3 s4 s5 s6 s7 s8
    clear CS CA CB
    go_wp2
    go_ret
    exact ⟨ret_bool hbf.out, btr q0 hq⟩
  have z0 : (kd == 2) = false := by simpa using e0
  have NF : Hid (∀ {P : Prop}, (kd = 1 ∧ EqQ ⟨kd, a, bb, n, kid, m, Z, bd, st⟩ → P) → ¬ P → res = false) := hid (fun h hp => b_no HB.out (fun hq => by
    rcases hq with hq | hq
    · exact e0 hq.1
    · exact hp (h hq)))
  clear CS
  by_cases e1 : kd = 1
  rotate_left
  · have z1 : (kd == 1) = false := by simpa using e1
    have hbf := hid (NF.out (fun h => h.1) e1)
    clear e0 e1
    go_enter Try.func131, Try.ntmps131
    have HH_ := H; obtain ⟨s0, s1, s2, s3, s4, s5, s6, s7, s8, _⟩ := HH_
    go_wp2
    go_ret
    exact ⟨ret_bool hbf.out.symm, q0⟩
  subst e1
  clear e0
  have HY := hid (fun (h : EqQ ⟨1, a, bb, n, kid, m, Z, bd, st⟩) => b_yes HB.out (.inr ⟨rfl, h⟩))
  clear HB
  cases ha : wellB a
  · have C1 := hid (fun W h => CA.out W _ ha h)
    have hbf := hid (NF.out (fun h => h.2.1) (by simp [ha]))
    clear ha CA CB
    go_enter Try.func131, Try.ntmps131
    have HH_ := H; obtain ⟨s0, s1, s2, s3, s4, s5, s6, s7, s8, _⟩ := HH_
    go_wp2_with fail
    refine (C1.out _ q0).mono ?_
    rintro e w1 ⟨rfl, hq⟩
    clear s0 s1 s2 s3 s4 s5 s6 s7 s8
    clear C1
    go_wp2
    go_ret
    exact ⟨ret_bool hbf.out.symm, btr q0 hq⟩
  have C1 := hid (fun W h => CA.out W _ ha h)
  have HA := hid ha
  clear ha CA
  cases hbw : wellB bb
  · have C2 := hid (fun W h => CB.out W _ hbw h)
    have hbf := hid (NF.out (fun h => h.2.2.1) (by simp [hbw]))
    clear hbw CB
    go_enter Try.func131, Try.ntmps131
    have HH_ := H; obtain ⟨s0, s1, s2, s3, s4, s5, s6, s7, s8, _⟩ := HH_
    go_wp2_with fail
    refine (C1.out _ q0).mono ?_
    rintro e w1 ⟨rfl, hq⟩
    clear s0 s1 s2 s3 s4 s5 s6 s7 s8
    replace H := H.below hq
    replace q0 := btr q0 hq
    clear C1 hq
    have HH_ := H; obtain ⟨s0, s1, s2, s3, s4, s5, s6, s7, s8, _⟩ := HH_
    go_wp2_with fail
    refine (C2.out _ q0).mono ?_
    rintro e w1 ⟨rfl, hq⟩
    clear s0 s1 s2 s3 s4 s5 s6 s7 s8
    clear C2
    go_wp2
    go_ret
    exact ⟨ret_bool hbf.out.symm, btr q0 hq⟩
  have C2 := hid (fun W h => CB.out W _ hbw h)
  have HBW := hid hbw
  clear hbw CB
  go_enter Try.func131, Try.ntmps131
  have HH_ := H; obtain ⟨s0, s1, s2, s3, s4, s5, s6, s7, s8, _⟩ := HH_
  go_wp2_with fail
  refine (C1.out _ q0).mono ?_
  rintro e w1 ⟨rfl, hq⟩
  clear s0 s1 s2 s3 s4 s5 s6 s7 s8
  replace H := H.below hq
  replace q0 := btr q0 hq
  clear C1 hq
  have HH_ := H; obtain ⟨s0, s1, s2, s3, s4, s5, s6, s7, s8, _⟩ := HH_
  go_wp2_with fail
  refine (C2.out _ q0).mono ?_
  rintro e w2 ⟨rfl, hq⟩
  clear s0 s1 s2 s3 s4 s5 s6 s7 s8
  replace H := H.below hq
  replace q0 := btr q0 hq
  clear C2 hq
  by_cases e3 : n = 0
  rotate_left
  · have hbf := hid (NF.out (fun h => h.2.2.2.1) e3)
    have z1 : ((n : Int) == 0) = false := by simp; omega
    clear e3
    have HH_ := H; obtain ⟨s0, s1, s2, s3, s4, s5, s6, s7, s8, _⟩ := HH_
    go_wp2
    go_ret
    exact ⟨ret_bool hbf.out.symm, q0⟩
  subst e3
  by_cases e4 : m = 0
  rotate_left
  · have hbf := hid (NF.out (fun h => h.2.2.2.2.1) e4)
    have z1 : ((m : Int) == 0) = false := by simp; omega
    clear e4
    have HH_ := H; obtain ⟨s0, s1, s2, s3, s4, s5, s6, s7, s8, _⟩ := HH_
    go_wp2
    go_ret
    exact ⟨ret_bool hbf.out.symm, q0⟩
  subst e4
  by_cases e5 : bd = 0
  rotate_left
  · have hbf := hid (NF.out (fun h => h.2.2.2.2.2.1) e5)
    have z1 : (bd == 0) = false := by simpa using e5
    clear e5
    have HH_ := H; obtain ⟨s0, s1, s2, s3, s4, s5, s6, s7, s8, _⟩ := HH_
    go_wp2
    go_ret
    exact ⟨ret_bool hbf.out.symm, q0⟩
  subst e5
  cases st with
  | true =>
    have hbf := hid (NF.out (fun h => h.2.2.2.2.2.2) (by simp))
    have HH_ := H; obtain ⟨s0, s1, s2, s3, s4, s5, s6, s7, s8, _⟩ := HH_
    go_wp2
    go_ret
    exact ⟨ret_bool hbf.out.symm, q0⟩
  | false =>
  have hbf := hid (HY.out ⟨HA.out, HBW.out, rfl, rfl, rfl, rfl⟩)
  have HH_ := H; obtain ⟨s0, s1, s2, s3, s4, s5, s6, s7, s8, _⟩ := HH_
  go_wp2
  go_ret
  exact ⟨ret_bool hbf.out.symm, q0⟩
theorem of_at {n : Nat} {L : Sy} (hn : n ≤ 1048576) {t : Tm} (hF : Fits 1048576 t) {A B : Option Addr} {c d : Nat} {w : World} (hA : Syms w A n L) (hB : Kids 0 w t B) {r : Int} (h : sortT n L t = r) (W : World) (hb : Below w.heap.size w W) :
    Calls Try.prog 189 #[.agg #[.slice A n c], .agg #[.string t.nm, .slice B t.n d]] W fun e w' => e = .returned (.int .i64 r) ∧ Below W.heap.size W w' := by
  subst h; exact of_any n L hn t hF A B c d W (hA.below hb) (hB.below hb)
end Go.Proofs.Ytanfljajafelgaa

namespace Go.Proofs.Ytanfljajafelgaa
set_option linter.unusedVariables false
set_option linter.unusedSimpArgs false
open Go.RowKit
/-- the text of a term, empty if it is none -/
def tx (t : Tm) : ByteArray := ⟨(textT t).toArray⟩
theorem tx_well {t : Tm} (h : wellB t = true) : tx t = tb t := by unfold tx tb textT; rw [if_pos h]
/-- an addend: a term, where its parts begin, room for how many, and how many times it is taken -/
structure Ad where
  t : Tm
  a : Option Addr
  c : Nat
  z : Int
instance adInhabited : Inhabited Ad := ⟨⟨.bad, none, 0, 0⟩⟩
def Ad.cells (x : Ad) : List Value := [.string (tx x.t), .string x.t.nm, .slice x.a x.t.n x.c, .int .i64 x.z]
def flatD : List Ad → List Value
  | [] => []
  | x :: r => x.cells ++ flatD r
theorem flatD_app : ∀ S T : List Ad, flatD (S ++ T) = flatD S ++ flatD T
  | [], _ => rfl
  | x :: r, T => by simp [flatD, flatD_app r T]
theorem flatD_len : ∀ S : List Ad, (flatD S).length = S.length * 4
  | [] => rfl
  | x :: r => by simp [flatD, flatD_len r, Ad.cells]; omega
theorem flatD_at : ∀ (S : List Ad) (i j : Nat), i < S.length → j < 4 → (flatD S)[i * 4 + j]? = (S.getD i default).cells[j]?
  | [], i, j, h, _ => absurd h (Nat.not_lt_zero _)
  | x :: r, 0, j, _, hj => by
    simp only [flatD, List.getD_cons_zero]
    rw [List.getElem?_append_left (by simp [Ad.cells]; omega)]
    simp
  | x :: r, i + 1, j, h, hj => by
    have := flatD_at r i j (by simpa using h) hj
    simp only [flatD, List.getD_cons_succ]
    rw [List.getElem?_append_right (by simp [Ad.cells]; omega), show (i + 1) * 4 + j - x.cells.length = i * 4 + j by simp [Ad.cells]; omega]
    exact this
theorem flatD_drop : ∀ (S : List Ad) (k : Nat), flatD (S.drop k) = (flatD S).drop (k * 4)
  | [], k => by simp [flatD]
  | x :: r, 0 => by simp
  | x :: r, k + 1 => by
    rw [List.drop_succ_cons, flatD_drop r k, show (k + 1) * 4 = k * 4 + 4 by omega]
    simp [flatD, Ad.cells]
/-- one stands before another -/
def Lt (x y : Ad) : Prop := Op.bytesLess (tx x.t).toList (tx y.t).toList = true
/-- an addend merged into a list that ascends -/
def ins : List Ad → Ad → List Ad
  | [], y => [y]
  | x :: r, y => if cmpI (tx x.t) (tx y.t) = -1 then x :: ins r y else if cmpI (tx x.t) (tx y.t) = 1 then y :: x :: r else if IntKind.i64.wrap (x.z + y.z) ≠ 0 then { x with z := IntKind.i64.wrap (x.z + y.z) } :: r else r
theorem cmpI_or (a b : ByteArray) : cmpI a b = -1 ∨ cmpI a b = 0 ∨ cmpI a b = 1 := by
  unfold cmpI; split
  · exact .inl rfl
  · split
    · exact .inr (.inl rfl)
    · exact .inr (.inr rfl)
theorem lt_iff {x y : Ad} : cmpI (tx x.t) (tx y.t) = -1 ↔ Lt x y := by
  unfold Lt; rw [← cmpI_neg]
  rcases cmpI_or (tx x.t) (tx y.t) with h | h | h <;> rw [h] <;> simp
theorem gt_lt {x y : Ad} (h : cmpI (tx x.t) (tx y.t) = 1) : Lt y x := by
  unfold Lt
  cases e : Op.bytesLess (tx y.t).toList (tx x.t).toList
  · have h1 : Op.bytesLess (tx x.t).toList (tx y.t).toList = false := by
      cases e1 : Op.bytesLess (tx x.t).toList (tx y.t).toList
      · rfl
      · rw [cmpI, if_pos e1] at h; cases h
    have := bl_tri h1 e
    rw [cmpI, h1, if_neg (by simp), if_pos this] at h; cases h
  · rfl
theorem ins_skip : ∀ (P R : List Ad) (y : Ad), (∀ p, p ∈ P → Lt p y) → ins (P ++ R) y = P ++ ins R y
  | [], R, y, _ => rfl
  | p :: P, R, y, h => by
    rw [List.cons_append, ins, if_pos (lt_iff.2 (h p (List.mem_cons_self ..))), ins_skip P R y (fun q hq => h q (List.mem_cons_of_mem _ hq))]
    rfl
theorem ins_end (P : List Ad) (y : Ad) (h : ∀ p, p ∈ P → Lt p y) : ins P y = P ++ [y] := by
  have := ins_skip P [] y h
  rwa [List.append_nil] at this
theorem ins_mem : ∀ (X : List Ad) (y e : Ad), e ∈ ins X y → (∃ x, x ∈ X ∧ e.t = x.t ∧ e.a = x.a ∧ e.c = x.c) ∨ e = y
  | [], y, e, h => by simp only [ins, List.mem_singleton] at h; exact .inr h
  | x :: r, y, e, h => by
    rw [ins] at h
    split at h
    · rcases List.mem_cons.1 h with h | h
      · exact .inl ⟨x, List.mem_cons_self .., by rw [h], by rw [h], by rw [h]⟩
      · rcases ins_mem r y e h with ⟨q, hq, h1⟩ | h1
        · exact .inl ⟨q, List.mem_cons_of_mem _ hq, h1⟩
        · exact .inr h1
    · split at h
      · rcases List.mem_cons.1 h with h | h
        · exact .inr h
        · exact .inl ⟨e, h, rfl, rfl, rfl⟩
      · split at h
        · rcases List.mem_cons.1 h with h | h
          · exact .inl ⟨x, List.mem_cons_self .., by rw [h], by rw [h], by rw [h]⟩
          · exact .inl ⟨e, List.mem_cons_of_mem _ h, rfl, rfl, rfl⟩
        · exact .inl ⟨e, List.mem_cons_of_mem _ h, rfl, rfl, rfl⟩
theorem ins_len : ∀ (X : List Ad) (y : Ad), (ins X y).length ≤ X.length + 1
  | [], y => by simp [ins]
  | x :: r, y => by
    have := ins_len r y
    rw [ins]
    split
    · simp only [List.length_cons]; omega
    · split
      · simp only [List.length_cons]; omega
      · split
        · simp only [List.length_cons]; omega
        · simp only [List.length_cons]; omega
/-- how many terms there are in a list -/
def szD : List Ad → Nat
  | [] => 0
  | x :: r => tSz x.t + szD r
theorem ins_sz : ∀ (X : List Ad) (y : Ad), szD (ins X y) ≤ szD X + tSz y.t
  | [], y => by simp [ins, szD]
  | x :: r, y => by
    have := ins_sz r y
    rw [ins]
    split
    · simp only [szD]; omega
    · split
      · simp only [szD]; omega
      · split
        · simp only [szD]; omega
        · simp only [szD]; omega
/-- a list ascends -/
def Asc (X : List Ad) : Prop := X.Pairwise Lt
theorem lt_trans' {x y z : Ad} (h1 : Lt x y) (h2 : Lt y z) : Lt x z := bl_trans h1 h2
theorem lt_of_eq {x y z : Ad} (h : (tx x.t).toList = (tx y.t).toList) (h2 : Lt y z) : Lt x z := by unfold Lt at *; rw [h]; exact h2
theorem ins_asc : ∀ (X : List Ad) (y : Ad), Asc X → Asc (ins X y)
  | [], y, _ => by simp [ins, Asc]
  | x :: r, y, h => by
    obtain ⟨h1, h2⟩ := List.pairwise_cons.1 h
    rw [ins]
    split
    · rename_i hl
      refine List.pairwise_cons.2 ⟨fun e he => ?_, ins_asc r y h2⟩
      rcases ins_mem r y e he with ⟨q, hq, ht, _⟩ | he
      · have := h1 q hq; unfold Lt at *; rw [ht]; exact this
      · rw [he]; exact lt_iff.1 hl
    · rename_i hl
      split
      · rename_i hg
        refine List.pairwise_cons.2 ⟨fun e he => ?_, h⟩
        rcases List.mem_cons.1 he with he | he
        · rw [he]; exact gt_lt hg
        · exact lt_trans' (gt_lt hg) (h1 e he)
      · split
        · exact List.pairwise_cons.2 ⟨fun e he => h1 e he, h2⟩
        · exact h2
/-- the sum of the first k -/
def sumD (f : Nat → Ad) : Nat → List Ad
  | 0 => []
  | k + 1 => ins (sumD f k) (f k)
theorem sumD_asc (f : Nat → Ad) : ∀ k, Asc (sumD f k)
  | 0 => List.Pairwise.nil
  | k + 1 => ins_asc _ _ (sumD_asc f k)
theorem sumD_len (f : Nat → Ad) : ∀ k, (sumD f k).length ≤ k
  | 0 => Nat.le_refl _
  | k + 1 => by have := sumD_len f k; have := ins_len (sumD f k) (f k); rw [sumD]; omega
theorem sumD_mem (f : Nat → Ad) : ∀ (k : Nat) (e : Ad), e ∈ sumD f k → ∃ j, j < k ∧ e.t = (f j).t ∧ e.a = (f j).a ∧ e.c = (f j).c
  | 0, e, h => by simp [sumD] at h
  | k + 1, e, h => by
    rcases ins_mem _ _ e h with ⟨x, hx, h1, h2, h3⟩ | h
    · obtain ⟨j, hj, g1, g2, g3⟩ := sumD_mem f k x hx
      exact ⟨j, by omega, h1.trans g1, h2.trans g2, h3.trans g3⟩
    · exact ⟨k, by omega, by rw [h], by rw [h], by rw [h]⟩
theorem sumD_sz (f : Nat → Ad) : ∀ k, szD (sumD f k) ≤ sumT k (fun j => tSz (f j).t)
  | 0 => by simp [sumD, szD]
  | k + 1 => by have := sumD_sz f k; have := ins_sz (sumD f k) (f k); rw [sumD, sumT]; omega
theorem adlt_far {f : Nat → Ad} {n : Nat} (h : ∀ k, k + 1 < n → Lt (f k) (f (k + 1))) : ∀ d i, i + d + 1 < n → Lt (f i) (f (i + d + 1))
  | 0, i, hi => h i hi
  | d + 1, i, hi => lt_trans' (adlt_far h d i (by omega)) (h (i + d + 1) (by omega))
/-- what ascends is its own sum -/
theorem sumD_self {f : Nat → Ad} {n : Nat} (h : ∀ k, k + 1 < n → Lt (f k) (f (k + 1))) : ∀ k, k ≤ n → (sumD f k).length = k ∧ ∀ i, i < k → (sumD f k).getD i default = f i
  | 0, _ => ⟨rfl, fun i hi => absurd hi (Nat.not_lt_zero _)⟩
  | k + 1, hk => by
    obtain ⟨h1, h2⟩ := sumD_self h k (by omega)
    have hE : sumD f (k + 1) = sumD f k ++ [f k] := by
      rw [sumD]
      refine ins_end _ _ (fun p hp => ?_)
      obtain ⟨i, hi, he⟩ := List.getElem_of_mem hp
      have hg := h2 i (by omega)
      rw [List.getD_eq_getElem?_getD, List.getElem?_eq_getElem hi, Option.getD_some, he] at hg
      rw [hg]
      have := adlt_far h (k - i - 1) i (by omega)
      rwa [show i + (k - i - 1) + 1 = k by omega] at this
    rw [hE]
    refine ⟨by rw [List.length_append, h1]; rfl, fun i hi => ?_⟩
    by_cases e : i < k
    · rw [List.getD_eq_getElem?_getD, List.getElem?_append_left (by omega), ← List.getD_eq_getElem?_getD]; exact h2 i e
    · have e : i = k := by omega
      subst e
      rw [List.getD_eq_getElem?_getD, List.getElem?_append_right (by omega), h1]; simp
theorem asc_at {X : List Ad} (h : Asc X) {i : Nat} (hi : i + 1 < X.length) : Lt (X.getD i default) (X.getD (i + 1) default) := by
  have := List.pairwise_iff_getElem.1 h i (i + 1) (by omega) hi (by omega)
  rw [List.getD_eq_getElem?_getD, List.getD_eq_getElem?_getD, List.getElem?_eq_getElem (by omega), List.getElem?_eq_getElem hi]
  exact this
end Go.Proofs.Ytanfljajafelgaa

namespace Go.Proofs.Ytanfljajafelgaa
set_option linter.unusedVariables false
set_option linter.unusedSimpArgs false
open Go.RowKit
theorem infoAd : (Try.prog.info? 344).map (fun i => (i.zero, i.size, i.bytes)) = some (some (.agg #[.string ⟨#[]⟩, .string ⟨#[]⟩, .slice none 0 0, .int .i64 0]), 4, 64) := by kernel_rfl
/-- the cells of addends lie in block g -/
def CellsD (w : World) (g : Nat) (X : List Ad) : Prop :=
  ∀ i, i < X.length → w.cell? ⟨g, i * 4, none⟩ = some (.string (tx (X.getD i default).t)) ∧ w.cell? ⟨g, i * 4 + 1, none⟩ = some (.string (X.getD i default).t.nm) ∧ w.cell? ⟨g, i * 4 + 2, none⟩ = some (.slice (X.getD i default).a (X.getD i default).t.n (X.getD i default).c) ∧ w.cell? ⟨g, i * 4 + 3, none⟩ = some (.int .i64 (X.getD i default).z)
theorem CellsD.below {w w' : World} {g : Nat} {X : List Ad} (hb : Below w.heap.size w w') (h : CellsD w g X) : CellsD w' g X := fun i hi =>
  ⟨carry hb (h i hi).1, carry hb (h i hi).2.1, carry hb (h i hi).2.2.1, carry hb (h i hi).2.2.2⟩
/-- the cells, one by one, from the k-th addend on -/
theorem CellsD.flat {w : World} {g : Nat} {X : List Ad} (h : CellsD w g X) (k : Nat) : ∀ j u, (flatD (X.drop k))[j]? = some u → w.cell? ((⟨g, k * 4, none⟩ : Addr).add j) = some u := by
  intro j u hj
  rw [flatD_drop, List.getElem?_drop] at hj
  have hlt : k * 4 + j < X.length * 4 := by
    have := (List.getElem?_eq_some_iff.1 hj).1
    rwa [flatD_len] at this
  have hi : (k * 4 + j) / 4 < X.length := by omega
  have hm : (k * 4 + j) % 4 < 4 := Nat.mod_lt _ (by omega)
  have e := flatD_at X ((k * 4 + j) / 4) ((k * 4 + j) % 4) hi hm
  rw [show (k * 4 + j) / 4 * 4 + (k * 4 + j) % 4 = k * 4 + j by omega] at e
  rw [e] at hj
  obtain ⟨c0, c1, c2, c3⟩ := h _ hi
  have hq : (⟨g, k * 4, none⟩ : Addr).add j = ⟨g, (k * 4 + j) / 4 * 4 + (k * 4 + j) % 4, none⟩ := by
    rw [show (k * 4 + j) / 4 * 4 + (k * 4 + j) % 4 = k * 4 + j by omega]
    unfold Addr.add
    by_cases e0 : j = 0
    · subst e0; simp
    · simp [e0]
  rw [hq]
  have h4 : (k * 4 + j) % 4 = 0 ∨ (k * 4 + j) % 4 = 1 ∨ (k * 4 + j) % 4 = 2 ∨ (k * 4 + j) % 4 = 3 := by omega
  rcases h4 with h4 | h4 | h4 | h4 <;> rw [h4] at hj ⊢ <;> simp [Ad.cells] at hj <;> subst hj
  · exact c0
  · exact c1
  · exact c2
  · exact c3
theorem flat_one (X : List Ad) : ∀ u ∈ flatD X, u.oneCell' = true := by
  induction X with
  | nil => intro u hu; simp [flatD] at hu
  | cons x r ih =>
    intro u hu
    simp only [flatD, Ad.cells, List.mem_append, List.mem_cons, List.not_mem_nil, or_false] at hu
    rcases hu with (rfl | rfl | rfl | rfl) | hu
    · rfl
    · rfl
    · rfl
    · rfl
    · exact ih u hu
/-- a row of one's own is read -/
theorem own_cellsD {w : World} {base : Nat} {v : Value} {X : List Ad} (h : w.ownsRow base 344 4 v X.length (flatD X)) :
    (X = [] ∧ v = .slice none 0 0) ∨ ∃ g cap, v = .slice (some ⟨g, 0, none⟩) X.length cap ∧ base ≤ g ∧ g < w.heap.size ∧ X.length ≤ cap ∧ cap ≤ maxLen ∧ CellsD w g X := by
  obtain ⟨hl, ⟨rfl, h0⟩ | ⟨g, cap, cur, rfl, hg, hh, h1, h2, h3, h4⟩⟩ := h
  · exact .inl ⟨List.eq_nil_of_length_eq_zero h0, rfl⟩
  · refine .inr ⟨g, cap, rfl, hg, (Array.getElem?_eq_some_iff.1 hh).1, h1, h2, fun i hi => ?_⟩
    have hc : ∀ j, j < 4 → cur[i * 4 + j]? = (X.getD i default).cells[j]? := fun j hj => by
      have e := flatD_at X i j hi hj
      rw [← h4, List.getElem?_take_of_lt (by omega), Array.getElem?_toList] at e
      exact e
    have hcell : ∀ j u, cur[i * 4 + j]? = some u → w.cell? ⟨g, i * 4 + j, none⟩ = some u := fun j u hu => by
      simp [World.cell?, hh, hu]
    refine ⟨?_, ?_, ?_, ?_⟩
    · exact hcell 0 _ ((hc 0 (by omega)).trans rfl)
    · exact hcell 1 _ ((hc 1 (by omega)).trans rfl)
    · exact hcell 2 _ ((hc 2 (by omega)).trans rfl)
    · exact hcell 3 _ ((hc 3 (by omega)).trans rfl)
theorem own_sl {w : World} {base n size : Nat} {e : TypeId} {v : Value} {xs : List Value} (h : w.ownsRow base e size v n xs) : ∃ a c, v = .slice a n c := by
  obtain ⟨_, ⟨rfl, rfl⟩ | ⟨g, cap, cur, rfl, _⟩⟩ := h
  · exact ⟨_, _, rfl⟩
  · exact ⟨_, _, rfl⟩
theorem cmpD_at {x y : Ad} {v : Int} (h : cmpI (tx x.t) (tx y.t) = v) (w : World) : Calls Try.prog 238 #[.string (tx x.t), .string (tx y.t)] w fun e w' => e = .returned (.int .i64 v) ∧ Below w.heap.size w w' :=
  (cmp_at h w).mono (by rintro e w' ⟨rfl, rfl⟩; exact ⟨rfl, Below.refl _ _⟩)
end Go.Proofs.Ytanfljajafelgaa

namespace Go.Proofs.Ytanfljajafelgaa
set_option linter.unusedVariables false
set_option linter.unusedSimpArgs false
open Go.RowKit
theorem run_slD {o : Oper} {x : Operand} (ho : o.op = .slice 296 x (some (.const (.int .i64 1))) none none) {a : Act} {g p n c : Nat} (hx : a.eval x = .slice (some ⟨g, p, none⟩) n c) (hn : 1 ≤ n) (w : World) :
    (execOp a.eval o).run Try.prog w = .ok (.value (.slice (if c = 1 then some ⟨g, p, none⟩ else some ⟨g, p + 4, none⟩) (n - 1) (c - 1))) w := by
  unfold execOp
  rw [ho]
  simp only [Option.map_some, Option.map_none, hx]
  simp [go_sem]
  intro h; omega
def lenS : Value → Nat
  | .slice _ n _ => n
  | _ => 0
theorem take_next {X : List Ad} {k : Nat} (hk : k < X.length) : X.take (k + 1) = X.take k ++ [X.getD k default] := by
  rw [List.take_add_one, List.getD_eq_getElem?_getD, List.getElem?_eq_getElem hk]; rfl
theorem drop_this {X : List Ad} {k : Nat} (hk : k < X.length) : X.drop k = X.getD k default :: X.drop (k + 1) := by
  rw [List.drop_eq_getElem_cons hk, List.getD_eq_getElem?_getD, List.getElem?_eq_getElem hk]; rfl
theorem ins_this {X : List Ad} {y : Ad} {k : Nat} (hk : k < X.length) (h : ∀ p, p ∈ X.take k → Lt p y) : ins X y = X.take k ++ ins (X.getD k default :: X.drop (k + 1)) y := by
  rw [← drop_this hk, ← ins_skip _ _ _ h, List.take_append_drop]
theorem ins_gt {X : List Ad} {y : Ad} {k : Nat} (hk : k < X.length) (h : ∀ p, p ∈ X.take k → Lt p y) (hc : cmpI (tx (X.getD k default).t) (tx y.t) = 1) : (X.take k ++ [y]) ++ X.drop k = ins X y := by
  rw [ins_this hk h, ins, if_neg (by rw [hc]; decide), if_pos hc, drop_this hk, List.append_assoc]; rfl
theorem ins_eq {X : List Ad} {y : Ad} {k : Nat} (hk : k < X.length) (h : ∀ p, p ∈ X.take k → Lt p y) (hc : cmpI (tx (X.getD k default).t) (tx y.t) = 0) {z : Int} (hz : IntKind.i64.wrap ((X.getD k default).z + y.z) = z) :
    (z ≠ 0 → (X.take k ++ [{ X.getD k default with z := z }]) ++ X.drop (k + 1) = ins X y) ∧ (z = 0 → X.take k ++ X.drop (k + 1) = ins X y) := by
  subst hz
  refine ⟨fun h0 => ?_, fun h0 => ?_⟩
  · rw [ins_this hk h, ins, if_neg (by rw [hc]; decide), if_neg (by rw [hc]; decide), if_pos h0, List.append_assoc]; rfl
  · rw [ins_this hk h, ins, if_neg (by rw [hc]; decide), if_neg (by rw [hc]; decide), if_neg (by simpa using h0)]
theorem new4 (w : World) (x0 x1 x2 x3 : Value) (t : TypeId) : ∀ (j : Nat) (u : Value), ([x0, x1, x2, x3] : List Value)[j]? = some u → (w.alloc (.cells #[x0, x1, x2, x3] t)).cell? ((⟨w.heap.size, 0, none⟩ : Addr).add j) = some u := by
  intro j u h
  match j with
  | 0 => simp at h; subst h; simp [go_sem, Addr.add]
  | 1 => simp at h; subst h; simp [go_sem, Addr.add]
  | 2 => simp at h; subst h; simp [go_sem, Addr.add]
  | 3 => simp at h; subst h; simp [go_sem, Addr.add]
  | j + 4 => simp at h
theorem one4 (x : Ad) : ∀ u ∈ x.cells, u.oneCell' = true := fun u hu => by
  simp only [Ad.cells, List.mem_cons, List.not_mem_nil, or_false] at hu
  rcases hu with rfl | rfl | rfl | rfl <;> rfl
theorem own_low0 {w : World} {base n size : Nat} {e : TypeId} {v : Value} {xs : List Value} (h : w.ownsRow base e size v n xs) {g : Nat} (hg : v.ownBlock = some g) : base ≤ g := by
  obtain ⟨_, ⟨rfl, _⟩ | ⟨g', cap, cur, rfl, h2, _⟩⟩ := h
  · simp [Value.ownBlock] at hg
  · simp only [Value.ownBlock, Option.some.injEq] at hg
    omega
theorem own_eq {w : World} {base n n' size : Nat} {e : TypeId} {v : Value} {xs xs' : List Value} (h : w.ownsRow base e size v n xs) (hn : n = n') (hx : xs = xs') : w.ownsRow base e size v n' xs' := by subst hn; subst hx; exact h
theorem own_lt0 {w : World} {base n size : Nat} {e : TypeId} {v : Value} {xs : List Value} (h : w.ownsRow base e size v n xs) {g : Nat} (hg : v.ownBlock = some g) : g < w.heap.size := by
  obtain ⟨_, ⟨rfl, _⟩ | ⟨g', cap, cur, rfl, h2, hh, _⟩⟩ := h
  · simp [Value.ownBlock] at hg
  · simp only [Value.ownBlock, Option.some.injEq] at hg
    subst hg
    exact (Array.getElem?_eq_some_iff.1 hh).1
theorem below_grow {w u w6 : World} {v : Value} (hb : Below w.heap.size w u) (hg : u.grownBy w6 v.ownBlock) (h : ∀ g, v.ownBlock = some g → w.heap.size ≤ g) : Below w.heap.size w w6 :=
  ⟨hg.os.trans hb.os, hg.tape.trans hb.tape, hg.output.trans hb.output, Nat.le_trans hb.size hg.size, fun j hj => (hg.block j (Nat.lt_of_lt_of_le hj hb.size) (fun e => by have := h _ e.symm; omega)).trans (hb.block j hj)⟩
set_option maxRecDepth 100000 in
set_option maxHeartbeats 8000000 in
theorem sumplus_any (X : List Ad) (y : Ad) (sa : Option Addr) (cap b : Nat) (w : World) (hX : (X = [] ∧ sa = none ∧ cap = 0) ∨ ∃ g, sa = some ⟨g, 0, none⟩ ∧ CellsD w g X) (hc : X.length ≤ cap) (hl : X.length ≤ 1000) (hB : CellsD w b [y]) :
    Calls Try.prog 218 #[.slice sa X.length cap, .slice (some ⟨b, 0, none⟩) 1 1] w fun e w' => ∃ v, e = .returned v ∧ w'.ownsRow w.heap.size 344 4 v (ins X y).length (flatD (ins X y)) ∧ Below w.heap.size w w' := by
  obtain ⟨i0, hi, hz0, hz1, hz2⟩ := info_parts infoAd
  obtain ⟨b0, b1, b2, b3⟩ := hB 0 (by simp)
  simp only [Nat.zero_mul, Nat.zero_add, List.getD_cons_zero] at b0 b1 b2 b3
  have hBw := hid hB
  clear hB
  go_enter Try.func218, Try.ntmps218
  go_wp2
  go_loopw [0, 1, 5] (fun sv bv mv wr => ∃ (k : Nat) (M : List Ad) (s1 : Option Addr), k ≤ X.length ∧ Below w.heap.size w wr ∧ wr.ownsRow w.heap.size 344 4 mv M.length (flatD M) ∧ M.length ≤ k + 1 ∧ sv = .slice s1 (X.length - k) (cap - k) ∧ (k < X.length → ∃ g, sa = some ⟨g, 0, none⟩ ∧ s1 = some ⟨g, k * 4, none⟩) ∧ (s1 = none → cap = 0) ∧ ((bv = .slice (some ⟨b, 0, none⟩) 1 1 ∧ M = X.take k ∧ ∀ p, p ∈ M → Lt p y) ∨ (bv = .slice (some ⟨b, 0, none⟩) 0 0 ∧ M ++ X.drop k = ins X y))) (fun sv bv _ _ => lenS sv + lenS bv)
  case atStart =>
    refine ⟨0, [], sa, Nat.zero_le _, Below.refl _ _, World.ownsRow_nil _ _ _ _, by simp, rfl, fun h => ?_, fun h => ?_, .inl ⟨rfl, rfl, fun p hp => by cases hp⟩⟩
    · rcases hX with ⟨h0, _⟩ | ⟨g, h0, _⟩
      · rw [h0] at h; simp at h
      · exact ⟨g, h0, by rw [h0]⟩
    · rcases hX with ⟨_, _, h0⟩ | ⟨g, h0, _⟩
      · exact h0
      · rw [h0] at h; cases h
  case round =>
    obtain ⟨k, M, s1, hk, hbr, ho, hM, rfl, hs, hs0, hph⟩ := hrel
    obtain ⟨ma, mc, hme⟩ := own_sl ho
    subst hme
    have HO := hid ho; clear ho
    have hlw : w.heap.size ≤ wr.heap.size := hbr.size
    have gb := Nat.lt_of_lt_of_le (cell_lt b0) hlw
    have B0 := carry hbr b0
    have B1 := carry hbr b1
    have B2 := carry hbr b2
    have B3 := carry hbr b3
    rcases hph with ⟨rfl, hMe, hPy⟩ | ⟨rfl, hMe⟩
    rotate_left
    · skip
      by_cases hlt : k < X.length
      · obtain ⟨g, hsa, rfl⟩ := hs hlt
        have hXc : CellsD w g X := by
          rcases hX with ⟨h0, _⟩ | ⟨g', h0, h1⟩
          · rw [h0] at hlt; simp at hlt
          · rw [hsa] at h0; injection h0 with h0; injection h0 with h0; rw [h0]; exact h1
        have HX := hid hXc; clear hXc hX hs
        have hML : M.length ≤ 1001 := by omega
        obtain ⟨n, hn⟩ : ∃ n, X.length - k = n + 1 := ⟨X.length - k - 1, by omega⟩
        obtain ⟨q, hq⟩ : ∃ q, cap - k = q + 1 := ⟨cap - k - 1, by omega⟩
        rw [hn, hq]
        have d0 : decide ((0 : Int) < ((n + 1 : Nat) : Int)) = true := by simp
        go_wp2_with (first | (at_builtin; go_loud (refine wpList_append_own_at _ rfl _ _ 296 rfl w.heap.size 344 i0 _ 4 64 Try.underlying296 hi hz0 hz1 hz2 rfl (by decide) (.slice ma M.length mc) M.length (flatD M) rfl HO.out ⟨g, k * 4, none⟩ (n + 1) (q + 1) (flatD (X.drop k)) rfl (by rw [flatD_len, List.length_drop, hn]) ((HX.out.below hbr).flat k) (flat_one _) (by unfold maxLen; omega) (by omega) hlw ?_); intro v6 w6 hown6 hgrow6 _ _; obtain ⟨a6, c6, rfl⟩ := own_sl hown6; have hb6 := below_grow hbr hgrow6 (fun g e => own_low0 HO.out e)) | (at_builtin; go_loud (refine wpList_append_own_at _ rfl _ _ 296 rfl w.heap.size 344 i0 _ 4 64 Try.underlying296 hi hz0 hz1 hz2 rfl (by decide) (.slice a6 (M.length + (n + 1)) c6) (M.length + (n + 1)) (flatD M ++ flatD (X.drop k)) rfl hown6 ⟨b, 0, none⟩ 0 0 [] rfl rfl (fun j u h => by simp at h) (fun u h => by cases h) (by unfold maxLen; omega) (by omega) hb6.size ?_); intro v7 w7 hown7 hgrow7 _ _; have hb7 := below_grow hb6 hgrow7 (fun g e => own_low0 hown6 e)))
        go_ret
        exact ⟨_, rfl, own_eq hown7 (by rw [← hMe, List.length_append, List.length_drop]; omega) (by rw [← hMe, flatD_app]; simp), hb7⟩
      have hke : k = X.length := by omega
      have hML : M.length ≤ 1001 := by omega
      have hdr : X.drop k = [] := by rw [hke]; simp
      rw [show X.length - k = 0 by omega]
      have HMe := hid (show M = ins X y by rw [← hMe, hdr, List.append_nil]); clear hX hs hke hMe hdr
      cases s1 with
      | none =>
        have h0 := hs0 rfl
        rw [show cap - k = 0 by omega]
        go_wp2_with (first | (at_builtin; go_loud (refine wpList_append_none rfl _ _ 296 rfl w.heap.size 344 i0 4 Try.underlying296 hi (.slice ma M.length mc) M.length (flatD M) rfl HO.out rfl ?_)) | (at_builtin; go_loud (refine wpList_append_own_at _ rfl _ _ 296 rfl w.heap.size 344 i0 _ 4 64 Try.underlying296 hi hz0 hz1 hz2 rfl (by decide) (.slice ma M.length mc) M.length (flatD M) rfl HO.out ⟨b, 0, none⟩ 0 0 [] rfl rfl (fun j u h => by simp at h) (fun u h => by cases h) (by unfold maxLen; omega) (by omega) hbr.size ?_); intro v7 w7 hown7 hgrow7 _ _; have hb7 := below_grow hbr hgrow7 (fun g e => own_low0 HO.out e)))
        go_ret
        exact ⟨_, rfl, own_eq hown7 (by rw [← HMe.out]; simp) (by rw [← HMe.out]; simp), hb7⟩
      | some ad =>
        go_wp2_with (first | (at_builtin; go_loud (refine wpList_append_own_at _ rfl _ _ 296 rfl w.heap.size 344 i0 _ 4 64 Try.underlying296 hi hz0 hz1 hz2 rfl (by decide) (.slice ma M.length mc) M.length (flatD M) rfl HO.out ad 0 (cap - k) [] rfl rfl (fun j u h => by simp at h) (fun u h => by cases h) (by unfold maxLen; omega) (by omega) hlw ?_); intro v6 w6 hown6 hgrow6 _ _; obtain ⟨a6, c6, rfl⟩ := own_sl hown6; have hb6 := below_grow hbr hgrow6 (fun g e => own_low0 HO.out e)) | (at_builtin; go_loud (refine wpList_append_own_at _ rfl _ _ 296 rfl w.heap.size 344 i0 _ 4 64 Try.underlying296 hi hz0 hz1 hz2 rfl (by decide) (.slice a6 (M.length + 0) c6) (M.length + 0) (flatD M ++ []) rfl hown6 ⟨b, 0, none⟩ 0 0 [] rfl rfl (fun j u h => by simp at h) (fun u h => by cases h) (by unfold maxLen; omega) (by omega) hb6.size ?_); intro v7 w7 hown7 hgrow7 _ _; have hb7 := below_grow hb6 hgrow7 (fun g e => own_low0 hown6 e)))
        go_ret
        exact ⟨_, rfl, own_eq hown7 (by rw [← HMe.out]; simp) (by rw [← HMe.out]; simp), hb7⟩
    by_cases hlt : k < X.length
    rotate_left
    · skip
      have hke : k = X.length := by omega
      have hML : M.length ≤ 1001 := by omega
      have hMX : M = X := by rw [hMe, hke, List.take_length]
      have hIn := hid (show ins X y = M ++ [y] by rw [hMX]; exact ins_end X y (hMX ▸ hPy))
      rw [show X.length - k = 0 by omega]
      clear hX hs hke hMX hMe hPy
      cases s1 with
      | none =>
        have h0 := hs0 rfl
        rw [show cap - k = 0 by omega]
        go_wp2_with (first | (at_builtin; go_loud (refine wpList_append_none rfl _ _ 296 rfl w.heap.size 344 i0 4 Try.underlying296 hi (.slice ma M.length mc) M.length (flatD M) rfl HO.out rfl ?_)) | (at_builtin; go_loud (refine wpList_append_own_at _ rfl _ _ 296 rfl w.heap.size 344 i0 _ 4 64 Try.underlying296 hi hz0 hz1 hz2 rfl (by decide) (.slice ma M.length mc) M.length (flatD M) rfl HO.out ⟨b, 0, none⟩ 1 1 (flatD [y]) rfl rfl (by have hz := (hBw.out.below hbr).flat 0; simpa using hz) (flat_one _) (by unfold maxLen; omega) (by omega) hbr.size ?_); intro v7 w7 hown7 hgrow7 _ _; have hb7 := below_grow hbr hgrow7 (fun g e => own_low0 HO.out e)))
        go_ret
        exact ⟨_, rfl, own_eq hown7 (by rw [hIn.out]; simp) (by rw [hIn.out, flatD_app]), hb7⟩
      | some ad =>
        go_wp2_with (first | (at_builtin; go_loud (refine wpList_append_own_at _ rfl _ _ 296 rfl w.heap.size 344 i0 _ 4 64 Try.underlying296 hi hz0 hz1 hz2 rfl (by decide) (.slice ma M.length mc) M.length (flatD M) rfl HO.out ad 0 (cap - k) [] rfl rfl (fun j u h => by simp at h) (fun u h => by cases h) (by unfold maxLen; omega) (by omega) hlw ?_); intro v6 w6 hown6 hgrow6 _ _; obtain ⟨a6, c6, rfl⟩ := own_sl hown6; have hb6 := below_grow hbr hgrow6 (fun g e => own_low0 HO.out e)) | (at_builtin; go_loud (refine wpList_append_own_at _ rfl _ _ 296 rfl w.heap.size 344 i0 _ 4 64 Try.underlying296 hi hz0 hz1 hz2 rfl (by decide) (.slice a6 (M.length + 0) c6) (M.length + 0) (flatD M ++ []) rfl hown6 ⟨b, 0, none⟩ 1 1 (flatD [y]) rfl rfl (by have hz := (hBw.out.below hb6).flat 0; simpa using hz) (flat_one _) (by unfold maxLen; omega) (by omega) hb6.size ?_); intro v7 w7 hown7 hgrow7 _ _; have hb7 := below_grow hb6 hgrow7 (fun g e => own_low0 hown6 e)))
        go_ret
        exact ⟨_, rfl, own_eq hown7 (by rw [hIn.out]; simp) (by rw [hIn.out, flatD_app]; simp), hb7⟩
    obtain ⟨g, hsa, rfl⟩ := hs hlt
    have hXc : CellsD w g X := by
      rcases hX with ⟨h0, _⟩ | ⟨g', h0, h1⟩
      · rw [h0] at hlt; simp at hlt
      · rw [hsa] at h0; injection h0 with h0; injection h0 with h0; rw [h0]; exact h1
    obtain ⟨x0, x1, x2, x3⟩ := hXc k hlt
    have HX := hid hXc; clear hXc hX hs
    have gg := Nat.lt_of_lt_of_le (cell_lt x0) hlw
    have X0 := carry hbr x0
    have X1 := carry hbr x1
    have X2 := carry hbr x2
    have X3 := carry hbr x3
    generalize hx : X.getD k default = x at *
    obtain ⟨n, hn⟩ : ∃ n, X.length - k = n + 1 := ⟨X.length - k - 1, by omega⟩
    obtain ⟨q, hq⟩ : ∃ q, cap - k = q + 1 := ⟨cap - k - 1, by omega⟩
    rw [hn, hq]
    have d0 : decide ((0 : Int) < ((n + 1 : Nat) : Int)) = true := by simp
    obtain ⟨r, hr⟩ : ∃ r, cmpI (tx x.t) (tx y.t) = r := ⟨_, rfl⟩
    have gc := @gro_cell wr
    have hC := fun Y : Gro wr => cmpD_at hr (gro wr Y)
    go_upto_region 3 with fail
    refine wp_region_grow_lit (by kernel_rfl) (by kernel_rfl) ?_
    repeat (go_big_quiet_step ((go_at_call 238; exact grow_call _ (hC _))))
    refine wpQuiet_nil ?_
    rintro _ ⟨Y, rfl⟩
    clear gc
    have hY : Below wr.heap.size wr (gro wr Y) := Y.h
    replace hbr := btr hbr hY
    replace HO := hid (own_belowT hY HO.out)
    replace B0 := carry hY B0
    replace B1 := carry hY B1
    replace B2 := carry hY B2
    replace B3 := carry hY B3
    replace X0 := carry hY X0
    replace X1 := carry hY X1
    replace X2 := carry hY X2
    replace X3 := carry hY X3
    replace hlw := Nat.le_trans hlw hY.size
    replace gg := Nat.lt_of_lt_of_le gg hY.size
    replace gb := Nat.lt_of_lt_of_le gb hY.size
    generalize gro wr Y = W1 at *
    clear hY hC
    rcases cmpI_or (tx x.t) (tx y.t) with hr1 | hr1 | hr1
    · have e1 : r = -1 := hr.symm.trans hr1
      subst e1
      clear hr1
      go_upto_region 10 with fail
      have CD := hbr.drew
      refine region_planC (fun w' => Below w.heap.size w w') (.takes [0, 1, 2, 3, 6, 7] (.make 4 (.make 5 (.takes [8] .fin)))) 9 rfl (by kernel_rfl) (btr hbr (Below.refl _ _).drew) ?_
      clear CD
      refine plan_takes ?_; simp only [pickOps, List.getElem?_cons_zero, List.getElem?_cons_succ]
      refine quiet_doC rfl (.slice ma M.length mc) (fun w' hw' => by simp [execOp, go_sem]) ?_
      refine quiet_doC rfl (.slice (some ⟨g, k * 4, none⟩) (n + 1) (q + 1)) (fun w' hw' => by simp [execOp, go_sem]) ?_
      refine quiet_doC rfl (.pointer (some ⟨g, k * 4, none⟩)) (fun w' hw' => by simp [execOp, go_sem]) ?_
      refine quiet_doC rfl (.agg #[.string (tx x.t), .string x.t.nm, .slice x.a x.t.n x.c, .int .i64 x.z]) (fun w' hw' => by have z0 := carry hw' x0; have z1 := carry hw' x1; have z2 := carry hw' x2; have z3 := carry hw' x3; simp [execOp, go_sem, z0, z1, z2, z3]) ?_
      refine quiet_doC rfl (.slice (some ⟨g, k * 4, none⟩) (n + 1) (q + 1)) (fun w' hw' => by simp [execOp, go_sem]) ?_
      refine quiet_doC rfl (.slice (if q + 1 = 1 then some ⟨g, k * 4, none⟩ else some ⟨g, k * 4 + 4, none⟩) (n + 1 - 1) (q + 1 - 1)) (fun w' hw' => by exact run_slD rfl (by kernel_rfl) (by omega) w') ?_
      refine wpQuiet_nil ?_
      have CB := hbr.drew
      have hlu : w.heap.size ≤ W1.drew.heap.size := CB.size
      have HOu := hid (own_belowT (Below.refl W1.heap.size W1).drew HO.out)
      have b0' := carry (Below.refl W1.heap.size W1).drew B0
      generalize W1.drew = u at *
      have CX := bal (Below.refl u.heap.size u) (.cells #[.string (tx x.t), .string x.t.nm, .slice x.a x.t.n x.c, .int .i64 x.z] 344)
      refine planC_val rfl rfl (.slice (some ⟨u.heap.size, 0, none⟩) 1 1) (w'' := u.alloc (.cells #[.string (tx x.t), .string x.t.nm, .slice x.a x.t.n x.c, .int .i64 x.z] 344)) (by simp [execOp, go_sem]) (btr CB CX) ?_
      have hown0 := own_belowT CX HOu.out
      have hlog : w.heap.size ≤ (u.alloc (.cells #[.string (tx x.t), .string x.t.nm, .slice x.a x.t.n x.c, .int .i64 x.z] 344)).heap.size := Nat.le_trans hlu CX.size
      have hnews := new4 u (.string (tx x.t)) (.string x.t.nm) (.slice x.a x.t.n x.c) (.int .i64 x.z) 344
      refine planC_append rfl rfl _ _ 296 rfl w.heap.size 344 i0 _ 4 64 Try.underlying296 hi hz0 hz1 hz2 rfl (by decide) (.slice ma M.length mc) M.length (flatD M) (by kernel_rfl) hown0 ⟨u.heap.size, 0, none⟩ 1 1 x.cells (by kernel_rfl) rfl hnews (one4 x) (by unfold maxLen; omega) (by omega) hlog ?_
      intro v' w6 hown6 hgrow hfresh
      have hb6 : Below w.heap.size w w6 := below_grow (btr CB CX) hgrow (fun g e => (own_low0 hown0 e))
      refine ⟨hb6, ?_⟩
      refine plan_takes ?_; simp only [pickOps, List.getElem?_cons_zero, List.getElem?_cons_succ]
      refine quiet_doC rfl v' (fun w' hw' => by simp [execOp, go_sem]) ?_
      refine wpQuiet_nil ?_
      refine plan_fin ?_
      simp only [List.drop_succ_cons, List.drop_zero, Act.put, List.setIfInBounds_toArray, List.set_cons_succ, List.set_cons_zero]
      have HO6 := hid hown6; have HB6 := hid hb6
      clear hown6 hgrow hfresh hown0 hnews CX hlog CB HOu HO hb6
      go_wp2
      go_roundw
      case rel =>
        refine ⟨k + 1, M ++ [x], (if q + 1 = 1 then some ⟨g, k * 4, none⟩ else some ⟨g, k * 4 + 4, none⟩), by omega, HB6.out, by rw [List.length_append, flatD_app]; simpa [flatD] using HO6.out, by simp; omega, ?_, fun h => ⟨g, hsa, ?_⟩, fun h => ?_, .inl ⟨rfl, ?_, fun p hp => ?_⟩⟩
        · rw [show X.length - (k + 1) = n + 1 - 1 by omega, show cap - (k + 1) = q + 1 - 1 by omega]; simp
        · rw [if_neg (by omega), show (k + 1) * 4 = k * 4 + 4 by omega]
        · split at h <;> cases h
        · rw [take_next hlt, hx, hMe]
        · rcases List.mem_append.1 hp with hp | hp
          · exact hPy p hp
          · simp only [List.mem_singleton] at hp; subst hp; exact lt_iff.1 hr
      case measure => simp [lenS] <;> omega
    · have e1 : r = 0 := hr.symm.trans hr1
      subst e1
      clear hr1
      obtain ⟨z, hzd⟩ : ∃ z, IntKind.i64.wrap (x.z + y.z) = z := ⟨_, rfl⟩
      have hIE := ins_eq (z := z) hlt (hMe ▸ hPy) (by rw [hx]; exact hr) (by rw [hx]; exact hzd)
      rw [hx] at hIE
      go_upto_region 5 with fail
      have AL := (bal (Below.refl W1.heap.size W1) (.cells #[.string (tx x.t), .string x.t.nm, .slice x.a x.t.n x.c, .int .i64 x.z] 344)).drew
      have P0 : (W1.alloc (.cells #[.string (tx x.t), .string x.t.nm, .slice x.a x.t.n x.c, .int .i64 x.z] 344)).drew.cell? ⟨W1.heap.size, 0, none⟩ = some (.string (tx x.t)) := carry (Below.refl _ _).drew (by simp [go_sem])
      have P1 : (W1.alloc (.cells #[.string (tx x.t), .string x.t.nm, .slice x.a x.t.n x.c, .int .i64 x.z] 344)).drew.cell? ⟨W1.heap.size, 1, none⟩ = some (.string x.t.nm) := carry (Below.refl _ _).drew (by simp [go_sem])
      have P2 : (W1.alloc (.cells #[.string (tx x.t), .string x.t.nm, .slice x.a x.t.n x.c, .int .i64 x.z] 344)).drew.cell? ⟨W1.heap.size, 2, none⟩ = some (.slice x.a x.t.n x.c) := carry (Below.refl _ _).drew (by simp [go_sem])
      have P3 : (W1.alloc (.cells #[.string (tx x.t), .string x.t.nm, .slice x.a x.t.n x.c, .int .i64 x.z] 344)).drew.cell? ⟨W1.heap.size, 3, none⟩ = some (.int .i64 x.z) := carry (Below.refl _ _).drew (by simp [go_sem])
      have F3 : (W1.alloc (.cells #[.string (tx x.t), .string x.t.nm, .slice x.a x.t.n x.c, .int .i64 x.z] 344)).drew.frozen? ⟨W1.heap.size, 3, none⟩ = false := by
        rw [(Below.refl (W1.alloc (.cells #[.string (tx x.t), .string x.t.nm, .slice x.a x.t.n x.c, .int .i64 x.z] 344)).heap.size _).drew.frozen (by simp)]; exact World.frozen?_alloc_at _ _ _ _ rfl
      have BU := btr hbr AL
      have HOu := hid (own_belowT AL HO.out)
      have b3' := carry AL B3
      have hvl := fun r (e : (Value.slice ma M.length mc).ownBlock = some r) => own_lt0 HO.out e
      refine region_planC (fun w' => w'.cell? ⟨W1.heap.size, 3, none⟩ = some (.int .i64 x.z) ∧ w'.cell? ⟨b, 3, none⟩ = some (.int .i64 y.z)) (.takes [0, 1, 2, 3, 4, 5, 6, 7] .fin) 8 rfl (by kernel_rfl) ⟨P3, b3'⟩ ?_
      refine plan_takes ?_; simp only [pickOps, List.getElem?_cons_zero, List.getElem?_cons_succ]
      refine quiet_doC rfl (.pointer (some ⟨W1.heap.size, 3, none⟩)) (fun w' hw' => by simp [execOp, go_sem]) ?_
      refine quiet_doC rfl (.int .i64 x.z) (fun w' hw' => by have := hw'.1; simp [execOp, go_sem, this]) ?_
      refine quiet_doC rfl (.slice (some ⟨b, 0, none⟩) 1 1) (fun w' hw' => by simp [execOp, go_sem]) ?_
      refine quiet_doC rfl (.pointer (some ⟨b, 0, none⟩)) (fun w' hw' => by simp [execOp, go_sem]) ?_
      refine quiet_doC rfl (.pointer (some ⟨b, 3, none⟩)) (fun w' hw' => by simp [execOp, go_sem]) ?_
      refine quiet_doC rfl (.int .i64 y.z) (fun w' hw' => by have := hw'.2; simp [execOp, go_sem, this]) ?_
      refine quiet_doC rfl (.int .i64 z) (fun w' hw' => by rw [← hzd]; simp [execOp, go_sem]) ?_
      refine quiet_doC rfl (.pointer (some ⟨W1.heap.size, 3, none⟩)) (fun w' hw' => by simp [execOp, go_sem]) ?_
      refine wpQuiet_nil ?_
      refine plan_fin ?_
      simp only [List.drop_succ_cons, List.drop_zero, Act.put, List.setIfInBounds_toArray, List.set_cons_succ, List.set_cons_zero]
      generalize (W1.alloc (.cells #[.string (tx x.t), .string x.t.nm, .slice x.a x.t.n x.c, .int .i64 x.z] 344)).drew = u at *
      have lu := cell_lt P3
      go_upto_region 6 with fail
      have hu0 := bst BU (p := ⟨W1.heap.size, 3, none⟩) hlw (.int .i64 z)
      have HO3 := hid (own_setT2 (x := W1.heap.size) (o := 3) (u := .int .i64 z) (fun e => by have := hvl _ e; omega) HOu.out)
      have D0 : (u.setCell ⟨W1.heap.size, 3, none⟩ (.int .i64 z)).cell? ⟨W1.heap.size, 0, none⟩ = some (.string (tx x.t)) := by rw [World.cell?_setCell_other _ _ _ _ (by simp)]; exact P0
      have D1 : (u.setCell ⟨W1.heap.size, 3, none⟩ (.int .i64 z)).cell? ⟨W1.heap.size, 1, none⟩ = some (.string x.t.nm) := by rw [World.cell?_setCell_other _ _ _ _ (by simp)]; exact P1
      have D2 : (u.setCell ⟨W1.heap.size, 3, none⟩ (.int .i64 z)).cell? ⟨W1.heap.size, 2, none⟩ = some (.slice x.a x.t.n x.c) := by rw [World.cell?_setCell_other _ _ _ _ (by simp)]; exact P2
      have D3 : (u.setCell ⟨W1.heap.size, 3, none⟩ (.int .i64 z)).cell? ⟨W1.heap.size, 3, none⟩ = some (.int .i64 z) := World.cell?_setCell_same _ _ _ (by rw [P3])
      generalize u.setCell ⟨W1.heap.size, 3, none⟩ (.int .i64 z) = u3 at *
      clear P0 P1 P2 P3 F3 BU HOu b3' hvl HO lu AL hbr B0 B1 B2 B3 X0 X1 X2 X3
      by_cases hz : z = 0
      · have dz : (z != 0) = false := by simpa using hz
        go_upto_region 8 with fail
        have HBz := hid hu0
        have HOz := HO3
        clear hu0 HO3
        have CD := HBz.out.drew
        have HOd := hid (own_belowT (Below.refl u3.heap.size u3).drew HOz.out)
        refine region_planC (fun _ => True) (.takes [0, 1, 2, 3, 4] .fin) 5 rfl (by kernel_rfl) trivial ?_
        refine plan_takes ?_; simp only [pickOps, List.getElem?_cons_zero, List.getElem?_cons_succ]
        refine quiet_doC rfl (.slice (some ⟨g, k * 4, none⟩) (n + 1) (q + 1)) (fun w' hw' => by simp [execOp, go_sem]) ?_
        refine quiet_doC rfl (.slice (if q + 1 = 1 then some ⟨g, k * 4, none⟩ else some ⟨g, k * 4 + 4, none⟩) (n + 1 - 1) (q + 1 - 1)) (fun w' hw' => by exact run_slD rfl (by kernel_rfl) (by omega) w') ?_
        refine quiet_doC rfl (.slice (some ⟨b, 0, none⟩) 1 1) (fun w' hw' => by simp [execOp, go_sem]) ?_
        refine quiet_doC rfl (.slice (if 1 = 1 then some ⟨b, 0, none⟩ else some ⟨b, 0 + 4, none⟩) (1 - 1) (1 - 1)) (fun w' hw' => by exact run_slD rfl (by kernel_rfl) (by omega) w') ?_
        refine quiet_doC rfl (.slice (if q + 1 = 1 then some ⟨g, k * 4, none⟩ else some ⟨g, k * 4 + 4, none⟩) (n + 1 - 1) (q + 1 - 1)) (fun w' hw' => by simp [execOp, go_sem]) ?_
        refine wpQuiet_nil ?_
        refine plan_fin ?_
        simp only [List.drop_succ_cons, List.drop_zero, Act.put, List.setIfInBounds_toArray, List.set_cons_succ, List.set_cons_zero]
        go_wp2
        go_roundw
        case rel =>
          refine ⟨k + 1, M, (if q + 1 = 1 then some ⟨g, k * 4, none⟩ else some ⟨g, k * 4 + 4, none⟩), by omega, CD, HOd.out, by omega, ?_, fun h => ⟨g, hsa, ?_⟩, fun h => ?_, .inr ⟨by simp, ?_⟩⟩
          · rw [show X.length - (k + 1) = n + 1 - 1 by omega, show cap - (k + 1) = q + 1 - 1 by omega]; simp
          · rw [if_neg (by omega), show (k + 1) * 4 = k * 4 + 4 by omega]
          · split at h <;> cases h
          · rw [hMe]; exact hIE.2 hz
        case measure => simp [lenS] <;> omega
      · have dz : (z != 0) = true := by simpa using hz
        have CX := bal (Below.refl u3.heap.size u3) (.cells #[.string (tx x.t), .string x.t.nm, .slice x.a x.t.n x.c, .int .i64 z] 344)
        have hown9 := own_belowT CX HO3.out
        have hl9 : w.heap.size ≤ (u3.alloc (.cells #[.string (tx x.t), .string x.t.nm, .slice x.a x.t.n x.c, .int .i64 z] 344)).heap.size := Nat.le_trans hu0.size CX.size
        have hnews := new4 u3 (.string (tx x.t)) (.string x.t.nm) (.slice x.a x.t.n x.c) (.int .i64 z) 344
        have lq := cell_lt D0
        go_upto_region 8 with (at_builtin; go_loud (refine wpList_append_own_at _ rfl _ _ 296 rfl w.heap.size 344 i0 _ 4 64 Try.underlying296 hi hz0 hz1 hz2 rfl (by decide) (.slice ma M.length mc) M.length (flatD M) rfl hown9 ⟨u3.heap.size, 0, none⟩ 1 1 (Ad.cells { x with z := z }) rfl rfl hnews (one4 { x with z := z }) (by unfold maxLen; omega) (by omega) hl9 ?_); intro v' w6 hown6 hgrow _ _)
        have HBz := hid (below_grow (btr hu0 CX) hgrow (fun g e => own_low0 hown9 e))
        have HOz := hid hown6
        clear hu0 HO3 hown9 hown6 hgrow CX hl9 hnews
        have CD := HBz.out.drew
        have HOd := hid (own_belowT (Below.refl w6.heap.size w6).drew HOz.out)
        refine region_planC (fun _ => True) (.takes [0, 1, 2, 3, 4] .fin) 5 rfl (by kernel_rfl) trivial ?_
        refine plan_takes ?_; simp only [pickOps, List.getElem?_cons_zero, List.getElem?_cons_succ]
        refine quiet_doC rfl (.slice (some ⟨g, k * 4, none⟩) (n + 1) (q + 1)) (fun w' hw' => by simp [execOp, go_sem]) ?_
        refine quiet_doC rfl (.slice (if q + 1 = 1 then some ⟨g, k * 4, none⟩ else some ⟨g, k * 4 + 4, none⟩) (n + 1 - 1) (q + 1 - 1)) (fun w' hw' => by exact run_slD rfl (by kernel_rfl) (by omega) w') ?_
        refine quiet_doC rfl (.slice (some ⟨b, 0, none⟩) 1 1) (fun w' hw' => by simp [execOp, go_sem]) ?_
        refine quiet_doC rfl (.slice (if 1 = 1 then some ⟨b, 0, none⟩ else some ⟨b, 0 + 4, none⟩) (1 - 1) (1 - 1)) (fun w' hw' => by exact run_slD rfl (by kernel_rfl) (by omega) w') ?_
        refine quiet_doC rfl (.slice (if q + 1 = 1 then some ⟨g, k * 4, none⟩ else some ⟨g, k * 4 + 4, none⟩) (n + 1 - 1) (q + 1 - 1)) (fun w' hw' => by simp [execOp, go_sem]) ?_
        refine wpQuiet_nil ?_
        refine plan_fin ?_
        simp only [List.drop_succ_cons, List.drop_zero, Act.put, List.setIfInBounds_toArray, List.set_cons_succ, List.set_cons_zero]
        go_wp2
        go_roundw
        case rel =>
          refine ⟨k + 1, M ++ [{ x with z := z }], (if q + 1 = 1 then some ⟨g, k * 4, none⟩ else some ⟨g, k * 4 + 4, none⟩), by omega, CD, by rw [List.length_append, flatD_app]; simpa [flatD] using HOd.out, by simp; omega, ?_, fun h => ⟨g, hsa, ?_⟩, fun h => ?_, .inr ⟨by simp, ?_⟩⟩
          · rw [show X.length - (k + 1) = n + 1 - 1 by omega, show cap - (k + 1) = q + 1 - 1 by omega]; simp
          · rw [if_neg (by omega), show (k + 1) * 4 = k * 4 + 4 by omega]
          · split at h <;> cases h
          · rw [hMe]; exact hIE.1 hz
        case measure => simp [lenS] <;> omega
    · have e1 : r = 1 := hr.symm.trans hr1
      subst e1
      clear hr1
      go_upto_region 12 with fail
      have CD := hbr.drew
      refine region_planC (fun w' => Below w.heap.size w w') (.takes [0, 1, 2, 3, 6, 7] (.make 4 (.make 5 (.takes [8] .fin)))) 9 rfl (by kernel_rfl) (btr hbr (Below.refl _ _).drew) ?_
      clear CD
      refine plan_takes ?_; simp only [pickOps, List.getElem?_cons_zero, List.getElem?_cons_succ]
      refine quiet_doC rfl (.slice ma M.length mc) (fun w' hw' => by simp [execOp, go_sem]) ?_
      refine quiet_doC rfl (.slice (some ⟨b, 0, none⟩) 1 1) (fun w' hw' => by simp [execOp, go_sem]) ?_
      refine quiet_doC rfl (.pointer (some ⟨b, 0, none⟩)) (fun w' hw' => by simp [execOp, go_sem]) ?_
      refine quiet_doC rfl (.agg #[.string (tx y.t), .string y.t.nm, .slice y.a y.t.n y.c, .int .i64 y.z]) (fun w' hw' => by have z0 := carry hw' b0; have z1 := carry hw' b1; have z2 := carry hw' b2; have z3 := carry hw' b3; simp [execOp, go_sem, z0, z1, z2, z3]) ?_
      refine quiet_doC rfl (.slice (some ⟨b, 0, none⟩) 1 1) (fun w' hw' => by simp [execOp, go_sem]) ?_
      refine quiet_doC rfl (.slice (if 1 = 1 then some ⟨b, 0, none⟩ else some ⟨b, 0 + 4, none⟩) (1 - 1) (1 - 1)) (fun w' hw' => by exact run_slD rfl (by kernel_rfl) (by omega) w') ?_
      refine wpQuiet_nil ?_
      have CB := hbr.drew
      have hlu : w.heap.size ≤ W1.drew.heap.size := CB.size
      have HOu := hid (own_belowT (Below.refl W1.heap.size W1).drew HO.out)
      have b0' := carry (Below.refl W1.heap.size W1).drew B0
      generalize W1.drew = u at *
      have CX := bal (Below.refl u.heap.size u) (.cells #[.string (tx y.t), .string y.t.nm, .slice y.a y.t.n y.c, .int .i64 y.z] 344)
      refine planC_val rfl rfl (.slice (some ⟨u.heap.size, 0, none⟩) 1 1) (w'' := u.alloc (.cells #[.string (tx y.t), .string y.t.nm, .slice y.a y.t.n y.c, .int .i64 y.z] 344)) (by simp [execOp, go_sem]) (btr CB CX) ?_
      have hown0 := own_belowT CX HOu.out
      have hlog : w.heap.size ≤ (u.alloc (.cells #[.string (tx y.t), .string y.t.nm, .slice y.a y.t.n y.c, .int .i64 y.z] 344)).heap.size := Nat.le_trans hlu CX.size
      have hnews := new4 u (.string (tx y.t)) (.string y.t.nm) (.slice y.a y.t.n y.c) (.int .i64 y.z) 344
      refine planC_append rfl rfl _ _ 296 rfl w.heap.size 344 i0 _ 4 64 Try.underlying296 hi hz0 hz1 hz2 rfl (by decide) (.slice ma M.length mc) M.length (flatD M) (by kernel_rfl) hown0 ⟨u.heap.size, 0, none⟩ 1 1 y.cells (by kernel_rfl) rfl hnews (one4 y) (by unfold maxLen; omega) (by omega) hlog ?_
      intro v' w6 hown6 hgrow hfresh
      have hb6 : Below w.heap.size w w6 := below_grow (btr CB CX) hgrow (fun g e => (own_low0 hown0 e))
      refine ⟨hb6, ?_⟩
      refine plan_takes ?_; simp only [pickOps, List.getElem?_cons_zero, List.getElem?_cons_succ]
      refine quiet_doC rfl v' (fun w' hw' => by simp [execOp, go_sem]) ?_
      refine wpQuiet_nil ?_
      refine plan_fin ?_
      simp only [List.drop_succ_cons, List.drop_zero, Act.put, List.setIfInBounds_toArray, List.set_cons_succ, List.set_cons_zero]
      have HO6 := hid hown6; have HB6 := hid hb6
      clear hown6 hgrow hfresh hown0 hnews CX hlog CB HOu HO hb6
      go_wp2
      go_roundw
      case rel =>
        refine ⟨k, M ++ [y], some ⟨g, k * 4, none⟩, hk, HB6.out, by rw [List.length_append, flatD_app]; simpa [flatD] using HO6.out, by rw [hMe]; simp; omega, by rw [hn, hq], fun h => ⟨g, hsa, rfl⟩, (fun h => by cases h), .inr ⟨rfl, ?_⟩⟩
        rw [hMe]; exact ins_gt hlt (hMe ▸ hPy) (by rw [hx]; exact hr)
      case measure => simp [lenS] <;> omega
end Go.Proofs.Ytanfljajafelgaa

namespace Go.Proofs.Ytanfljajafelgaa
set_option linter.unusedVariables false
set_option linter.unusedSimpArgs false
open Go.RowKit
/-- the addends of an atom -/
def adF (kid : Nat → Tm) (Z : Nat → Int) (f : Nat → Option Addr × Nat) (k : Nat) : Ad := ⟨kid k, (f k).1, (f k).2, Z k⟩
theorem own_read {w : World} {base : Nat} {v : Value} {X : List Ad} (h : w.ownsRow base 344 4 v X.length (flatD X)) :
    ∃ sa cap, v = .slice sa X.length cap ∧ ((X = [] ∧ sa = none ∧ cap = 0) ∨ ∃ g, sa = some ⟨g, 0, none⟩ ∧ CellsD w g X) ∧ X.length ≤ cap ∧ cap ≤ maxLen := by
  rcases own_cellsD h with ⟨h0, rfl⟩ | ⟨g, cap, rfl, _, _, h1, h2, h3⟩
  · exact ⟨none, 0, by rw [h0]; rfl, .inl ⟨h0, rfl, rfl⟩, by rw [h0]; simp, by unfold maxLen; omega⟩
  · exact ⟨_, cap, rfl, .inr ⟨g, rfl, h3⟩, h1, h2⟩
theorem own_lowT {w : World} {base base' n size : Nat} {e : TypeId} {v : Value} {xs : List Value} (hb : base' ≤ base) (h : w.ownsRow base e size v n xs) : w.ownsRow base' e size v n xs := by
  obtain ⟨h1, h | ⟨g, cap, cur, rfl, h2, h3⟩⟩ := h
  · exact ⟨h1, .inl h⟩
  · exact ⟨h1, .inr ⟨g, cap, cur, rfl, Nat.le_trans hb h2, h3⟩⟩
theorem kids_read {w : World} {n : Nat} {kid : Nat → Tm} {A : Option Addr} (h : KidT 0 w (.mk ⟨#[]⟩ n kid) A) : ∃ f : Nat → Option Addr × Nat, (∀ k, k < n → (kid k).n ≤ (f k).2 ∧ (f k).2 ≤ 9223372036854775807 ∧ KidT 0 w (kid k) (f k).1) ∧ (n ≠ 0 → ∃ g off, A = some ⟨g, off, none⟩ ∧ g < w.heap.size ∧ ∀ k, k < n → w.cell? ⟨g, off + k * 2, none⟩ = some (.string (kid k).nm) ∧ w.cell? ⟨g, off + k * 2 + 1, none⟩ = some (.slice (f k).1 (kid k).n (f k).2)) := by
  rcases h with rfl | ⟨g, off, cs, ha, _, hg, hc⟩
  · exact ⟨fun _ => (none, 0), fun k hk => absurd hk (Nat.not_lt_zero _), fun h => absurd rfl h⟩
  · obtain ⟨f, hf⟩ := Go.Deep.choose_lt (p := fun k (r : Option Addr × Nat) => cs[off + k * 2]? = some (.string (kid k).nm) ∧ cs[off + k * 2 + 1]? = some (.slice r.1 (kid k).n r.2) ∧ (kid k).n ≤ r.2 ∧ r.2 ≤ 9223372036854775807 ∧ KidT 0 w (kid k) r.1) (n := n) (fun k hk => by
      obtain ⟨a, c, h0, h1, h2, h3, h4⟩ := hc k hk
      exact ⟨(a, c), h0, h1, h2, h3, h4⟩)
    refine ⟨f, fun k hk => (hf k hk).2.2, fun _ => ⟨g, off, ha, (Array.getElem?_eq_some_iff.1 hg).1, fun k hk => ⟨?_, ?_⟩⟩⟩
    · simp [World.cell?, hg, (hf k hk).1]
    · simp [World.cell?, hg, (hf k hk).2.1]
set_option maxRecDepth 100000 in
set_option maxHeartbeats 8000000 in
theorem sumof_any (n : Nat) (kid : Nat → Tm) (Z : Nat → Int) (f : Nat → Option Addr × Nat) (hn : n ≤ 4) (hF : ∀ k, k < n → Fits 1048576 (kid k)) (A : Option Addr) (c : Nat) (B : Option Addr) (d : Nat) (w : World)
    (hK : ∀ k, k < n → (kid k).n ≤ (f k).2 ∧ (f k).2 ≤ 9223372036854775807 ∧ KidT 0 w (kid k) (f k).1) (hA : n ≠ 0 → ∃ g off, A = some ⟨g, off, none⟩ ∧ g < w.heap.size ∧ ∀ k, k < n → w.cell? ⟨g, off + k * 2, none⟩ = some (.string (kid k).nm) ∧ w.cell? ⟨g, off + k * 2 + 1, none⟩ = some (.slice (f k).1 (kid k).n (f k).2)) (hB : Ints w B n Z) :
    Calls Try.prog 183 #[.slice A n c, .slice B n d] w fun e w' => ∃ v, e = .returned v ∧ w'.ownsRow w.heap.size 344 4 v (sumD (adF kid Z f) n).length (flatD (sumD (adF kid Z f) n)) ∧ Below w.heap.size w w' := by
  have HK := hid hK; have HF := hid hF
  clear hK hF
  go_enter Try.func183, Try.ntmps183
  go_wp2
  go_loopw [5, 10] (fun vv i wr => ∃ (k : Nat) (v : Value), k ≤ n ∧ i = .int .i64 k ∧ vv = v ∧ Below w.heap.size w wr ∧ wr.ownsRow w.heap.size 344 4 v (sumD (adF kid Z f) k).length (flatD (sumD (adF kid Z f) k))) (fun _ i _ => n - (intOf i).toNat)
  case atStart => exact ⟨0, .slice none 0 0, Nat.zero_le _, rfl, rfl, Below.refl _ _, World.ownsRow_nil _ _ _ _⟩
  case round =>
    obtain ⟨k, v, hk, rfl, rfl, hbr, ho⟩ := hrel
    have HO := hid ho
    obtain ⟨sa, cap, hve, _⟩ := own_read ho
    subst hve
    clear ho
    have hlw : w.heap.size ≤ wr.heap.size := hbr.size
    by_cases hlt : k < n
    rotate_left
    · have hke : k = n := by omega
      subst hke
      have HB := hid hbr
      go_wp2
      go_ret
      exact ⟨_, rfl, HO.out, HB.out⟩
    obtain ⟨g, off, rfl, hg, hcA⟩ := hA (by omega)
    rcases hB with h0 | ⟨g2, off2, rfl, hg2, hcB⟩
    · omega
    obtain ⟨a0, a1⟩ := hcA k hlt
    have z0 := hcB k hlt
    clear hcA hcB
    replace a0 := carry hbr a0
    replace a1 := carry hbr a1
    replace z0 := carry hbr z0
    have gg : g < wr.heap.size := Nat.lt_of_lt_of_le hg hlw
    have gg2 : g2 < wr.heap.size := Nat.lt_of_lt_of_le hg2 hlw
    obtain ⟨m0, m1, hKk⟩ := HK.out k hlt
    have HKk := hid (show Kids 0 wr (kid k) (f k).1 from hKk.kids.below hbr)
    clear hKk
    go_upto_region 5 with fail
    have AL := (bal (Below.refl wr.heap.size wr) (.cells #[.string (kid k).nm, .slice (f k).1 (kid k).n (f k).2] 76)).drew
    have y0 : (wr.alloc (.cells #[.string (kid k).nm, .slice (f k).1 (kid k).n (f k).2] 76)).drew.cell? ⟨wr.heap.size, 0, none⟩ = some (.string (kid k).nm) := carry (Below.refl _ _).drew (by simp [go_sem])
    have y1 : (wr.alloc (.cells #[.string (kid k).nm, .slice (f k).1 (kid k).n (f k).2] 76)).drew.cell? ⟨wr.heap.size, 1, none⟩ = some (.slice (f k).1 (kid k).n (f k).2) := carry (Below.refl _ _).drew (by simp [go_sem])
    have y2 := carry AL z0
    have HOu := hid (own_belowT AL HO.out)
    have HIu := hid (HKk.out.below AL)
    have BU := btr hbr AL
    clear hbr HO HKk AL a0 a1 z0 gg
    refine region_planC (fun w' => w'.cell? ⟨wr.heap.size, 0, none⟩ = some (.string (kid k).nm) ∧ w'.cell? ⟨wr.heap.size, 1, none⟩ = some (.slice (f k).1 (kid k).n (f k).2) ∧ w'.cell? ⟨g2, off2 + k, none⟩ = some (.int .i64 (Z k))) (.takes [0, 1, 3, 4, 5, 6, 7] (.make 2 (.takes [8] (.make 9 (.make 10 .fin))))) 11 rfl (by kernel_rfl) ⟨y0, y1, y2⟩ ?_
    refine plan_takes ?_; simp only [pickOps, List.getElem?_cons_zero, List.getElem?_cons_succ]
    refine quiet_doC rfl (.slice sa (sumD (adF kid Z f) k).length cap) (fun w' hw' => by simp [execOp, go_sem]) ?_
    refine quiet_doC rfl (.agg #[.string (kid k).nm, .slice (f k).1 (kid k).n (f k).2]) (fun w' hw' => by have h0 := hw'.1; have h1 := hw'.2.1; simp [execOp, go_sem, h0, h1]) ?_
    refine quiet_doC rfl (.agg #[.string (kid k).nm, .slice (f k).1 (kid k).n (f k).2]) (fun w' hw' => by have h0 := hw'.1; have h1 := hw'.2.1; simp [execOp, go_sem, h0, h1]) ?_
    refine quiet_doC rfl (.slice (some ⟨g2, off2, none⟩) n d) (fun w' hw' => by simp [execOp, go_sem]) ?_
    refine quiet_doC rfl (.int .i64 k) (fun w' hw' => by simp [execOp, go_sem]) ?_
    refine quiet_doC rfl (.pointer (some ⟨g2, off2 + k, none⟩)) (fun w' hw' => by simp [execOp, go_sem, hlt]) ?_
    refine quiet_doC rfl (.int .i64 (Z k)) (fun w' hw' => by have h2 := hw'.2.2; simp [execOp, go_sem, h2]) ?_
    refine wpQuiet_nil ?_
    generalize (wr.alloc (.cells #[.string (kid k).nm, .slice (f k).1 (kid k).n (f k).2] 76)).drew = u at *
    refine planC_call rfl rfl 219 #[.agg #[.string (kid k).nm, .slice (f k).1 (kid k).n (f k).2]] (by kernel_rfl) ?_
    refine (termtext_any (kid k) (HF.out k hlt) (f k).1 (f k).2 u HIu.out).mono ?_
    rintro e w3 ⟨rfl, hq⟩
    replace y0 := carry hq y0
    replace y1 := carry hq y1
    replace y2 := carry hq y2
    refine ⟨_, rfl, ⟨y0, y1, y2⟩, ?_⟩
    refine plan_takes ?_; simp only [pickOps, List.getElem?_cons_zero, List.getElem?_cons_succ]
    refine quiet_doC rfl (.agg #[.string (tx (kid k)), .string (kid k).nm, .slice (f k).1 (kid k).n (f k).2, .int .i64 (Z k)]) (fun w' hw' => by simp [execOp, go_sem, tx]) ?_
    refine wpQuiet_nil ?_
    have CX := bal (Below.refl w3.heap.size w3) (.cells #[.string (tx (kid k)), .string (kid k).nm, .slice (f k).1 (kid k).n (f k).2, .int .i64 (Z k)] 344)
    have hB1 : CellsD (w3.alloc (.cells #[.string (tx (kid k)), .string (kid k).nm, .slice (f k).1 (kid k).n (f k).2, .int .i64 (Z k)] 344)) w3.heap.size [adF kid Z f k] := fun i hi => by
      have e0 : i = 0 := by simp at hi; exact hi
      subst e0
      refine ⟨?_, ?_, ?_, ?_⟩ <;> simp [go_sem, adF]
    refine planC_val rfl rfl (.slice (some ⟨w3.heap.size, 0, none⟩) 1 1) (w'' := w3.alloc (.cells #[.string (tx (kid k)), .string (kid k).nm, .slice (f k).1 (kid k).n (f k).2, .int .i64 (Z k)] 344)) (by simp [execOp, go_sem]) ⟨carry CX y0, carry CX y1, carry CX y2⟩ ?_
    replace y0 := carry CX y0
    replace y1 := carry CX y1
    replace y2 := carry CX y2
    have hq4 := btr hq CX
    obtain ⟨sa', cap', hve, hX1, hX2, _⟩ := own_read (own_belowT hq4 HOu.out)
    injection hve with e1 _ e3
    subst e1 e3
    have hX3 : (sumD (adF kid Z f) k).length ≤ 1000 := by have := sumD_len (adF kid Z f) k; omega
    refine planC_call rfl rfl 218 #[.slice sa (sumD (adF kid Z f) k).length cap, .slice (some ⟨w3.heap.size, 0, none⟩) 1 1] (by kernel_rfl) ?_
    refine (sumplus_any (sumD (adF kid Z f) k) (adF kid Z f k) sa cap w3.heap.size _ hX1 hX2 hX3 hB1).mono ?_
    rintro e w5 ⟨v5, rfl, ho5, hq5⟩
    refine ⟨_, rfl, ⟨carry hq5 y0, carry hq5 y1, carry hq5 y2⟩, ?_⟩
    refine plan_fin ?_
    simp only [List.drop_succ_cons, List.drop_zero, Act.put, List.setIfInBounds_toArray, List.set_cons_succ, List.set_cons_zero]
    have B5 := hid (btr BU (btr hq4 hq5))
    have HO5 := hid (own_lowT (Nat.le_trans BU.size hq4.size) ho5)
    clear y0 y1 y2 BU HOu HIu hq hq4 hq5 CX hB1 hX1 ho5
    go_wp2
    go_roundw
    case rel => exact ⟨k + 1, v5, by omega, by go_num, rfl, B5.out, HO5.out⟩
    case measure => simp [intOf]; omega
end Go.Proofs.Ytanfljajafelgaa

namespace Go.Proofs.Ytanfljajafelgaa
set_option linter.unusedVariables false
set_option linter.unusedSimpArgs false
open Go.RowKit
theorem well_at {t : Tm} (hF : Fits 1048576 t) {A : Option Addr} {c : Nat} {w : World} (hA : Kids 0 w t A) {r : Bool} (h : wellB t = r) (W : World) (hb : Below w.heap.size w W) :
    Calls Try.prog 195 #[.agg #[.string t.nm, .slice A t.n c]] W fun e w' => e = .returned (.bool r) ∧ Below W.heap.size W w' := by
  subst h; exact well_any t hF A c W (hA.below hb)
/-- an equality as a value -/
def eqV (a b : Tm) (A1 : Option Addr) (c1 : Nat) (A2 : Option Addr) (c2 : Nat) : Value := .agg #[.string a.nm, .slice A1 a.n c1, .string b.nm, .slice A2 b.n c2]
set_option maxRecDepth 100000 in
set_option maxHeartbeats 4000000 in
theorem eqwell_any (a b : Tm) (hFa : Fits 1048576 a) (hFb : Fits 1048576 b) (A1 : Option Addr) (c1 : Nat) (A2 : Option Addr) (c2 : Nat) (w : World) (h1 : Kids 0 w a A1) (h2 : Kids 0 w b A2) (r : Bool) (hr : (wellB a && wellB b) = r) :
    Calls Try.prog 306 #[eqV a b A1 c1 A2 c2] w fun e w' => e = .returned (.bool r) ∧ Below w.heap.size w w' := by
  unfold eqV
  have HR := hid hr; clear hr
  have H : KcL [(w.heap.size, 2, .string b.nm), (w.heap.size, 3, .slice A2 b.n c2)] (w.alloc (.cells #[.string a.nm, .slice A1 a.n c1, .string b.nm, .slice A2 b.n c2] 294)) := by
    refine ⟨?_, ?_, trivial⟩ <;> simp [go_sem]
  have q0 := bal (Below.refl w.heap.size w) (.cells #[.string a.nm, .slice A1 a.n c1, .string b.nm, .slice A2 b.n c2] 294)
  obtain ⟨ra, hra⟩ : ∃ x, wellB a = x := ⟨_, rfl⟩
  obtain ⟨rb, hrb⟩ : ∃ x, wellB b = x := ⟨_, rfl⟩
  have C1 := hid (fun W (h : Below w.heap.size w W) => well_at (c := c1) hFa h1 hra W h)
  have C2 := hid (fun W (h : Below w.heap.size w W) => well_at (c := c2) hFb h2 hrb W h)
  rw [hra, hrb] at HR
  clear h1 h2 hFa hFb hra hrb
  go_enter Try.func306, Try.ntmps306
  go_wp2_with fail
  refine (C1.out _ q0).mono ?_
  rintro e w1 ⟨rfl, hq⟩
  replace H := H.below hq
  replace q0 := btr q0 hq
  clear hq C1
  have HH_ := H; obtain ⟨s0, s1, _⟩ := HH_
  have l0 := cell_lt s0
  cases ra with
  | false =>
    go_wp2
    go_ret
    exact ⟨ret_bool HR.out, q0⟩
  | true =>
    go_wp2_with fail
    refine (C2.out _ q0).mono ?_
    rintro e w2 ⟨rfl, hq⟩
    clear C2
    go_wp2
    go_ret
    exact ⟨ret_bool HR.out, btr q0 hq⟩
/-- two terms, one behind the other -/
def kidAB (a b : Tm) (k : Nat) : Tm := if k = 0 then a else b
set_option maxRecDepth 100000 in
set_option maxHeartbeats 4000000 in
theorem eqterms_any (a b : Tm) (hFa : Fits 1048576 a) (hFb : Fits 1048576 b) (A1 : Option Addr) (c1 : Nat) (A2 : Option Addr) (c2 : Nat) (w : World) (h1 : Kids 0 w a A1) (h2 : Kids 0 w b A2) :
    Calls Try.prog 305 #[eqV a b A1 c1 A2 c2] w (CopiesP w (.mk ⟨#[]⟩ 2 (kidAB a b))) := by
  unfold eqV
  have q0 := bal (bal (Below.refl w.heap.size w) (.cells #[.string a.nm, .slice A1 a.n c1, .string b.nm, .slice A2 b.n c2] 294)) (.cells #[.string a.nm, .slice A1 a.n c1, .string b.nm, .slice A2 b.n c2] 76)
  have hKK : Kids 0 ((w.alloc (.cells #[.string a.nm, .slice A1 a.n c1, .string b.nm, .slice A2 b.n c2] 294)).alloc (.cells #[.string a.nm, .slice A1 a.n c1, .string b.nm, .slice A2 b.n c2] 76)) (.mk ⟨#[]⟩ 2 (kidAB a b)) (some ⟨w.heap.size + 1, 0, none⟩) := by
    refine .inr ⟨_, 0, rfl, Nat.zero_le _, by simp, fun k hk => ?_⟩
    match k, hk with
    | 0, _ => exact ⟨A1, c1, by simp [go_sem, kidAB], by simp [go_sem, kidAB], h1.below q0⟩
    | 1, _ => exact ⟨A2, c2, by simp [go_sem, kidAB], by simp [go_sem, kidAB], h2.below q0⟩
  have hFF : Fits 1048576 (.mk ⟨#[]⟩ 2 (kidAB a b)) := ⟨by decide, by omega, fun k hk => by unfold kidAB; split <;> assumption⟩
  have C1 := hid (copyterms_any _ hFF (some ⟨w.heap.size + 1, 0, none⟩) 2 _ hKK)
  clear hKK hFF h1 h2
  go_enter Try.func305, Try.ntmps305
  go_wp2_with fail
  refine C1.out.mono ?_
  rintro e w1 ⟨A, c, rfl, m1, m2, hS, hq, hz⟩
  go_wp2
  go_ret
  have hle : w.heap.size ≤ ((w.alloc (.cells #[.string a.nm, .slice A1 a.n c1, .string b.nm, .slice A2 b.n c2] 294)).alloc (.cells #[.string a.nm, .slice A1 a.n c1, .string b.nm, .slice A2 b.n c2] 76)).heap.size := q0.size
  exact ⟨A, c, rfl, m1, m2, hS.mono hle (Nat.le_refl _), btr q0 hq, hz⟩
-- PART 2
/-- nine cells of one block stored one by one -/
theorem chain9 {w : World} {g : Nat} {T : TypeId} {f : Nat → Value} (h : w.rowIs g T 9 f) (v0 v1 v2 v3 v4 v5 v6 v7 v8 : Value) :
    ((((((((((w.setCell ⟨g, 0, none⟩ v0).setCell ⟨g, 1, none⟩ v1).setCell ⟨g, 2, none⟩ v2).setCell ⟨g, 3, none⟩ v3).setCell ⟨g, 4, none⟩ v4).setCell ⟨g, 5, none⟩ v5).setCell ⟨g, 6, none⟩ v6).setCell ⟨g, 7, none⟩ v7).setCell ⟨g, 8, none⟩ v8).cell? ⟨g, 0, none⟩ = some v0 ∧ (((((((((w.setCell ⟨g, 0, none⟩ v0).setCell ⟨g, 1, none⟩ v1).setCell ⟨g, 2, none⟩ v2).setCell ⟨g, 3, none⟩ v3).setCell ⟨g, 4, none⟩ v4).setCell ⟨g, 5, none⟩ v5).setCell ⟨g, 6, none⟩ v6).setCell ⟨g, 7, none⟩ v7).setCell ⟨g, 8, none⟩ v8).cell? ⟨g, 1, none⟩ = some v1 ∧ (((((((((w.setCell ⟨g, 0, none⟩ v0).setCell ⟨g, 1, none⟩ v1).setCell ⟨g, 2, none⟩ v2).setCell ⟨g, 3, none⟩ v3).setCell ⟨g, 4, none⟩ v4).setCell ⟨g, 5, none⟩ v5).setCell ⟨g, 6, none⟩ v6).setCell ⟨g, 7, none⟩ v7).setCell ⟨g, 8, none⟩ v8).cell? ⟨g, 2, none⟩ = some v2 ∧ (((((((((w.setCell ⟨g, 0, none⟩ v0).setCell ⟨g, 1, none⟩ v1).setCell ⟨g, 2, none⟩ v2).setCell ⟨g, 3, none⟩ v3).setCell ⟨g, 4, none⟩ v4).setCell ⟨g, 5, none⟩ v5).setCell ⟨g, 6, none⟩ v6).setCell ⟨g, 7, none⟩ v7).setCell ⟨g, 8, none⟩ v8).cell? ⟨g, 3, none⟩ = some v3 ∧ (((((((((w.setCell ⟨g, 0, none⟩ v0).setCell ⟨g, 1, none⟩ v1).setCell ⟨g, 2, none⟩ v2).setCell ⟨g, 3, none⟩ v3).setCell ⟨g, 4, none⟩ v4).setCell ⟨g, 5, none⟩ v5).setCell ⟨g, 6, none⟩ v6).setCell ⟨g, 7, none⟩ v7).setCell ⟨g, 8, none⟩ v8).cell? ⟨g, 4, none⟩ = some v4 ∧ (((((((((w.setCell ⟨g, 0, none⟩ v0).setCell ⟨g, 1, none⟩ v1).setCell ⟨g, 2, none⟩ v2).setCell ⟨g, 3, none⟩ v3).setCell ⟨g, 4, none⟩ v4).setCell ⟨g, 5, none⟩ v5).setCell ⟨g, 6, none⟩ v6).setCell ⟨g, 7, none⟩ v7).setCell ⟨g, 8, none⟩ v8).cell? ⟨g, 5, none⟩ = some v5 ∧ (((((((((w.setCell ⟨g, 0, none⟩ v0).setCell ⟨g, 1, none⟩ v1).setCell ⟨g, 2, none⟩ v2).setCell ⟨g, 3, none⟩ v3).setCell ⟨g, 4, none⟩ v4).setCell ⟨g, 5, none⟩ v5).setCell ⟨g, 6, none⟩ v6).setCell ⟨g, 7, none⟩ v7).setCell ⟨g, 8, none⟩ v8).cell? ⟨g, 6, none⟩ = some v6 ∧ (((((((((w.setCell ⟨g, 0, none⟩ v0).setCell ⟨g, 1, none⟩ v1).setCell ⟨g, 2, none⟩ v2).setCell ⟨g, 3, none⟩ v3).setCell ⟨g, 4, none⟩ v4).setCell ⟨g, 5, none⟩ v5).setCell ⟨g, 6, none⟩ v6).setCell ⟨g, 7, none⟩ v7).setCell ⟨g, 8, none⟩ v8).cell? ⟨g, 7, none⟩ = some v7 ∧ (((((((((w.setCell ⟨g, 0, none⟩ v0).setCell ⟨g, 1, none⟩ v1).setCell ⟨g, 2, none⟩ v2).setCell ⟨g, 3, none⟩ v3).setCell ⟨g, 4, none⟩ v4).setCell ⟨g, 5, none⟩ v5).setCell ⟨g, 6, none⟩ v6).setCell ⟨g, 7, none⟩ v7).setCell ⟨g, 8, none⟩ v8).cell? ⟨g, 8, none⟩ = some v8) ∧ (∀ x, x ≠ g → (((((((((w.setCell ⟨g, 0, none⟩ v0).setCell ⟨g, 1, none⟩ v1).setCell ⟨g, 2, none⟩ v2).setCell ⟨g, 3, none⟩ v3).setCell ⟨g, 4, none⟩ v4).setCell ⟨g, 5, none⟩ v5).setCell ⟨g, 6, none⟩ v6).setCell ⟨g, 7, none⟩ v7).setCell ⟨g, 8, none⟩ v8).heap[x]? = w.heap[x]?) ∧ (((((((((w.setCell ⟨g, 0, none⟩ v0).setCell ⟨g, 1, none⟩ v1).setCell ⟨g, 2, none⟩ v2).setCell ⟨g, 3, none⟩ v3).setCell ⟨g, 4, none⟩ v4).setCell ⟨g, 5, none⟩ v5).setCell ⟨g, 6, none⟩ v6).setCell ⟨g, 7, none⟩ v7).setCell ⟨g, 8, none⟩ v8).heap.size = w.heap.size ∧ (∀ (W : World), Below W.heap.size W w → W.heap.size ≤ g → Below W.heap.size W (((((((((w.setCell ⟨g, 0, none⟩ v0).setCell ⟨g, 1, none⟩ v1).setCell ⟨g, 2, none⟩ v2).setCell ⟨g, 3, none⟩ v3).setCell ⟨g, 4, none⟩ v4).setCell ⟨g, 5, none⟩ v5).setCell ⟨g, 6, none⟩ v6).setCell ⟨g, 7, none⟩ v7).setCell ⟨g, 8, none⟩ v8)) := by
  have R := ((((((((h.set 0 v0).set 1 v1).set 2 v2).set 3 v3).set 4 v4).set 5 v5).set 6 v6).set 7 v7).set 8 v8
  refine ⟨⟨R.cell (i := 0) (by omega), R.cell (i := 1) (by omega), R.cell (i := 2) (by omega), R.cell (i := 3) (by omega), R.cell (i := 4) (by omega), R.cell (i := 5) (by omega), R.cell (i := 6) (by omega), R.cell (i := 7) (by omega), R.cell (i := 8) (by omega)⟩, fun x hx => ?_, by simp [World.setCell], fun W hb hg => ?_⟩
  · exact (Below.heap_setCell _ ⟨g, 8, none⟩ v8 x hx).trans ((Below.heap_setCell _ ⟨g, 7, none⟩ v7 x hx).trans ((Below.heap_setCell _ ⟨g, 6, none⟩ v6 x hx).trans ((Below.heap_setCell _ ⟨g, 5, none⟩ v5 x hx).trans ((Below.heap_setCell _ ⟨g, 4, none⟩ v4 x hx).trans ((Below.heap_setCell _ ⟨g, 3, none⟩ v3 x hx).trans ((Below.heap_setCell _ ⟨g, 2, none⟩ v2 x hx).trans ((Below.heap_setCell _ ⟨g, 1, none⟩ v1 x hx).trans ((Below.heap_setCell _ ⟨g, 0, none⟩ v0 x hx).trans (rfl)))))))))
  · exact bst (bst (bst (bst (bst (bst (bst (bst (bst (hb) (p := ⟨g, 0, none⟩) hg v0) (p := ⟨g, 1, none⟩) hg v1) (p := ⟨g, 2, none⟩) hg v2) (p := ⟨g, 3, none⟩) hg v3) (p := ⟨g, 4, none⟩) hg v4) (p := ⟨g, 5, none⟩) hg v5) (p := ⟨g, 6, none⟩) hg v6) (p := ⟨g, 7, none⟩) hg v7) (p := ⟨g, 8, none⟩) hg v8
theorem KpT.chain {w C : World} {g n : Nat} {T : TypeId} {f : Nat → Value} (hR : w.rowIs g T n f) (hT : T ≠ 76) (hb : ∀ x, x ≠ g → C.heap[x]? = w.heap[x]?) : KpT w C := fun x cs hx =>
  (hb x (fun e => by
    subst e
    obtain ⟨c, hc, _⟩ := hR
    rw [hc] at hx
    injection hx with hx
    injection hx with _ h2 _
    exact hT h2)).trans hx
/-- the atom that two things are one -/
def atAB (a b : Tm) : At := ⟨1, a, b, 0, fun _ => .bad, 0, fun _ => 0, 0, false⟩
def EqAtomP (w : World) (a b : Tm) (e : Ending) (w' : World) : Prop :=
  ∃ B1 d1 B2 d2, e = .returned (.agg ((atAB a b).cs B1 d1 B2 d2 none 0 none 0)) ∧ KidT 0 w' a B1 ∧ KidT 0 w' b B2 ∧ (a.n ≤ d1 ∧ d1 ≤ 9223372036854775807 ∧ b.n ≤ d2 ∧ d2 ≤ 9223372036854775807) ∧ Below w.heap.size w w'
set_option maxRecDepth 100000 in
set_option maxHeartbeats 8000000 in
theorem eqatom_any (a b : Tm) (hFa : Fits 1048576 a) (hFb : Fits 1048576 b) (A1 : Option Addr) (c1 : Nat) (A2 : Option Addr) (c2 : Nat) (w : World) (h1 : Kids 0 w a A1) (h2 : Kids 0 w b A2) :
    Calls Try.prog 302 #[eqV a b A1 c1 A2 c2] w (EqAtomP w a b) := by
  have C1 := hid (fun W (h : Below w.heap.size w W) => eqterms_any a b hFa hFb A1 c1 A2 c2 W (h1.below h) (h2.below h))
  unfold eqV at *
  have q0 := bal (bal (Below.refl w.heap.size w) (.cells #[.string a.nm, .slice A1 a.n c1, .string b.nm, .slice A2 b.n c2] 294)) (.cells #[.int .i64 0, .string ⟨#[]⟩, .slice none 0 0, .string ⟨#[]⟩, .slice none 0 0, .slice none 0 0, .slice none 0 0, .int .i64 0, .bool false] 95)
  have R := row_newA (w.alloc (.cells #[.string a.nm, .slice A1 a.n c1, .string b.nm, .slice A2 b.n c2] 294)) #[.int .i64 0, .string ⟨#[]⟩, .slice none 0 0, .string ⟨#[]⟩, .slice none 0 0, .slice none 0 0, .slice none 0 0, .int .i64 0, .bool false] 95
  have hsz : (w.alloc (.cells #[.string a.nm, .slice A1 a.n c1, .string b.nm, .slice A2 b.n c2] 294)).heap.size = w.heap.size + 1 := by simp
  rw [hsz] at R
  clear h1 h2 hFa hFb
  go_enter Try.func302, Try.ntmps302
  go_wp2_with fail
  refine (C1.out _ q0).mono ?_
  rintro e w1 ⟨A, c, rfl, m1, m2, hS, hq, hz⟩
  clear C1
  have tn : (Tm.mk ⟨#[]⟩ 2 (kidAB a b)).n = 2 := rfl
  rw [tn]
  rw [tn] at m1
  clear tn
  have hlt1 : w.heap.size + 1 < ((w.alloc (.cells #[.string a.nm, .slice A1 a.n c1, .string b.nm, .slice A2 b.n c2] 294)).alloc (.cells #[.int .i64 0, .string ⟨#[]⟩, .slice none 0 0, .string ⟨#[]⟩, .slice none 0 0, .slice none 0 0, .slice none 0 0, .int .i64 0, .bool false] 95)).heap.size := by simp
  replace R := row_below R hq
  replace q0 := btr q0 hq
  rcases hS with h | ⟨g, off, cs, L, H, rfl, hg1, hg2, hg, hc⟩
  · cases h
  obtain ⟨_, _, _, _, _, B1, d1, e0, e1, e2, e3, S1⟩ := hc 0 (by decide)
  obtain ⟨_, _, _, _, _, B2, d2, e4, e5, e6, e7, S2⟩ := hc 1 (by decide)
  simp only [kidAB, if_true, Nat.one_ne_zero, if_false, Nat.zero_mul, Nat.add_zero, Nat.one_mul] at e0 e1 e2 e3 S1 e4 e5 e6 e7 S2
  have y0 : w1.cell? ⟨g, off, none⟩ = some (.string a.nm) := by simp [World.cell?, hg, e0]
  have y1 : w1.cell? ⟨g, off + 1, none⟩ = some (.slice B1 a.n d1) := by simp [World.cell?, hg, e1]
  have y2 : w1.cell? ⟨g, off + 2, none⟩ = some (.string b.nm) := by simp [World.cell?, hg, e4]
  have y3 : w1.cell? ⟨g, off + 2 + 1, none⟩ = some (.slice B2 b.n d2) := by simp [World.cell?, hg, e5]
  have gg := cell_lt y0
  have hrb : w.heap.size + 1 < w1.heap.size := R.lt
  have hge : w.heap.size + 1 < g := Nat.lt_of_lt_of_le hlt1 hg1
  have HS1 := hid (S1.kidT (B := w.heap.size + 1 + 1) (by omega)); have HS2 := hid (S2.kidT (B := w.heap.size + 1 + 1) (by omega))
  clear hc e0 e1 e4 e5 hg hz hlt1 hsz
  go_upto_region 2 with fail
  refine region_planC (fun w' => w'.cell? ⟨g, off, none⟩ = some (.string a.nm) ∧ w'.cell? ⟨g, off + 1, none⟩ = some (.slice B1 a.n d1) ∧ w'.cell? ⟨g, off + 2, none⟩ = some (.string b.nm) ∧ w'.cell? ⟨g, off + 2 + 1, none⟩ = some (.slice B2 b.n d2)) (.takes [0, 1, 2, 3, 4, 5, 6] .fin) 7 rfl (by kernel_rfl) ⟨carry (Below.refl _ _).drew y0, carry (Below.refl _ _).drew y1, carry (Below.refl _ _).drew y2, carry (Below.refl _ _).drew y3⟩ ?_
  refine plan_takes ?_; simp only [pickOps, List.getElem?_cons_zero, List.getElem?_cons_succ]
  refine quiet_doC rfl (.slice (some ⟨g, off, none⟩) 2 c) (fun w' hw' => by simp [execOp, go_sem]) ?_
  refine quiet_doC rfl (.pointer (some ⟨g, off, none⟩)) (fun w' hw' => by simp [execOp, go_sem]) ?_
  refine quiet_doC rfl (.agg #[.string a.nm, .slice B1 a.n d1]) (fun w' hw' => by have x0 := hw'.1; have x1 := hw'.2.1; simp [execOp, go_sem, x0, x1]) ?_
  refine quiet_doC rfl (.slice (some ⟨g, off, none⟩) 2 c) (fun w' hw' => by simp [execOp, go_sem]) ?_
  refine quiet_doC rfl (.pointer (some ⟨g, off + 2, none⟩)) (fun w' hw' => by simp [execOp, go_sem]) ?_
  refine quiet_doC rfl (.agg #[.string b.nm, .slice B2 b.n d2]) (fun w' hw' => by have x0 := hw'.2.2.1; have x1 := hw'.2.2.2; simp [execOp, go_sem, x0, x1]) ?_
  refine quiet_doC rfl (.agg #[.int .i64 1, .string a.nm, .slice B1 a.n d1, .string b.nm, .slice B2 b.n d2, .slice none 0 0, .slice none 0 0, .int .i64 0, .bool false]) (fun w' hw' => by simp [execOp, go_sem]) ?_
  refine wpQuiet_nil ?_
  refine plan_fin ?_
  simp only [List.drop_succ_cons, List.drop_zero, Act.put, List.setIfInBounds_toArray, List.set_cons_succ, List.set_cons_zero]
  have hD := (Below.refl w1.heap.size w1).drew
  replace R := row_below R hD
  replace q0 := btr q0 hD
  have K1 := hid (HS1.out.keep (KpT.below hD)); have K2 := hid (HS2.out.keep (KpT.below hD))
  replace hrb := Nat.lt_of_lt_of_le hrb hD.size
  clear HS1 HS2 y0 y1 y2 y3 gg hD
  generalize w1.drew = u at *
  have z0 : u.cell? ⟨w.heap.size + 1, 0, none⟩ = some (.int .i64 0) := R.cell (i := 0) (by decide)
  have f0 : u.frozen? ⟨w.heap.size + 1, 0, none⟩ = false := R.frozen _
  have z1 : u.cell? ⟨w.heap.size + 1, 1, none⟩ = some (.string ⟨#[]⟩) := R.cell (i := 1) (by decide)
  have f1 : u.frozen? ⟨w.heap.size + 1, 1, none⟩ = false := R.frozen _
  have z2 : u.cell? ⟨w.heap.size + 1, 2, none⟩ = some (.slice none 0 0) := R.cell (i := 2) (by decide)
  have f2 : u.frozen? ⟨w.heap.size + 1, 2, none⟩ = false := R.frozen _
  have z3 : u.cell? ⟨w.heap.size + 1, 3, none⟩ = some (.string ⟨#[]⟩) := R.cell (i := 3) (by decide)
  have f3 : u.frozen? ⟨w.heap.size + 1, 3, none⟩ = false := R.frozen _
  have z4 : u.cell? ⟨w.heap.size + 1, 4, none⟩ = some (.slice none 0 0) := R.cell (i := 4) (by decide)
  have f4 : u.frozen? ⟨w.heap.size + 1, 4, none⟩ = false := R.frozen _
  have z5 : u.cell? ⟨w.heap.size + 1, 5, none⟩ = some (.slice none 0 0) := R.cell (i := 5) (by decide)
  have f5 : u.frozen? ⟨w.heap.size + 1, 5, none⟩ = false := R.frozen _
  have z6 : u.cell? ⟨w.heap.size + 1, 6, none⟩ = some (.slice none 0 0) := R.cell (i := 6) (by decide)
  have f6 : u.frozen? ⟨w.heap.size + 1, 6, none⟩ = false := R.frozen _
  have z7 : u.cell? ⟨w.heap.size + 1, 7, none⟩ = some (.int .i64 0) := R.cell (i := 7) (by decide)
  have f7 : u.frozen? ⟨w.heap.size + 1, 7, none⟩ = false := R.frozen _
  have z8 : u.cell? ⟨w.heap.size + 1, 8, none⟩ = some (.bool false) := R.cell (i := 8) (by decide)
  have f8 : u.frozen? ⟨w.heap.size + 1, 8, none⟩ = false := R.frozen _
  obtain ⟨⟨t0, t1, t2, t3, t4, t5, t6, t7, t8⟩, hblk, hszc, hbel⟩ := chain9 R (.int .i64 1) (.string a.nm) (.slice B1 a.n d1) (.string b.nm) (.slice B2 b.n d2) (.slice none 0 0) (.slice none 0 0) (.int .i64 0) (.bool false)
  have HB := hid (hbel w q0 (by omega)); have HBk := hid (KpT.chain R (by decide) hblk)
  clear hblk hszc hbel R q0
  go_wp2
  refine bodyPost_ret (v := .agg #[.int .i64 1, .string a.nm, .slice B1 a.n d1, .string b.nm, .slice B2 b.n d2, .slice none 0 0, .slice none 0 0, .int .i64 0, .bool false]) (by simp [results, Try.results302, go_sem, t0, t1, t2, t3, t4, t5, t6, t7, t8]) rfl ?_
  clear t0 t1 t2 t3 t4 t5 t6 t7 t8
  refine ⟨B1, d1, B2, d2, rfl, (K1.out.keep HBk.out).mono (Nat.zero_le _), (K2.out.keep HBk.out).mono (Nat.zero_le _), ⟨e2, e3, e6, e7⟩, HB.out⟩
end Go.Proofs.Ytanfljajafelgaa

namespace Go.Proofs.Ytanfljajafelgaa
set_option linter.unusedVariables false
set_option linter.unusedSimpArgs false
open Go.RowKit
theorem tx_empty {t : Tm} : (tx t).toList.isEmpty = !wellB t := by
  cases h : wellB t
  · have : tx t = ⟨#[]⟩ := by unfold tx textT; rw [if_neg (by rw [h]; simp)]
    rw [this]; simp
  · rw [tx_well h]
    obtain ⟨h1, _⟩ := wellB_iff.1 h
    cases t with
    | bad => simp [shapeB] at h1
    | mk nm n kid =>
      have h2 : nameB nm = true := by
        unfold shapeB at h1
        exact (decide_eq_true_iff.1 h1).1
      have h3 := (nameB_iff.1 h2).1
      have h4 : (tb (.mk nm n kid)).toList.length ≠ 0 := by
        unfold tb
        rw [ByteArray.toList_eq]
        simp only [txt]
        have : nm.data.toList.length = nm.size := by rw [Array.length_toList]; rfl
        rw [List.length_append]
        omega
      cases h5 : (tb (.mk nm n kid)).toList with
      | nil => rw [h5] at h4; simp at h4
      | cons => rfl
-- PART 2
/-- an addend may stand in a sum -/
def AdOk (x : Ad) : Prop := wellB x.t = true ∧ x.z ≠ 0 ∧ -50 ≤ x.z ∧ x.z ≤ 50
set_option maxRecDepth 100000 in
set_option maxHeartbeats 4000000 in
theorem adwell_any (x : Ad) (r : Bool) (hr : r = true ↔ AdOk x) (w : World) :
    Calls Try.prog 315 #[.agg x.cells.toArray] w fun e w' => e = .returned (.bool r) ∧ Below w.heap.size w w' := by
  have HR := hid hr; clear hr
  simp only [Ad.cells, List.toArray]
  have q0 := bal (Below.refl w.heap.size w) (.cells #[.string (tx x.t), .string x.t.nm, .slice x.a x.t.n x.c, .int .i64 x.z] 344)
  have hE := tx_empty (t := x.t)
  cases hw : wellB x.t
  · rw [hw] at hE
    have hbf := hid (b_no HR.out (fun h => by have := h.1; rw [hw] at this; cases this))
    have e0 : (tx x.t).toList.isEmpty = true := hE
    clear hE hw
    go_enter Try.func315, Try.ntmps315
    go_wp2
    go_ret
    exact ⟨ret_bool hbf.out.symm, q0⟩
  rw [hw] at hE
  have e0 : (tx x.t).toList.isEmpty = false := hE
  clear hE
  by_cases h1 : x.z = 0
  · have hbf := hid (b_no HR.out (fun h => h.2.1 h1))
    have z1 : (x.z != 0) = false := by simpa using h1
    clear h1 hw
    go_enter Try.func315, Try.ntmps315
    go_wp2
    go_ret
    exact ⟨ret_bool hbf.out.symm, q0⟩
  have z1 : (x.z != 0) = true := by simpa using h1
  by_cases h2 : -50 ≤ x.z
  rotate_left
  · have hbf := hid (b_no HR.out (fun h => h2 h.2.2.1))
    have z2 : decide (-50 ≤ x.z) = false := by simpa using h2
    clear h1 h2 hw
    go_enter Try.func315, Try.ntmps315
    go_wp2
    go_ret
    exact ⟨ret_bool hbf.out.symm, q0⟩
  have z2 : decide (-50 ≤ x.z) = true := by simpa using h2
  have hbf := hid (show decide (x.z ≤ 50) = r by
    by_cases h3 : x.z ≤ 50
    · rw [b_yes HR.out ⟨hw, h1, h2, h3⟩]; simpa using h3
    · rw [b_no HR.out (fun h => h3 h.2.2.2)]; simpa using h3)
  clear h1 h2 hw
  go_enter Try.func315, Try.ntmps315
  go_wp2
  go_ret
  exact ⟨ret_bool hbf.out, q0⟩
/-- an inequality as a value -/
def ineqV (sa : Option Addr) (n cap : Nat) (bd : Int) (st : Bool) : Value := .agg #[.slice sa n cap, .int .i64 bd, .bool st]
/-- the addends are read -/
def RdD (w : World) (sa : Option Addr) (X : List Ad) : Prop := X.length = 0 ∨ ∃ g, sa = some ⟨g, 0, none⟩ ∧ g < w.heap.size ∧ CellsD w g X
theorem RdD.below {w w' : World} {sa : Option Addr} {X : List Ad} (hb : Below w.heap.size w w') (h : RdD w sa X) : RdD w' sa X := by
  rcases h with h | ⟨g, h1, h2, h3⟩
  · exact .inl h
  · exact .inr ⟨g, h1, Nat.lt_of_lt_of_le h2 hb.size, h3.below hb⟩
def IneqOk (X : List Ad) (bd : Int) : Prop := (∀ k, k < X.length → AdOk (X.getD k default)) ∧ 0 < X.length ∧ -1000 ≤ bd ∧ bd ≤ 1000
set_option maxRecDepth 100000 in
set_option maxHeartbeats 8000000 in
theorem ineqwell_any (X : List Ad) (sa : Option Addr) (cap : Nat) (bd : Int) (st : Bool) (r : Bool) (hr : r = true ↔ IneqOk X bd) (w : World) (hl : X.length ≤ 1000) (hX : RdD w sa X) :
    Calls Try.prog 313 #[ineqV sa X.length cap bd st] w fun e w' => e = .returned (.bool r) ∧ Below w.heap.size w w' := by
  unfold ineqV
  have HR := hid hr; clear hr
  have H : KcL [(w.heap.size, 0, .slice sa X.length cap), (w.heap.size, 1, .int .i64 bd)] (w.alloc (.cells #[.slice sa X.length cap, .int .i64 bd, .bool st] 299)) := by
    refine ⟨?_, ?_, trivial⟩ <;> simp [go_sem]
  have q0 := bal (Below.refl w.heap.size w) (.cells #[.slice sa X.length cap, .int .i64 bd, .bool st] 299)
  have hX2 := hX.below q0
  obtain ⟨n, hn⟩ : ∃ n, X.length = n := ⟨_, rfl⟩
  clear hX
  rw [hn] at H q0 ⊢
  have hX3 : RdD (w.alloc (.cells #[.slice sa n cap, .int .i64 bd, .bool st] 299)) sa X := hn ▸ hX2
  clear hX2
  have HN := hid hn
  replace hl : n ≤ 1000 := by omega
  clear hn
  go_enter Try.func313, Try.ntmps313
  have HH_ := H; obtain ⟨s0, s1, _⟩ := HH_
  go_wp2
  clear s0 s1
  generalize w.alloc (.cells #[.slice sa n cap, .int .i64 bd, .bool st] 299) = W0 at *
  go_loopw [8] (fun i wr => ∃ k : Nat, k ≤ n ∧ i = .int .i64 k ∧ Below W0.heap.size W0 wr ∧ ∀ j, j < k → AdOk (X.getD j default)) (fun i _ => n - (intOf i).toNat)
  case atStart => exact ⟨0, Nat.zero_le _, rfl, Below.refl _ _, fun k h => absurd h (Nat.not_lt_zero _)⟩
  case round =>
    obtain ⟨k, hk, rfl, hb, he⟩ := hrel
    have HE := hid he; clear he
    replace H := H.below hb
    replace q0 := btr q0 hb
    by_cases hlt : k < n
    rotate_left
    · have hke : k = n := by omega
      subst hke
      have HT := hid (show ∀ j, j < X.length → AdOk (X.getD j default) from fun j hj => HE.out j (by rw [← HN.out]; exact hj))
      have HH_ := H; obtain ⟨s0, s1, _⟩ := HH_
      have l0 := cell_lt s0
      cases k with
      | zero =>
        have hbf := hid (b_no HR.out (fun h => by have := h.2.1; rw [HN.out] at this; exact absurd this (Nat.lt_irrefl _)))
        go_wp2
        go_ret
        exact ⟨ret_bool hbf.out.symm, q0⟩
      | succ p =>
      have z0 : decide ((0 : Int) < ((p + 1 : Nat) : Int)) = true := by simp
      have H0 := hid (show 0 < X.length by rw [HN.out]; exact Nat.succ_pos _)
      by_cases h1 : -1000 ≤ bd
      rotate_left
      · have hbf := hid (b_no HR.out (fun h => h1 h.2.2.1))
        have z1 : decide (-1000 ≤ bd) = false := by simpa using h1
        clear h1
        go_wp2
        go_ret
        exact ⟨ret_bool hbf.out.symm, q0⟩
      have z1 : decide (-1000 ≤ bd) = true := by simpa using h1
      have hbf := hid (show decide (bd ≤ 1000) = r by
        by_cases h2 : bd ≤ 1000
        · rw [b_yes HR.out ⟨HT.out, H0.out, h1, h2⟩]; simpa using h2
        · rw [b_no HR.out (fun h => h2 h.2.2.2)]; simpa using h2)
      clear h1
      go_wp2
      go_ret
      exact ⟨ret_bool hbf.out, q0⟩
    rcases hX3 with h3 | ⟨g, rfl, hg, hc⟩
    · rw [HN.out] at h3; omega
    have HL := hid (show k < X.length by rw [HN.out]; exact hlt)
    obtain ⟨x0, x1, x2, x3⟩ := hc k HL.out
    replace x0 := carry hb x0
    replace x1 := carry hb x1
    replace x2 := carry hb x2
    replace x3 := carry hb x3
    have gg := Nat.lt_of_lt_of_le hg hb.size
    clear hc
    generalize hx : X.getD k default = x at *
    have HX := hid hx; clear hx
    obtain ⟨ra, hra⟩ := bool_of (AdOk x)
    have hO := fun W => adwell_any x ra hra W
    simp only [Ad.cells, List.toArray] at hO
    have HRA := hid hra; clear hra
    have HH_ := H; obtain ⟨s0, s1, _⟩ := HH_
    go_wp2_with fail
    refine (hO _).mono ?_
    rintro e w3 ⟨rfl, hq⟩
    have AL := btr (bal (Below.refl wr.heap.size wr) (.cells #[.string (tx x.t), .string x.t.nm, .slice x.a x.t.n x.c, .int .i64 x.z] 344)) hq
    clear s0 s1
    clear hO
    cases ra with
    | false =>
      have hbf := hid (b_no HR.out (fun h => by have := HRA.out.2 (by rw [← HX.out]; exact h.1 k HL.out); cases this))
      go_wp2
      go_ret
      exact ⟨ret_bool hbf.out.symm, btr q0 AL⟩
    | true =>
      have HQ := hid (HRA.out.1 rfl)
      go_wp2
      go_roundw
      case rel =>
        refine ⟨k + 1, by omega, by go_num, btr hb AL, fun j hj => ?_⟩
        by_cases e : j = k
        · subst e; rw [HX.out]; exact HQ.out
        · exact HE.out j (by omega)
      case measure => simp [intOf]; omega
end Go.Proofs.Ytanfljajafelgaa

namespace Go.Proofs.Ytanfljajafelgaa
set_option linter.unusedVariables false
set_option linter.unusedSimpArgs false
open Go.RowKit
def Ad.tx1 (x : Ad) : TX := ⟨x.t, x.a, x.c⟩
/-- the terms of addends -/
def tmsD (X : List Ad) : List TX := X.map Ad.tx1
theorem tmsD_len (X : List Ad) : (tmsD X).length = X.length := by simp [tmsD]
theorem tmsD_at {X : List Ad} {k : Nat} (hk : k < X.length) : (tmsD X).getD k default = (X.getD k default).tx1 := by
  unfold tmsD
  rw [List.getD_eq_getElem?_getD, List.getD_eq_getElem?_getD, List.getElem?_map, List.getElem?_eq_getElem hk]; rfl
theorem tmsD_next {X : List Ad} {k : Nat} (hk : k < X.length) : flatX ((tmsD X).take (k + 1)) = flatX ((tmsD X).take k) ++ (X.getD k default).tx1.cells := by
  have h : k < (tmsD X).length := by rw [tmsD_len]; exact hk
  rw [List.take_add_one, List.getElem?_eq_getElem h, flatX_app]
  have e := tmsD_at hk
  rw [List.getD_eq_getElem?_getD, List.getElem?_eq_getElem h, Option.getD_some] at e
  rw [e]; simp [flatX]
theorem new2 (w : World) (x0 x1 : Value) (t : TypeId) : ∀ (j : Nat) (u : Value), ([x0, x1] : List Value)[j]? = some u → (w.alloc (.cells #[x0, x1] t)).cell? ((⟨w.heap.size, 0, none⟩ : Addr).add j) = some u := by
  intro j u h
  match j with
  | 0 => simp at h; subst h; simp [go_sem, Addr.add]
  | 1 => simp at h; subst h; simp [go_sem, Addr.add]
  | j + 2 => simp at h
/-- the parts of the terms of addends are read -/
def KdD (w : World) (X : List Ad) : Prop := ∀ k, k < X.length → (X.getD k default).t.n ≤ (X.getD k default).c ∧ (X.getD k default).c ≤ 9223372036854775807 ∧ KidT 0 w (X.getD k default).t (X.getD k default).a
theorem KdD.below {w w' : World} {X : List Ad} (hb : Below w.heap.size w w') (h : KdD w X) : KdD w' X := fun k hk => ⟨(h k hk).1, (h k hk).2.1, (h k hk).2.2.keep (KpT.below hb)⟩
set_option maxRecDepth 100000 in
set_option maxHeartbeats 8000000 in
theorem ineqterms_any (X : List Ad) (sa : Option Addr) (cap : Nat) (bd : Int) (st : Bool) (w : World) (hl : X.length ≤ 1000) (hX : RdD w sa X) (hK : KdD w X) (hF : ∀ k, k < X.length → Fits 1048576 (X.getD k default).t) :
    Calls Try.prog 312 #[ineqV sa X.length cap bd st] w (CopiesP w (.mk ⟨#[]⟩ X.length (fun k => (X.getD k default).t))) := by
  unfold ineqV
  have q0 := bal (Below.refl w.heap.size w) (.cells #[.slice sa X.length cap, .int .i64 bd, .bool st] 299)
  have HX2 := hid (hX.below q0)
  have HK2 := hid (hK.below q0)
  have HF := hid hF
  obtain ⟨i0, hi, hz0, hz1, hz2⟩ := info_parts infoTm
  clear hX hK hF
  go_enter Try.func312, Try.ntmps312
  go_wp2
  generalize w.alloc (.cells #[.slice sa X.length cap, .int .i64 bd, .bool st] 299) = W0 at *
  go_loopw [3, 9] (fun vv i wr => ∃ (k : Nat) (v : Value), k ≤ X.length ∧ i = .int .i64 k ∧ vv = v ∧ Below W0.heap.size W0 wr ∧ wr.ownsRow W0.heap.size 76 2 v k (flatX ((tmsD X).take k))) (fun _ i _ => X.length - (intOf i).toNat)
  case atStart => exact ⟨0, .slice none 0 0, Nat.zero_le _, rfl, rfl, Below.refl _ _, World.ownsRow_nil _ _ _ _⟩
  case round =>
    obtain ⟨k, v, hk, rfl, hvv, hb, ho⟩ := hrel
    have HO := hid ho
    have hvn : ∃ va vc, v = Value.slice va k vc := by
      obtain ⟨_, ⟨h, h0⟩ | ⟨g, cp, cur, h, _⟩⟩ := ho
      · exact ⟨none, 0, by rw [h, h0]⟩
      · exact ⟨_, _, h⟩
    clear ho
    obtain ⟨va, vc, hve⟩ := hvn
    subst hve
    subst hvv
    by_cases hlt : k < X.length
    rotate_left
    · have hke : k = X.length := by omega
      have hown := HO.out
      have HB := hid hb
      obtain ⟨A, c, e1, m1, m2, hKT⟩ := own_kidt (n := k) (kid := fun k => (X.getD k default).t) (f := fun k => ((X.getD k default).a, (X.getD k default).c)) hown (fun j hj => by
        have hj' : j < X.length := by omega
        have hjl : j < ((tmsD X).take k).length := by rw [List.length_take, tmsD_len]; omega
        obtain ⟨f0, f1⟩ := flatX_at _ j hjl
        have e := tmsD_at hj'
        have e2 : ((tmsD X).take k).getD j default = (tmsD X).getD j default := by
          rw [List.getD_eq_getElem?_getD, List.getD_eq_getElem?_getD, List.getElem?_take_of_lt hj]
        rw [e2, e] at f0 f1
        obtain ⟨g1, g2, g3⟩ := HK2.out j hj'
        exact ⟨f0, f1, g1, g2, g3.keep (KpT.below HB.out)⟩)
      injection e1 with e1 _ e3
      subst e1 e3
      have HF2 := hid (show Fits 1048576 (.mk ⟨#[]⟩ k (fun k => (X.getD k default).t)) from ⟨by decide, by omega, fun j hj => HF.out j (by omega)⟩)
      have C1 := hid (copyterms_any _ HF2.out va vc wr hKT.kids)
      have q1 := btr q0 hb
      clear hKT hown
      have HKE := hid hke; clear hke
      go_wp2_with fail
      refine C1.out.mono ?_
      rintro e w3 ⟨A3, c3, rfl, n1, n2, hS, hq, hz⟩
      go_wp2
      go_ret
      have hle : w.heap.size ≤ wr.heap.size := q1.size
      rw [← HKE.out]
      exact ⟨A3, c3, rfl, n1, n2, hS.mono hle (Nat.le_refl _), btr q1 hq, hz⟩
    rcases HX2.out with h3 | ⟨g, rfl, hg, hc⟩
    · omega
    obtain ⟨x0, x1, x2, x3⟩ := hc k hlt
    replace x0 := carry hb x0
    replace x1 := carry hb x1
    replace x2 := carry hb x2
    replace x3 := carry hb x3
    have gg := Nat.lt_of_lt_of_le hg hb.size
    have hnx := tmsD_next hlt
    clear hc
    generalize hx : X.getD k default = x at *
    have HNX := hid hnx; clear hx hnx
    have CX := bal (bal (Below.refl wr.heap.size wr) (.cells #[.string (tx x.t), .string x.t.nm, .slice x.a x.t.n x.c, .int .i64 x.z] 344)) (.cells #[.string x.t.nm, .slice x.a x.t.n x.c] 76)
    have hown4 := own_belowT CX HO.out
    have hl4 : W0.heap.size ≤ ((wr.alloc (.cells #[.string (tx x.t), .string x.t.nm, .slice x.a x.t.n x.c, .int .i64 x.z] 344)).alloc (.cells #[.string x.t.nm, .slice x.a x.t.n x.c] 76)).heap.size := Nat.le_trans hb.size CX.size
    have hnews := new2 (wr.alloc (.cells #[.string (tx x.t), .string x.t.nm, .slice x.a x.t.n x.c, .int .i64 x.z] 344)) (.string x.t.nm) (.slice x.a x.t.n x.c) 76
    rw [show (wr.alloc (.cells #[.string (tx x.t), .string x.t.nm, .slice x.a x.t.n x.c, .int .i64 x.z] 344)).heap.size = wr.heap.size + 1 by simp] at hnews
    have hone : ∀ u ∈ ([.string x.t.nm, .slice x.a x.t.n x.c] : List Value), u.oneCell' = true := fun u hu => by simp at hu; rcases hu with rfl | rfl <;> rfl
    go_wp2_with ((at_builtin; go_loud (refine wpList_append_own_at _ rfl _ _ 52 rfl W0.heap.size 76 i0 _ 2 40 Try.underlying52 hi hz0 hz1 hz2 rfl (by decide) (.slice va k vc) k (flatX ((tmsD X).take k)) rfl hown4 ⟨wr.heap.size + 1, 0, none⟩ 1 1 [.string x.t.nm, .slice x.a x.t.n x.c] rfl rfl hnews hone (by unfold maxLen; omega) (by omega) hl4 ?_); intro v' w6 hown6 hgrow _ _; have hb6 := below_grow (btr hb CX) hgrow (fun g e => own_low0 hown4 e); have HO6 := hid hown6; have HB6 := hid hb6; clear hown6 hgrow hb6 hown4 hl4 hnews hone CX))
    go_roundw
    case rel => exact ⟨k + 1, v', by omega, by go_num, rfl, HB6.out, by rw [HNX.out]; exact HO6.out⟩
    case measure => simp [intOf]; omega
end Go.Proofs.Ytanfljajafelgaa

namespace Go.Proofs.Ytanfljajafelgaa
set_option linter.unusedVariables false
set_option linter.unusedSimpArgs false
open Go.RowKit
theorem nine {f g : Nat → Value} (h : f 0 = g 0 ∧ f 1 = g 1 ∧ f 2 = g 2 ∧ f 3 = g 3 ∧ f 4 = g 4 ∧ f 5 = g 5 ∧ f 6 = g 6 ∧ f 7 = g 7 ∧ f 8 = g 8) : ∀ i, i < 9 → f i = g i := by
  obtain ⟨h0, h1, h2, h3, h4, h5, h6, h7, h8⟩ := h
  intro i hi
  match i, hi with
  | 0, _ => exact h0
  | 1, _ => exact h1
  | 2, _ => exact h2
  | 3, _ => exact h3
  | 4, _ => exact h4
  | 5, _ => exact h5
  | 6, _ => exact h6
  | 7, _ => exact h7
  | 8, _ => exact h8
theorem row9 {w : World} {g : Nat} {T : TypeId} {f : Nat → Value} (h : w.rowIs g T 9 f) (v0 v1 v2 v3 v4 v5 v6 v7 v8 : Value) : (((((((((w.setCell ⟨g, 0, none⟩ v0).setCell ⟨g, 1, none⟩ v1).setCell ⟨g, 2, none⟩ v2).setCell ⟨g, 3, none⟩ v3).setCell ⟨g, 4, none⟩ v4).setCell ⟨g, 5, none⟩ v5).setCell ⟨g, 6, none⟩ v6).setCell ⟨g, 7, none⟩ v7).setCell ⟨g, 8, none⟩ v8).rowIs g T 9 (rowOf #[v0, v1, v2, v3, v4, v5, v6, v7, v8]) :=
  (((((((((h.set 0 v0).set 1 v1).set 2 v2).set 3 v3).set 4 v4).set 5 v5).set 6 v6).set 7 v7).set 8 v8).congr (nine ⟨rfl, rfl, rfl, rfl, rfl, rfl, rfl, rfl, rfl⟩)
/-- the times of addends -/
def zlD (X : List Ad) : List Value := X.map (fun x => .int .i64 x.z)
theorem zlD_len (X : List Ad) : (zlD X).length = X.length := by simp [zlD]
theorem zlD_at {X : List Ad} {k : Nat} (hk : k < X.length) : (zlD X)[k]? = some (.int .i64 (X.getD k default).z) := by
  unfold zlD
  rw [List.getD_eq_getElem?_getD, List.getElem?_map, List.getElem?_eq_getElem hk]; rfl
theorem zlD_next {X : List Ad} {k : Nat} (hk : k < X.length) : (zlD X).take (k + 1) = (zlD X).take k ++ [.int .i64 (X.getD k default).z] := by
  rw [List.take_add_one, zlD_at hk]; rfl
/-- a row of ints of one's own is read -/
theorem own_intsD {w : World} {base : Nat} {v : Value} {X : List Ad} (h : w.ownsRow base 3 1 v X.length ((zlD X).take X.length)) : ∃ A c, v = .slice A X.length c ∧ X.length ≤ c ∧ c ≤ 9223372036854775807 ∧ Ints w A X.length (fun k => (X.getD k default).z) := by
  obtain ⟨hl, ⟨rfl, h0⟩ | ⟨g, cap, cur, rfl, hg, hh, h1, h2, h3, h4⟩⟩ := h
  · exact ⟨none, 0, by rw [h0], by omega, by omega, .inl h0⟩
  · refine ⟨_, cap, rfl, h1, by unfold maxLen at h2; omega, .inr ⟨g, 0, rfl, (Array.getElem?_eq_some_iff.1 hh).1, fun k hk => ?_⟩⟩
    have e := zlD_at hk
    have e2 : ((zlD X).take X.length)[k]? = (zlD X)[k]? := List.getElem?_take_of_lt hk
    rw [← e2, ← h4, List.getElem?_take_of_lt (by omega), Array.getElem?_toList] at e
    rw [Nat.zero_add]
    simp [World.cell?, hh, e]
theorem cell_chain {u C : World} {ab : Nat} (hblk : ∀ x, x ≠ ab → C.heap[x]? = u.heap[x]?) {b o : Nat} {v : Value} (hne : b ≠ ab) (h : u.cell? ⟨b, o, none⟩ = some v) : C.cell? ⟨b, o, none⟩ = some v := (World.cell?_of_block (a := ⟨b, o, none⟩) (hblk b hne)).trans h
theorem own_kpB {w w' : World} {base n size : Nat} {e : TypeId} {v : Value} {xs : List Value} (hv : ∀ g, v.ownBlock = some g → w'.heap[g]? = w.heap[g]?) (h : w.ownsRow base e size v n xs) : w'.ownsRow base e size v n xs := by
  obtain ⟨h1, h | ⟨g, cap, cur, rfl, h2, hh, h3⟩⟩ := h
  · exact ⟨h1, .inl h⟩
  · exact ⟨h1, .inr ⟨g, cap, cur, rfl, h2, (hv g rfl).trans hh, h3⟩⟩
theorem KpT.frame {w C : World} {g n : Nat} {T : TypeId} {f : Nat → Value} (hR : w.rowIs g T n f) (hT : T ≠ 76) (hb : ∀ x, x < w.heap.size → x ≠ g → C.heap[x]? = w.heap[x]?) : KpT w C := fun x cs hx =>
  (hb x (Array.getElem?_eq_some_iff.1 hx).1 (fun e => by
    subst e
    obtain ⟨c, hc, _⟩ := hR
    rw [hc] at hx
    injection hx with hx
    injection hx with _ h2 _
    exact hT h2)).trans hx
theorem new1 (w : World) (x0 : Value) (t : TypeId) : ∀ (j : Nat) (u : Value), ([x0] : List Value)[j]? = some u → (w.alloc (.cells #[x0] t)).cell? ((⟨w.heap.size, 0, none⟩ : Addr).add j) = some u := by
  intro j u h
  match j with
  | 0 => simp at h; subst h; simp [go_sem, Addr.add]
  | j + 1 => simp at h
def noT : Tm := .mk ⟨#[]⟩ 0 (fun _ => .bad)
/-- the atom that a sum is bounded -/
def atSum (X : List Ad) (bd : Int) (st : Bool) : At := ⟨2, noT, noT, X.length, fun k => (X.getD k default).t, X.length, fun k => (X.getD k default).z, bd, st⟩
def IneqAtomP (w : World) (X : List Ad) (bd : Int) (st : Bool) (e : Ending) (w' : World) : Prop :=
  ∃ B3 d3 B4 d4, e = .returned (.agg ((atSum X bd st).cs none 0 none 0 B3 d3 B4 d4)) ∧ AtT w' (atSum X bd st) none none B3 B4 ∧ X.length ≤ d3 ∧ d3 ≤ 9223372036854775807 ∧ X.length ≤ d4 ∧ d4 ≤ 9223372036854775807 ∧ Below w.heap.size w w'
set_option maxRecDepth 100000 in
set_option maxHeartbeats 8000000 in
theorem ineqatom_any (X : List Ad) (sa : Option Addr) (cap : Nat) (bd : Int) (st : Bool) (w : World) (hl : X.length ≤ 1000) (hn0 : X.length ≠ 0) (hX : RdD w sa X) (hK : KdD w X) (hF : ∀ k, k < X.length → Fits 1048576 (X.getD k default).t) :
    Calls Try.prog 309 #[ineqV sa X.length cap bd st] w (IneqAtomP w X bd st) := by
  have C1 := hid (fun W (h : Below w.heap.size w W) => ineqterms_any X sa cap bd st W hl (hX.below h) (hK.below h) hF)
  unfold ineqV at *
  have q0 := bal (bal (Below.refl w.heap.size w) (.cells #[.slice sa X.length cap, .int .i64 bd, .bool st] 299)) (.cells #[.int .i64 0, .string ⟨#[]⟩, .slice none 0 0, .string ⟨#[]⟩, .slice none 0 0, .slice none 0 0, .slice none 0 0, .int .i64 0, .bool false] 95)
  have HX2 := hid (hX.below q0)
  have R := row_newA (w.alloc (.cells #[.slice sa X.length cap, .int .i64 bd, .bool st] 299)) #[.int .i64 0, .string ⟨#[]⟩, .slice none 0 0, .string ⟨#[]⟩, .slice none 0 0, .slice none 0 0, .slice none 0 0, .int .i64 0, .bool false] 95
  have hsz : (w.alloc (.cells #[.slice sa X.length cap, .int .i64 bd, .bool st] 299)).heap.size = w.heap.size + 1 := by simp
  rw [hsz] at R
  have H : KcL [(w.heap.size, 0, .slice sa X.length cap), (w.heap.size, 1, .int .i64 bd), (w.heap.size, 2, .bool st)] ((w.alloc (.cells #[.slice sa X.length cap, .int .i64 bd, .bool st] 299)).alloc (.cells #[.int .i64 0, .string ⟨#[]⟩, .slice none 0 0, .string ⟨#[]⟩, .slice none 0 0, .slice none 0 0, .slice none 0 0, .int .i64 0, .bool false] 95)) := by
    refine ⟨?_, ?_, ?_, trivial⟩ <;> simp [go_sem]
  obtain ⟨i0, hi, hz0, hz1, hz2⟩ := info_parts infoI
  clear hX hK hF
  have R2 : ((w.alloc (.cells #[.slice sa X.length cap, .int .i64 bd, .bool st] 299)).alloc (.cells #[.int .i64 0, .string ⟨#[]⟩, .slice none 0 0, .string ⟨#[]⟩, .slice none 0 0, .slice none 0 0, .slice none 0 0, .int .i64 0, .bool false] 95)).rowIs (w.heap.size + 1) 95 9 (rowOf #[.int .i64 0, .string ⟨#[]⟩, .slice none 0 0, .string ⟨#[]⟩, .slice none 0 0, .slice none 0 0, .slice none 0 0, .int .i64 0, .bool false]) := R
  clear R hsz
  go_enter Try.func309, Try.ntmps309
  rcases HX2.out with h | ⟨g, rfl, hgW, hcX⟩
  · exact absurd h hn0
  clear HX2
  go_upto_region 1 with fail
  have hW0 : w.heap.size + 2 = ((w.alloc (.cells #[.slice (some ⟨g, 0, none⟩) X.length cap, .int .i64 bd, .bool st] 299)).alloc (.cells #[.int .i64 0, .string ⟨#[]⟩, .slice none 0 0, .string ⟨#[]⟩, .slice none 0 0, .slice none 0 0, .slice none 0 0, .int .i64 0, .bool false] 95)).heap.size := by simp
  generalize (w.alloc (.cells #[.slice (some ⟨g, 0, none⟩) X.length cap, .int .i64 bd, .bool st] 299)).alloc (.cells #[.int .i64 0, .string ⟨#[]⟩, .slice none 0 0, .string ⟨#[]⟩, .slice none 0 0, .slice none 0 0, .slice none 0 0, .int .i64 0, .bool false] 95) = W0 at *
  have hD := (Below.refl W0.heap.size W0).drew
  have HD := H.below hD
  refine region_planC (fun w' => KcL [(w.heap.size, 0, .slice (some ⟨g, 0, none⟩) X.length cap), (w.heap.size, 1, .int .i64 bd), (w.heap.size, 2, .bool st)] w') (.takes [0, 2, 3, 4, 5] (.fork 1 7 (.takes [6] (.make 7 .fin)) (.make 1 (.takes [6] .fin)))) 8 rfl (by kernel_rfl) HD ?_
  refine plan_takes ?_; simp only [pickOps, List.getElem?_cons_zero, List.getElem?_cons_succ]
  refine quiet_doC rfl (.agg #[.slice (some ⟨g, 0, none⟩) X.length cap, .int .i64 bd, .bool st]) (fun w' hw' => by obtain ⟨s0, s1, s2, _⟩ := hw'; simp [execOp, go_sem, s0, s1, s2]) ?_
  refine quiet_doC rfl (.pointer (some ⟨w.heap.size, 1, none⟩)) (fun w' hw' => by simp [execOp, go_sem]) ?_
  refine quiet_doC rfl (.int .i64 bd) (fun w' hw' => by obtain ⟨s0, s1, s2, _⟩ := hw'; simp [execOp, go_sem, s1]) ?_
  refine quiet_doC rfl (.pointer (some ⟨w.heap.size, 2, none⟩)) (fun w' hw' => by simp [execOp, go_sem]) ?_
  refine quiet_doC rfl (.bool st) (fun w' hw' => by obtain ⟨s0, s1, s2, _⟩ := hw'; simp [execOp, go_sem, s2]) ?_
  refine wpQuiet_nil ?_
  refine plan_fork ?_ ?_
  rotate_left
  · skip
    have CX3 := bal (Below.refl W0.drew.heap.size W0.drew) (.cells #[.int .i64 0, .string ⟨#[]⟩, .slice none 0 0, .string ⟨#[]⟩, .slice none 0 0, .slice none 0 0, .slice none 0 0, .int .i64 0, .bool false] 95)
    refine planC_val rfl rfl (.pointer (some ⟨W0.drew.heap.size, 0, none⟩)) (w'' := W0.drew.alloc (.cells #[.int .i64 0, .string ⟨#[]⟩, .slice none 0 0, .string ⟨#[]⟩, .slice none 0 0, .slice none 0 0, .slice none 0 0, .int .i64 0, .bool false] 95)) (by simp [execOp, go_sem]) (HD.below CX3) ?_
    have RA0 : (W0.drew.alloc (.cells #[.int .i64 0, .string ⟨#[]⟩, .slice none 0 0, .string ⟨#[]⟩, .slice none 0 0, .slice none 0 0, .slice none 0 0, .int .i64 0, .bool false] 95)).rowIs W0.drew.heap.size 95 9 (rowOf #[.int .i64 0, .string ⟨#[]⟩, .slice none 0 0, .string ⟨#[]⟩, .slice none 0 0, .slice none 0 0, .slice none 0 0, .int .i64 0, .bool false]) := row_newA W0.drew #[.int .i64 0, .string ⟨#[]⟩, .slice none 0 0, .string ⟨#[]⟩, .slice none 0 0, .slice none 0 0, .slice none 0 0, .int .i64 0, .bool false] 95
    refine planC_call rfl rfl 312 #[.agg #[.slice (some ⟨g, 0, none⟩) X.length cap, .int .i64 bd, .bool st]] (by kernel_rfl) ?_
    refine (C1.out _ (btr q0 (btr hD CX3))).mono ?_
    rintro e u ⟨B3, d3, rfl, m1, m2, hS, hq, hzz⟩
    refine ⟨_, rfl, (HD.below CX3).below hq, ?_⟩
    refine plan_takes ?_; simp only [pickOps, List.getElem?_cons_zero, List.getElem?_cons_succ]
    have tn : (Tm.mk ⟨#[]⟩ X.length (fun k => (X.getD k default).t)).n = X.length := rfl
    rw [tn] at m1 hzz ⊢
    obtain ⟨g3, rfl⟩ := hzz hn0
    clear tn hzz
    refine quiet_doC rfl (.agg #[.int .i64 2, .string ⟨#[]⟩, .slice none 0 0, .string ⟨#[]⟩, .slice none 0 0, .slice (some ⟨g3, 0, none⟩) X.length d3, .slice none 0 0, .int .i64 bd, .bool st]) (fun w' hw' => by simp [execOp, go_sem]) ?_
    refine wpQuiet_nil ?_
    have hqq := btr hD (btr CX3 hq)
    refine plan_fin ?_
    simp only [List.drop_succ_cons, List.drop_zero, Act.put, List.setIfInBounds_toArray, List.set_cons_succ, List.set_cons_zero]
    have RA := row_below RA0 hq
    replace H := H.below hqq
    replace R2 := row_below R2 hqq
    replace q0 := btr q0 hqq
    have hXX := hcX.below hqq
    have hKT := (hS.kidT (B := 0) (Nat.zero_le _))
    have hab : w.heap.size + 1 < W0.drew.heap.size := by have := hD.size; omega
    have hgab : g < W0.drew.heap.size := by have := hD.size; omega
    have hl3 : W0.drew.heap.size < u.heap.size := RA.lt
    clear C1 hcX HD hS hqq CX3 hq hD hW0 RA0
    generalize W0.drew.heap.size = ab at *
    have z0 : u.cell? ⟨ab, 0, none⟩ = some (.int .i64 0) := RA.cell (i := 0) (by decide)
    have fz0 : u.frozen? ⟨ab, 0, none⟩ = false := RA.frozen _
    have z1 : u.cell? ⟨ab, 1, none⟩ = some (.string ⟨#[]⟩) := RA.cell (i := 1) (by decide)
    have fz1 : u.frozen? ⟨ab, 1, none⟩ = false := RA.frozen _
    have z2 : u.cell? ⟨ab, 2, none⟩ = some (.slice none 0 0) := RA.cell (i := 2) (by decide)
    have fz2 : u.frozen? ⟨ab, 2, none⟩ = false := RA.frozen _
    have z3 : u.cell? ⟨ab, 3, none⟩ = some (.string ⟨#[]⟩) := RA.cell (i := 3) (by decide)
    have fz3 : u.frozen? ⟨ab, 3, none⟩ = false := RA.frozen _
    have z4 : u.cell? ⟨ab, 4, none⟩ = some (.slice none 0 0) := RA.cell (i := 4) (by decide)
    have fz4 : u.frozen? ⟨ab, 4, none⟩ = false := RA.frozen _
    have z5 : u.cell? ⟨ab, 5, none⟩ = some (.slice none 0 0) := RA.cell (i := 5) (by decide)
    have fz5 : u.frozen? ⟨ab, 5, none⟩ = false := RA.frozen _
    have z6 : u.cell? ⟨ab, 6, none⟩ = some (.slice none 0 0) := RA.cell (i := 6) (by decide)
    have fz6 : u.frozen? ⟨ab, 6, none⟩ = false := RA.frozen _
    have z7 : u.cell? ⟨ab, 7, none⟩ = some (.int .i64 0) := RA.cell (i := 7) (by decide)
    have fz7 : u.frozen? ⟨ab, 7, none⟩ = false := RA.frozen _
    have z8 : u.cell? ⟨ab, 8, none⟩ = some (.bool false) := RA.cell (i := 8) (by decide)
    have fz8 : u.frozen? ⟨ab, 8, none⟩ = false := RA.frozen _
    go_upto_region 2 with fail
    clear z0 fz0 z1 fz1 z2 fz2 z3 fz3 z4 fz4 z5 fz5 z6 fz6 z7 fz7 z8 fz8
    obtain ⟨_, hblk, hszc, hbel⟩ := chain9 RA (.int .i64 2) (.string ⟨#[]⟩) (.slice none 0 0) (.string ⟨#[]⟩) (.slice none 0 0) (.slice (some ⟨g3, 0, none⟩) X.length d3) (.slice none 0 0) (.int .i64 bd) (.bool st)
    have RA2 := row9 RA (.int .i64 2) (.string ⟨#[]⟩) (.slice none 0 0) (.string ⟨#[]⟩) (.slice none 0 0) (.slice (some ⟨g3, 0, none⟩) X.length d3) (.slice none 0 0) (.int .i64 bd) (.bool st)
    generalize (((((((((u.setCell ⟨ab, 0, none⟩ (.int .i64 2)).setCell ⟨ab, 1, none⟩ (.string ⟨#[]⟩)).setCell ⟨ab, 2, none⟩ (.slice none 0 0)).setCell ⟨ab, 3, none⟩ (.string ⟨#[]⟩)).setCell ⟨ab, 4, none⟩ (.slice none 0 0)).setCell ⟨ab, 5, none⟩ (.slice (some ⟨g3, 0, none⟩) X.length d3)).setCell ⟨ab, 6, none⟩ (.slice none 0 0)).setCell ⟨ab, 7, none⟩ (.int .i64 bd)).setCell ⟨ab, 8, none⟩ (.bool st)) = u1 at *
    replace q0 := hbel w q0 (by omega)
    replace hKT := hKT.keep (KpT.chain RA (by decide) hblk)
    have H2 : KcL [(w.heap.size, 0, .slice (some ⟨g, 0, none⟩) X.length cap), (w.heap.size, 1, .int .i64 bd), (w.heap.size, 2, .bool st)] u1 := by
      obtain ⟨s0, s1, s2, _⟩ := H
      have hne : w.heap.size ≠ ab := by omega
      exact ⟨cell_chain hblk hne s0, cell_chain hblk hne s1, cell_chain hblk hne s2, trivial⟩
    replace R2 := R2.of_block (hblk _ (show w.heap.size + 1 ≠ ab by omega))
    have hX2 : CellsD u1 g X := fun i hi => by
      obtain ⟨x0, x1, x2, x3⟩ := hXX i hi
      have hne : g ≠ ab := by omega
      exact ⟨cell_chain hblk hne x0, cell_chain hblk hne x1, cell_chain hblk hne x2, cell_chain hblk hne x3⟩
    replace hl3 : ab < u1.heap.size := by rw [hszc]; exact hl3
    clear hblk hszc hbel RA H hXX
    obtain ⟨s0, s1, s2, _⟩ := H2
    have l0 := cell_lt s0
    go_wp2
    clear s0 s1 s2 l0
    have HX := hid hX2; clear hX2
    go_loopw [16] (fun i wr => ∃ (k : Nat) (v : Value), k ≤ X.length ∧ i = .int .i64 k ∧ wr.rowIs ab 95 9 (rowOf #[.int .i64 2, .string ⟨#[]⟩, .slice none 0 0, .string ⟨#[]⟩, .slice none 0 0, .slice (some ⟨g3, 0, none⟩) X.length d3, v, .int .i64 bd, .bool st]) ∧ wr.ownsRow u1.heap.size 3 1 v k ((zlD X).take k) ∧ (∀ x, x < u1.heap.size → x ≠ ab → wr.heap[x]? = u1.heap[x]?) ∧ u1.heap.size ≤ wr.heap.size ∧ Below w.heap.size w wr) (fun i _ => X.length - (intOf i).toNat)
    case atStart => exact ⟨0, .slice none 0 0, Nat.zero_le _, rfl, RA2, World.ownsRow_nil _ _ _ _, fun x _ _ => rfl, Nat.le_refl _, q0⟩
    case round =>
      obtain ⟨k, v, hk, rfl, hR, ho, hfr, hsz, hb⟩ := hrel
      have hvn : ∃ va vc, v = Value.slice va k vc := by
        obtain ⟨_, ⟨h, h0⟩ | ⟨g, cp, cur, h, _⟩⟩ := ho
        · exact ⟨none, 0, by rw [h, h0]⟩
        · exact ⟨_, _, h⟩
      obtain ⟨va, vc, hve⟩ := hvn
      subst hve
      have HO := hid ho; have HFR := hid hfr
      clear ho hfr
      have y6 : wr.cell? ⟨ab, 6, none⟩ = some (.slice va k vc) := hR.cell (i := 6) (by decide)
      have ly := cell_lt y6
      by_cases hlt : k < X.length
      rotate_left
      · have hke : k = X.length := by omega
        subst hke
        have R5 := R2.of_block (HFR.out _ (by omega) (show w.heap.size + 1 ≠ ab by omega))
        have KT := hid (hKT.keep (KpT.frame RA2 (by decide) HFR.out))
        clear y6
        have hlr : w.heap.size + 1 < wr.heap.size := R5.lt
        have ya0 : wr.cell? ⟨ab, 0, none⟩ = some (.int .i64 2) := hR.cell (i := 0) (by decide)
        have fya0 : wr.frozen? ⟨ab, 0, none⟩ = false := hR.frozen _
        have ya1 : wr.cell? ⟨ab, 1, none⟩ = some (.string ⟨#[]⟩) := hR.cell (i := 1) (by decide)
        have fya1 : wr.frozen? ⟨ab, 1, none⟩ = false := hR.frozen _
        have ya2 : wr.cell? ⟨ab, 2, none⟩ = some (.slice none 0 0) := hR.cell (i := 2) (by decide)
        have fya2 : wr.frozen? ⟨ab, 2, none⟩ = false := hR.frozen _
        have ya3 : wr.cell? ⟨ab, 3, none⟩ = some (.string ⟨#[]⟩) := hR.cell (i := 3) (by decide)
        have fya3 : wr.frozen? ⟨ab, 3, none⟩ = false := hR.frozen _
        have ya4 : wr.cell? ⟨ab, 4, none⟩ = some (.slice none 0 0) := hR.cell (i := 4) (by decide)
        have fya4 : wr.frozen? ⟨ab, 4, none⟩ = false := hR.frozen _
        have ya5 : wr.cell? ⟨ab, 5, none⟩ = some (.slice (some ⟨g3, 0, none⟩) X.length d3) := hR.cell (i := 5) (by decide)
        have fya5 : wr.frozen? ⟨ab, 5, none⟩ = false := hR.frozen _
        have ya6 : wr.cell? ⟨ab, 6, none⟩ = some (.slice va X.length vc) := hR.cell (i := 6) (by decide)
        have fya6 : wr.frozen? ⟨ab, 6, none⟩ = false := hR.frozen _
        have ya7 : wr.cell? ⟨ab, 7, none⟩ = some (.int .i64 bd) := hR.cell (i := 7) (by decide)
        have fya7 : wr.frozen? ⟨ab, 7, none⟩ = false := hR.frozen _
        have ya8 : wr.cell? ⟨ab, 8, none⟩ = some (.bool st) := hR.cell (i := 8) (by decide)
        have fya8 : wr.frozen? ⟨ab, 8, none⟩ = false := hR.frozen _
        have zr0 : wr.cell? ⟨w.heap.size + 1, 0, none⟩ = some (.int .i64 0) := R5.cell (i := 0) (by decide)
        have fzr0 : wr.frozen? ⟨w.heap.size + 1, 0, none⟩ = false := R5.frozen _
        have zr1 : wr.cell? ⟨w.heap.size + 1, 1, none⟩ = some (.string ⟨#[]⟩) := R5.cell (i := 1) (by decide)
        have fzr1 : wr.frozen? ⟨w.heap.size + 1, 1, none⟩ = false := R5.frozen _
        have zr2 : wr.cell? ⟨w.heap.size + 1, 2, none⟩ = some (.slice none 0 0) := R5.cell (i := 2) (by decide)
        have fzr2 : wr.frozen? ⟨w.heap.size + 1, 2, none⟩ = false := R5.frozen _
        have zr3 : wr.cell? ⟨w.heap.size + 1, 3, none⟩ = some (.string ⟨#[]⟩) := R5.cell (i := 3) (by decide)
        have fzr3 : wr.frozen? ⟨w.heap.size + 1, 3, none⟩ = false := R5.frozen _
        have zr4 : wr.cell? ⟨w.heap.size + 1, 4, none⟩ = some (.slice none 0 0) := R5.cell (i := 4) (by decide)
        have fzr4 : wr.frozen? ⟨w.heap.size + 1, 4, none⟩ = false := R5.frozen _
        have zr5 : wr.cell? ⟨w.heap.size + 1, 5, none⟩ = some (.slice none 0 0) := R5.cell (i := 5) (by decide)
        have fzr5 : wr.frozen? ⟨w.heap.size + 1, 5, none⟩ = false := R5.frozen _
        have zr6 : wr.cell? ⟨w.heap.size + 1, 6, none⟩ = some (.slice none 0 0) := R5.cell (i := 6) (by decide)
        have fzr6 : wr.frozen? ⟨w.heap.size + 1, 6, none⟩ = false := R5.frozen _
        have zr7 : wr.cell? ⟨w.heap.size + 1, 7, none⟩ = some (.int .i64 0) := R5.cell (i := 7) (by decide)
        have fzr7 : wr.frozen? ⟨w.heap.size + 1, 7, none⟩ = false := R5.frozen _
        have zr8 : wr.cell? ⟨w.heap.size + 1, 8, none⟩ = some (.bool false) := R5.cell (i := 8) (by decide)
        have fzr8 : wr.frozen? ⟨w.heap.size + 1, 8, none⟩ = false := R5.frozen _
        obtain ⟨⟨t0, t1, t2, t3, t4, t5, t6, t7, t8⟩, hblk, hszc, hbel⟩ := chain9 R5 (.int .i64 2) (.string ⟨#[]⟩) (.slice none 0 0) (.string ⟨#[]⟩) (.slice none 0 0) (.slice (some ⟨g3, 0, none⟩) X.length d3) (.slice va X.length vc) (.int .i64 bd) (.bool st)
        have HB := hid (hbel w hb (by omega))
        have HBk := hid hblk
        have HO2 := hid (own_kpB (fun g e => hblk g (fun e2 => by have := own_low0 HO.out e; omega)) HO.out)
        have KT2 := hid (KT.out.keep (KpT.chain R5 (by decide) hblk))
        clear hblk hszc hbel hR R5 HO KT hKT R2 RA2 HFR HX hb HBk
        go_wp2
        refine bodyPost_ret (v := .agg #[.int .i64 2, .string ⟨#[]⟩, .slice none 0 0, .string ⟨#[]⟩, .slice none 0 0, .slice (some ⟨g3, 0, none⟩) X.length d3, .slice va X.length vc, .int .i64 bd, .bool st]) (by simp [results, Try.results309, go_sem, t0, t1, t2, t3, t4, t5, t6, t7, t8]) rfl ?_
        clear t0 t1 t2 t3 t4 t5 t6 t7 t8
        obtain ⟨A4, c4, e1, n1, n2, hI⟩ := own_intsD HO2.out
        injection e1 with e1 _ e3
        subst e1 e3
        exact ⟨some ⟨g3, 0, none⟩, d3, va, vc, rfl, ⟨.inl rfl, .inl rfl, KT2.out, ⟨g3, rfl⟩, hI⟩, m1, m2, n1, n2, HB.out⟩
      obtain ⟨x0, x1, x2, x3⟩ := HX.out k hlt
      have hgl := cell_lt x0
      have hgk : ∀ {o : Nat} {z : Value}, u1.cell? ⟨g, o, none⟩ = some z → wr.cell? ⟨g, o, none⟩ = some z := fun {o z} h => (World.cell?_of_block (a := ⟨g, o, none⟩) (HFR.out g hgl (by omega))).trans h
      replace x0 := hgk x0
      replace x1 := hgk x1
      replace x2 := hgk x2
      replace x3 := hgk x3
      have gg := cell_lt x0
      have hnx := zlD_next hlt
      clear hgk hgl
      generalize hx : X.getD k default = x at *
      have HNX := hid hnx; clear hx hnx
      have CX := bal (bal (Below.refl wr.heap.size wr) (.cells #[.string (tx x.t), .string x.t.nm, .slice x.a x.t.n x.c, .int .i64 x.z] 344)) (.cells #[.int .i64 x.z] 3)
      have hown4 := own_belowT CX HO.out
      have hR4 := row_below hR CX
      have hl4 : u1.heap.size ≤ ((wr.alloc (.cells #[.string (tx x.t), .string x.t.nm, .slice x.a x.t.n x.c, .int .i64 x.z] 344)).alloc (.cells #[.int .i64 x.z] 3)).heap.size := Nat.le_trans hsz CX.size
      have hnews := new1 (wr.alloc (.cells #[.string (tx x.t), .string x.t.nm, .slice x.a x.t.n x.c, .int .i64 x.z] 344)) (.int .i64 x.z) 3
      rw [show (wr.alloc (.cells #[.string (tx x.t), .string x.t.nm, .slice x.a x.t.n x.c, .int .i64 x.z] 344)).heap.size = wr.heap.size + 1 by simp] at hnews
      have hone : ∀ u ∈ ([.int .i64 x.z] : List Value), u.oneCell' = true := fun u hu => by simp at hu; subst hu; rfl
      go_wp2_with ((at_builtin; go_loud (refine wpList_append_own_at _ rfl _ _ 31 rfl u1.heap.size 3 i0 _ 1 8 Try.underlying31 hi hz0 hz1 hz2 rfl (by decide) (.slice va k vc) k ((zlD X).take k) rfl hown4 ⟨wr.heap.size + 1, 0, none⟩ 1 1 [.int .i64 x.z] rfl rfl hnews hone (by unfold maxLen; omega) (by omega) hl4 ?_); intro v' w6 hown6 hgrow _ _; obtain ⟨va', vc', hve'⟩ := own_sl hown6; subst hve'; have hR6 := hR4.of_block (hgrow.block ab hR4.lt (fun e => by have := own_low0 hown4 e.symm; omega)); have y7 : w6.cell? ⟨ab, 6, none⟩ = some (.slice va k vc) := hR6.cell (i := 6) (by decide); have f7 : w6.frozen? ⟨ab, 6, none⟩ = false := hR6.frozen _))
      go_roundw
      case rel =>
        refine ⟨k + 1, .slice va' (k + 1) vc', by omega, by go_num, (hR6.set 6 (.slice va' (k + 1) vc')).congr (nine ⟨rfl, rfl, rfl, rfl, rfl, rfl, rfl, rfl, rfl⟩), ?_, fun x hx1 hx2 => ?_, ?_, ?_⟩
        · rw [HNX.out]
          exact own_setT2 (fun e => by have := own_low0 hown6 e; omega) hown6
        · have hxw : x < wr.heap.size := Nat.lt_of_lt_of_le hx1 hsz
          exact (Below.heap_setCell _ ⟨ab, 6, none⟩ _ x hx2).trans ((hgrow.block x (Nat.lt_of_lt_of_le hx1 hl4) (fun e => by have := own_low0 hown4 e.symm; omega)).trans ((CX.block x hxw).trans (HFR.out x hx1 hx2)))
        · have := hgrow.size
          simp only [World.setCell]
          simpa using Nat.le_trans hl4 this
        · exact bst (below_grow (btr hb CX) hgrow (fun g e => Nat.le_trans q0.size (own_low0 hown4 e))) (p := ⟨ab, 6, none⟩) (show w.heap.size ≤ ab by omega) _
      case measure => simp [intOf]; omega
  refine planC_call rfl rfl 312 #[.agg #[.slice (some ⟨g, 0, none⟩) X.length cap, .int .i64 bd, .bool st]] (by kernel_rfl) ?_
  refine (C1.out _ (btr q0 hD)).mono ?_
  rintro e w3 ⟨B3, d3, rfl, m1, m2, hS, hq, hzz⟩
  refine ⟨_, rfl, HD.below hq, ?_⟩
  refine plan_takes ?_; simp only [pickOps, List.getElem?_cons_zero, List.getElem?_cons_succ]
  have tn : (Tm.mk ⟨#[]⟩ X.length (fun k => (X.getD k default).t)).n = X.length := rfl
  rw [tn] at m1 hzz ⊢
  obtain ⟨g3, rfl⟩ := hzz hn0
  clear tn hzz
  refine quiet_doC rfl (.agg #[.int .i64 2, .string ⟨#[]⟩, .slice none 0 0, .string ⟨#[]⟩, .slice none 0 0, .slice (some ⟨g3, 0, none⟩) X.length d3, .slice none 0 0, .int .i64 bd, .bool st]) (fun w' hw' => by simp [execOp, go_sem]) ?_
  refine wpQuiet_nil ?_
  have CX3 := bal (Below.refl w3.heap.size w3) (.cells #[.int .i64 0, .string ⟨#[]⟩, .slice none 0 0, .string ⟨#[]⟩, .slice none 0 0, .slice none 0 0, .slice none 0 0, .int .i64 0, .bool false] 95)
  have hqq := btr hD (btr hq CX3)
  refine planC_val rfl rfl (.pointer (some ⟨w3.heap.size, 0, none⟩)) (w'' := w3.alloc (.cells #[.int .i64 0, .string ⟨#[]⟩, .slice none 0 0, .string ⟨#[]⟩, .slice none 0 0, .slice none 0 0, .slice none 0 0, .int .i64 0, .bool false] 95)) (by simp [execOp, go_sem]) (H.below hqq) ?_
  refine plan_fin ?_
  simp only [List.drop_succ_cons, List.drop_zero, Act.put, List.setIfInBounds_toArray, List.set_cons_succ, List.set_cons_zero]
  have RA : (w3.alloc (.cells #[.int .i64 0, .string ⟨#[]⟩, .slice none 0 0, .string ⟨#[]⟩, .slice none 0 0, .slice none 0 0, .slice none 0 0, .int .i64 0, .bool false] 95)).rowIs w3.heap.size 95 9 (rowOf #[.int .i64 0, .string ⟨#[]⟩, .slice none 0 0, .string ⟨#[]⟩, .slice none 0 0, .slice none 0 0, .slice none 0 0, .int .i64 0, .bool false]) := row_newA w3 #[.int .i64 0, .string ⟨#[]⟩, .slice none 0 0, .string ⟨#[]⟩, .slice none 0 0, .slice none 0 0, .slice none 0 0, .int .i64 0, .bool false] 95
  replace H := H.below hqq
  replace R2 := row_below R2 hqq
  replace q0 := btr q0 hqq
  have hXX := hcX.below hqq
  have hKT := (hS.kidT (B := 0) (Nat.zero_le _)).keep (KpT.below CX3)
  have hw3 : W0.heap.size ≤ w3.heap.size := Nat.le_trans hD.size hq.size
  have hab : w.heap.size + 1 < w3.heap.size := by omega
  have hgab : g < w3.heap.size := by omega
  have hl3 : w3.heap.size < (w3.alloc (.cells #[.int .i64 0, .string ⟨#[]⟩, .slice none 0 0, .string ⟨#[]⟩, .slice none 0 0, .slice none 0 0, .slice none 0 0, .int .i64 0, .bool false] 95)).heap.size := RA.lt
  clear C1 hcX HD hS hqq CX3 hq hD hw3 hW0
  generalize w3.alloc (.cells #[.int .i64 0, .string ⟨#[]⟩, .slice none 0 0, .string ⟨#[]⟩, .slice none 0 0, .slice none 0 0, .slice none 0 0, .int .i64 0, .bool false] 95) = u at *
  generalize w3.heap.size = ab at *
  have z0 : u.cell? ⟨ab, 0, none⟩ = some (.int .i64 0) := RA.cell (i := 0) (by decide)
  have fz0 : u.frozen? ⟨ab, 0, none⟩ = false := RA.frozen _
  have z1 : u.cell? ⟨ab, 1, none⟩ = some (.string ⟨#[]⟩) := RA.cell (i := 1) (by decide)
  have fz1 : u.frozen? ⟨ab, 1, none⟩ = false := RA.frozen _
  have z2 : u.cell? ⟨ab, 2, none⟩ = some (.slice none 0 0) := RA.cell (i := 2) (by decide)
  have fz2 : u.frozen? ⟨ab, 2, none⟩ = false := RA.frozen _
  have z3 : u.cell? ⟨ab, 3, none⟩ = some (.string ⟨#[]⟩) := RA.cell (i := 3) (by decide)
  have fz3 : u.frozen? ⟨ab, 3, none⟩ = false := RA.frozen _
  have z4 : u.cell? ⟨ab, 4, none⟩ = some (.slice none 0 0) := RA.cell (i := 4) (by decide)
  have fz4 : u.frozen? ⟨ab, 4, none⟩ = false := RA.frozen _
  have z5 : u.cell? ⟨ab, 5, none⟩ = some (.slice none 0 0) := RA.cell (i := 5) (by decide)
  have fz5 : u.frozen? ⟨ab, 5, none⟩ = false := RA.frozen _
  have z6 : u.cell? ⟨ab, 6, none⟩ = some (.slice none 0 0) := RA.cell (i := 6) (by decide)
  have fz6 : u.frozen? ⟨ab, 6, none⟩ = false := RA.frozen _
  have z7 : u.cell? ⟨ab, 7, none⟩ = some (.int .i64 0) := RA.cell (i := 7) (by decide)
  have fz7 : u.frozen? ⟨ab, 7, none⟩ = false := RA.frozen _
  have z8 : u.cell? ⟨ab, 8, none⟩ = some (.bool false) := RA.cell (i := 8) (by decide)
  have fz8 : u.frozen? ⟨ab, 8, none⟩ = false := RA.frozen _
  go_upto_region 2 with fail
  clear z0 fz0 z1 fz1 z2 fz2 z3 fz3 z4 fz4 z5 fz5 z6 fz6 z7 fz7 z8 fz8
  obtain ⟨_, hblk, hszc, hbel⟩ := chain9 RA (.int .i64 2) (.string ⟨#[]⟩) (.slice none 0 0) (.string ⟨#[]⟩) (.slice none 0 0) (.slice (some ⟨g3, 0, none⟩) X.length d3) (.slice none 0 0) (.int .i64 bd) (.bool st)
  have RA2 := row9 RA (.int .i64 2) (.string ⟨#[]⟩) (.slice none 0 0) (.string ⟨#[]⟩) (.slice none 0 0) (.slice (some ⟨g3, 0, none⟩) X.length d3) (.slice none 0 0) (.int .i64 bd) (.bool st)
  generalize (((((((((u.setCell ⟨ab, 0, none⟩ (.int .i64 2)).setCell ⟨ab, 1, none⟩ (.string ⟨#[]⟩)).setCell ⟨ab, 2, none⟩ (.slice none 0 0)).setCell ⟨ab, 3, none⟩ (.string ⟨#[]⟩)).setCell ⟨ab, 4, none⟩ (.slice none 0 0)).setCell ⟨ab, 5, none⟩ (.slice (some ⟨g3, 0, none⟩) X.length d3)).setCell ⟨ab, 6, none⟩ (.slice none 0 0)).setCell ⟨ab, 7, none⟩ (.int .i64 bd)).setCell ⟨ab, 8, none⟩ (.bool st)) = u1 at *
  replace q0 := hbel w q0 (by omega)
  replace hKT := hKT.keep (KpT.chain RA (by decide) hblk)
  have H2 : KcL [(w.heap.size, 0, .slice (some ⟨g, 0, none⟩) X.length cap), (w.heap.size, 1, .int .i64 bd), (w.heap.size, 2, .bool st)] u1 := by
    obtain ⟨s0, s1, s2, _⟩ := H
    have hne : w.heap.size ≠ ab := by omega
    exact ⟨cell_chain hblk hne s0, cell_chain hblk hne s1, cell_chain hblk hne s2, trivial⟩
  replace R2 := R2.of_block (hblk _ (show w.heap.size + 1 ≠ ab by omega))
  have hX2 : CellsD u1 g X := fun i hi => by
    obtain ⟨x0, x1, x2, x3⟩ := hXX i hi
    have hne : g ≠ ab := by omega
    exact ⟨cell_chain hblk hne x0, cell_chain hblk hne x1, cell_chain hblk hne x2, cell_chain hblk hne x3⟩
  replace hl3 : ab < u1.heap.size := by rw [hszc]; exact hl3
  clear hblk hszc hbel RA H hXX
  obtain ⟨s0, s1, s2, _⟩ := H2
  have l0 := cell_lt s0
  go_wp2
  clear s0 s1 s2 l0
  have HX := hid hX2; clear hX2
  go_loopw [16] (fun i wr => ∃ (k : Nat) (v : Value), k ≤ X.length ∧ i = .int .i64 k ∧ wr.rowIs ab 95 9 (rowOf #[.int .i64 2, .string ⟨#[]⟩, .slice none 0 0, .string ⟨#[]⟩, .slice none 0 0, .slice (some ⟨g3, 0, none⟩) X.length d3, v, .int .i64 bd, .bool st]) ∧ wr.ownsRow u1.heap.size 3 1 v k ((zlD X).take k) ∧ (∀ x, x < u1.heap.size → x ≠ ab → wr.heap[x]? = u1.heap[x]?) ∧ u1.heap.size ≤ wr.heap.size ∧ Below w.heap.size w wr) (fun i _ => X.length - (intOf i).toNat)
  case atStart => exact ⟨0, .slice none 0 0, Nat.zero_le _, rfl, RA2, World.ownsRow_nil _ _ _ _, fun x _ _ => rfl, Nat.le_refl _, q0⟩
  case round =>
    obtain ⟨k, v, hk, rfl, hR, ho, hfr, hsz, hb⟩ := hrel
    have hvn : ∃ va vc, v = Value.slice va k vc := by
      obtain ⟨_, ⟨h, h0⟩ | ⟨g, cp, cur, h, _⟩⟩ := ho
      · exact ⟨none, 0, by rw [h, h0]⟩
      · exact ⟨_, _, h⟩
    obtain ⟨va, vc, hve⟩ := hvn
    subst hve
    have HO := hid ho; have HFR := hid hfr
    clear ho hfr
    have y6 : wr.cell? ⟨ab, 6, none⟩ = some (.slice va k vc) := hR.cell (i := 6) (by decide)
    have ly := cell_lt y6
    by_cases hlt : k < X.length
    rotate_left
    · have hke : k = X.length := by omega
      subst hke
      have R5 := R2.of_block (HFR.out _ (by omega) (show w.heap.size + 1 ≠ ab by omega))
      have KT := hid (hKT.keep (KpT.frame RA2 (by decide) HFR.out))
      clear y6
      have hlr : w.heap.size + 1 < wr.heap.size := R5.lt
      have ya0 : wr.cell? ⟨ab, 0, none⟩ = some (.int .i64 2) := hR.cell (i := 0) (by decide)
      have fya0 : wr.frozen? ⟨ab, 0, none⟩ = false := hR.frozen _
      have ya1 : wr.cell? ⟨ab, 1, none⟩ = some (.string ⟨#[]⟩) := hR.cell (i := 1) (by decide)
      have fya1 : wr.frozen? ⟨ab, 1, none⟩ = false := hR.frozen _
      have ya2 : wr.cell? ⟨ab, 2, none⟩ = some (.slice none 0 0) := hR.cell (i := 2) (by decide)
      have fya2 : wr.frozen? ⟨ab, 2, none⟩ = false := hR.frozen _
      have ya3 : wr.cell? ⟨ab, 3, none⟩ = some (.string ⟨#[]⟩) := hR.cell (i := 3) (by decide)
      have fya3 : wr.frozen? ⟨ab, 3, none⟩ = false := hR.frozen _
      have ya4 : wr.cell? ⟨ab, 4, none⟩ = some (.slice none 0 0) := hR.cell (i := 4) (by decide)
      have fya4 : wr.frozen? ⟨ab, 4, none⟩ = false := hR.frozen _
      have ya5 : wr.cell? ⟨ab, 5, none⟩ = some (.slice (some ⟨g3, 0, none⟩) X.length d3) := hR.cell (i := 5) (by decide)
      have fya5 : wr.frozen? ⟨ab, 5, none⟩ = false := hR.frozen _
      have ya6 : wr.cell? ⟨ab, 6, none⟩ = some (.slice va X.length vc) := hR.cell (i := 6) (by decide)
      have fya6 : wr.frozen? ⟨ab, 6, none⟩ = false := hR.frozen _
      have ya7 : wr.cell? ⟨ab, 7, none⟩ = some (.int .i64 bd) := hR.cell (i := 7) (by decide)
      have fya7 : wr.frozen? ⟨ab, 7, none⟩ = false := hR.frozen _
      have ya8 : wr.cell? ⟨ab, 8, none⟩ = some (.bool st) := hR.cell (i := 8) (by decide)
      have fya8 : wr.frozen? ⟨ab, 8, none⟩ = false := hR.frozen _
      have zr0 : wr.cell? ⟨w.heap.size + 1, 0, none⟩ = some (.int .i64 0) := R5.cell (i := 0) (by decide)
      have fzr0 : wr.frozen? ⟨w.heap.size + 1, 0, none⟩ = false := R5.frozen _
      have zr1 : wr.cell? ⟨w.heap.size + 1, 1, none⟩ = some (.string ⟨#[]⟩) := R5.cell (i := 1) (by decide)
      have fzr1 : wr.frozen? ⟨w.heap.size + 1, 1, none⟩ = false := R5.frozen _
      have zr2 : wr.cell? ⟨w.heap.size + 1, 2, none⟩ = some (.slice none 0 0) := R5.cell (i := 2) (by decide)
      have fzr2 : wr.frozen? ⟨w.heap.size + 1, 2, none⟩ = false := R5.frozen _
      have zr3 : wr.cell? ⟨w.heap.size + 1, 3, none⟩ = some (.string ⟨#[]⟩) := R5.cell (i := 3) (by decide)
      have fzr3 : wr.frozen? ⟨w.heap.size + 1, 3, none⟩ = false := R5.frozen _
      have zr4 : wr.cell? ⟨w.heap.size + 1, 4, none⟩ = some (.slice none 0 0) := R5.cell (i := 4) (by decide)
      have fzr4 : wr.frozen? ⟨w.heap.size + 1, 4, none⟩ = false := R5.frozen _
      have zr5 : wr.cell? ⟨w.heap.size + 1, 5, none⟩ = some (.slice none 0 0) := R5.cell (i := 5) (by decide)
      have fzr5 : wr.frozen? ⟨w.heap.size + 1, 5, none⟩ = false := R5.frozen _
      have zr6 : wr.cell? ⟨w.heap.size + 1, 6, none⟩ = some (.slice none 0 0) := R5.cell (i := 6) (by decide)
      have fzr6 : wr.frozen? ⟨w.heap.size + 1, 6, none⟩ = false := R5.frozen _
      have zr7 : wr.cell? ⟨w.heap.size + 1, 7, none⟩ = some (.int .i64 0) := R5.cell (i := 7) (by decide)
      have fzr7 : wr.frozen? ⟨w.heap.size + 1, 7, none⟩ = false := R5.frozen _
      have zr8 : wr.cell? ⟨w.heap.size + 1, 8, none⟩ = some (.bool false) := R5.cell (i := 8) (by decide)
      have fzr8 : wr.frozen? ⟨w.heap.size + 1, 8, none⟩ = false := R5.frozen _
      obtain ⟨⟨t0, t1, t2, t3, t4, t5, t6, t7, t8⟩, hblk, hszc, hbel⟩ := chain9 R5 (.int .i64 2) (.string ⟨#[]⟩) (.slice none 0 0) (.string ⟨#[]⟩) (.slice none 0 0) (.slice (some ⟨g3, 0, none⟩) X.length d3) (.slice va X.length vc) (.int .i64 bd) (.bool st)
      have HB := hid (hbel w hb (by omega))
      have HBk := hid hblk
      have HO2 := hid (own_kpB (fun g e => hblk g (fun e2 => by have := own_low0 HO.out e; omega)) HO.out)
      have KT2 := hid (KT.out.keep (KpT.chain R5 (by decide) hblk))
      clear hblk hszc hbel hR R5 HO KT hKT R2 RA2 HFR HX hb HBk
      go_wp2
      refine bodyPost_ret (v := .agg #[.int .i64 2, .string ⟨#[]⟩, .slice none 0 0, .string ⟨#[]⟩, .slice none 0 0, .slice (some ⟨g3, 0, none⟩) X.length d3, .slice va X.length vc, .int .i64 bd, .bool st]) (by simp [results, Try.results309, go_sem, t0, t1, t2, t3, t4, t5, t6, t7, t8]) rfl ?_
      clear t0 t1 t2 t3 t4 t5 t6 t7 t8
      obtain ⟨A4, c4, e1, n1, n2, hI⟩ := own_intsD HO2.out
      injection e1 with e1 _ e3
      subst e1 e3
      exact ⟨some ⟨g3, 0, none⟩, d3, va, vc, rfl, ⟨.inl rfl, .inl rfl, KT2.out, ⟨g3, rfl⟩, hI⟩, m1, m2, n1, n2, HB.out⟩
    obtain ⟨x0, x1, x2, x3⟩ := HX.out k hlt
    have hgl := cell_lt x0
    have hgk : ∀ {o : Nat} {z : Value}, u1.cell? ⟨g, o, none⟩ = some z → wr.cell? ⟨g, o, none⟩ = some z := fun {o z} h => (World.cell?_of_block (a := ⟨g, o, none⟩) (HFR.out g hgl (by omega))).trans h
    replace x0 := hgk x0
    replace x1 := hgk x1
    replace x2 := hgk x2
    replace x3 := hgk x3
    have gg := cell_lt x0
    have hnx := zlD_next hlt
    clear hgk hgl
    generalize hx : X.getD k default = x at *
    have HNX := hid hnx; clear hx hnx
    have CX := bal (bal (Below.refl wr.heap.size wr) (.cells #[.string (tx x.t), .string x.t.nm, .slice x.a x.t.n x.c, .int .i64 x.z] 344)) (.cells #[.int .i64 x.z] 3)
    have hown4 := own_belowT CX HO.out
    have hR4 := row_below hR CX
    have hl4 : u1.heap.size ≤ ((wr.alloc (.cells #[.string (tx x.t), .string x.t.nm, .slice x.a x.t.n x.c, .int .i64 x.z] 344)).alloc (.cells #[.int .i64 x.z] 3)).heap.size := Nat.le_trans hsz CX.size
    have hnews := new1 (wr.alloc (.cells #[.string (tx x.t), .string x.t.nm, .slice x.a x.t.n x.c, .int .i64 x.z] 344)) (.int .i64 x.z) 3
    rw [show (wr.alloc (.cells #[.string (tx x.t), .string x.t.nm, .slice x.a x.t.n x.c, .int .i64 x.z] 344)).heap.size = wr.heap.size + 1 by simp] at hnews
    have hone : ∀ u ∈ ([.int .i64 x.z] : List Value), u.oneCell' = true := fun u hu => by simp at hu; subst hu; rfl
    go_wp2_with ((at_builtin; go_loud (refine wpList_append_own_at _ rfl _ _ 31 rfl u1.heap.size 3 i0 _ 1 8 Try.underlying31 hi hz0 hz1 hz2 rfl (by decide) (.slice va k vc) k ((zlD X).take k) rfl hown4 ⟨wr.heap.size + 1, 0, none⟩ 1 1 [.int .i64 x.z] rfl rfl hnews hone (by unfold maxLen; omega) (by omega) hl4 ?_); intro v' w6 hown6 hgrow _ _; obtain ⟨va', vc', hve'⟩ := own_sl hown6; subst hve'; have hR6 := hR4.of_block (hgrow.block ab hR4.lt (fun e => by have := own_low0 hown4 e.symm; omega)); have y7 : w6.cell? ⟨ab, 6, none⟩ = some (.slice va k vc) := hR6.cell (i := 6) (by decide); have f7 : w6.frozen? ⟨ab, 6, none⟩ = false := hR6.frozen _))
    go_roundw
    case rel =>
      refine ⟨k + 1, .slice va' (k + 1) vc', by omega, by go_num, (hR6.set 6 (.slice va' (k + 1) vc')).congr (nine ⟨rfl, rfl, rfl, rfl, rfl, rfl, rfl, rfl, rfl⟩), ?_, fun x hx1 hx2 => ?_, ?_, ?_⟩
      · rw [HNX.out]
        exact own_setT2 (fun e => by have := own_low0 hown6 e; omega) hown6
      · have hxw : x < wr.heap.size := Nat.lt_of_lt_of_le hx1 hsz
        exact (Below.heap_setCell _ ⟨ab, 6, none⟩ _ x hx2).trans ((hgrow.block x (Nat.lt_of_lt_of_le hx1 hl4) (fun e => by have := own_low0 hown4 e.symm; omega)).trans ((CX.block x hxw).trans (HFR.out x hx1 hx2)))
      · have := hgrow.size
        simp only [World.setCell]
        simpa using Nat.le_trans hl4 this
      · exact bst (below_grow (btr hb CX) hgrow (fun g e => Nat.le_trans q0.size (own_low0 hown4 e))) (p := ⟨ab, 6, none⟩) (show w.heap.size ≤ ab by omega) _
    case measure => simp [intOf]; omega
end Go.Proofs.Ytanfljajafelgaa

namespace Go.Proofs.Ytanfljajafelgaa
set_option linter.unusedVariables false
set_option linter.unusedSimpArgs false
open Go.RowKit
section
variable {P : Program} {ops : Array Oper} {l : List Oper} {K : Act → World → Prop} {a : Act} {w : World} {m : Nat} {k : Pl} {om : Oper} {C : World → Prop}
theorem planC_callG (hl : l[m]? = some om) (hw : Region.wanted om (yielded ops a.tmps) = true) (f : FuncId) (args : Array Value) (h : (execOp a.eval om).run P w = .ok (.enter f args) w)
    (hc : Calls P f args w fun e w'' => ∃ v, e = .returned v ∧ C w'' ∧ ObPl P ops C l K k (a.put om.dst v) w'') : ObPl P ops C l K (.make m k) a w := by
  refine ⟨om, hl, .inl ⟨hw, ?_⟩⟩
  rw [h]
  exact hc
end
set_option maxRecDepth 100000 in
set_option maxHeartbeats 8000000 in
theorem kind_eq (x : At) (hk : x.kd = 1) (res : Bool) (hres : res = true ↔ RightQ x) (hF : AtF 1048576 x) (A1 : Option Addr) (c1 : Nat) (A2 : Option Addr) (c2 : Nat) (A3 : Option Addr) (c3 : Nat) (A4 : Option Addr) (c4 : Nat) (w : World) (hA : AtT w x A1 A2 A3 A4)
    (hc : x.a.n ≤ c1 ∧ c1 ≤ 9223372036854775807 ∧ x.b.n ≤ c2 ∧ c2 ≤ 9223372036854775807 ∧ x.m ≤ 9223372036854775807) (hz : atSz x ≤ 536870912) :
    Calls Try.prog 135 #[.agg (x.cs A1 c1 A2 c2 A3 c3 A4 c4)] w fun e w' => e = .returned (.tuple #[if res = true then .iface 294 (eqV x.a x.b A1 c1 A2 c2) else .nilIface, .bool res]) ∧ Below w.heap.size w w' := by
  have hA0 := hA
  have hS : atSz (atAB x.a x.b) ≤ 536870912 := by unfold atSz at *; simp [atAB, sumT] at *; omega
  have CW := hid (fun W (h : Below w.heap.size w W) (r : Bool) (hr : (wellB x.a && wellB x.b) = r) => eqwell_any x.a x.b hF.1 hF.2.1 A1 c1 A2 c2 W (hA0.1.keep (KpT.below h)).kids (hA0.2.1.keep (KpT.below h)).kids r hr)
  have CT := hid (fun W (h : Below w.heap.size w W) => eqatom_any x.a x.b hF.1 hF.2.1 A1 c1 A2 c2 W (hA0.1.keep (KpT.below h)).kids (hA0.2.1.keep (KpT.below h)).kids)
  have CS := hid (fun W (h : Below w.heap.size w W) (b : Bool) (hb : b = true ↔ AtEq x (atAB x.a x.b)) (B1 : Option Addr) (d1 : Nat) (B2 : Option Addr) (d2 : Nat) (k1 : KidT 0 W x.a B1) (k2 : KidT 0 W x.b B2) (hd : x.a.n ≤ d1 ∧ d1 ≤ 9223372036854775807 ∧ x.b.n ≤ d2 ∧ d2 ≤ 9223372036854775807) =>
    atomsame_nil x (atAB x.a x.b) b hb A1 c1 A2 c2 A3 c3 A4 c4 B1 d1 B2 d2 W rfl rfl (hA0.below h) k1 k2 hc hd hz hS)
  have HR := hid hres; have HZ := hid hz
  clear hA hA0 hF hc hz hS hres
  obtain ⟨kd, a, bb, n, kid, m, Z, bd, st⟩ := x
  simp only at hk
  subst hk
  simp only [At.cs, eqV] at CW CT CS ⊢
  have q0 := bal (Below.refl w.heap.size w) (.cells #[.int .i64 1, .string a.nm, .slice A1 a.n c1, .string bb.nm, .slice A2 bb.n c2, .slice A3 n c3, .slice A4 m c4, .int .i64 bd, .bool st] 95)
  have H : KcL [(w.heap.size, 0, .int .i64 1), (w.heap.size, 1, .string a.nm), (w.heap.size, 2, .slice A1 a.n c1), (w.heap.size, 3, .string bb.nm), (w.heap.size, 4, .slice A2 bb.n c2), (w.heap.size, 5, .slice A3 n c3), (w.heap.size, 6, .slice A4 m c4), (w.heap.size, 7, .int .i64 bd), (w.heap.size, 8, .bool st)] (w.alloc (.cells #[.int .i64 1, .string a.nm, .slice A1 a.n c1, .string bb.nm, .slice A2 bb.n c2, .slice A3 n c3, .slice A4 m c4, .int .i64 bd, .bool st] 95)) := by
    refine ⟨?_, ?_, ?_, ?_, ?_, ?_, ?_, ?_, ?_, trivial⟩ <;> simp [go_sem]
  obtain ⟨rw, hrw⟩ : ∃ r, (wellB a && wellB bb) = r := ⟨_, rfl⟩
  have C1 := hid (fun W h => CW.out W h rw hrw)
  have HW := hid hrw
  clear CW hrw
  go_enter Try.func135, Try.ntmps135
  go_upto_region 10 with fail
  generalize w.alloc (.cells #[.int .i64 1, .string a.nm, .slice A1 a.n c1, .string bb.nm, .slice A2 bb.n c2, .slice A3 n c3, .slice A4 m c4, .int .i64 bd, .bool st] 95) = W0 at *
  have hD := (Below.refl W0.heap.size W0).drew
  refine region_planC (fun w' => Below W0.heap.size W0 w') (.takes [0] (.make 1 (.takes [2, 3, 4, 5] (.make 6 (.make 7 .fin))))) 8 rfl (by kernel_rfl) hD ?_
  refine plan_takes ?_; simp only [pickOps, List.getElem?_cons_zero, List.getElem?_cons_succ]
  refine quiet_doC rfl (.iface 294 (.agg #[.string a.nm, .slice A1 a.n c1, .string bb.nm, .slice A2 bb.n c2])) (fun w' hw' => by simp [execOp, go_sem]) ?_
  refine wpQuiet_nil ?_
  refine planC_call rfl rfl 306 #[.agg #[.string a.nm, .slice A1 a.n c1, .string bb.nm, .slice A2 bb.n c2]] (by kernel_rfl) ?_
  refine (C1.out _ (btr q0 hD)).mono ?_
  rintro e w1 ⟨rfl, hq⟩
  refine ⟨_, rfl, btr hD hq, ?_⟩
  replace hD := btr hD hq
  clear hq C1
  cases rw with
  | false =>
    have hbf := hid (b_no HR.out (fun h => by
      rcases h with h | h
      · have := h.1; simp only at this; omega
      · have h1 := h.2.1; have h2 := h.2.2.1; simp only at h1 h2; rw [h1, h2] at HW; exact absurd HW.out (by decide)))
    have hbf2 := hbf.out
    subst hbf2
    refine plan_takes ?_; simp only [pickOps, List.getElem?_cons_zero, List.getElem?_cons_succ]
    refine quiet_doC rfl (.bool true) (fun w' hw' => by simp [execOp, go_sem]) ?_
    refine quiet_doC rfl (.bool true) (fun w' hw' => by simp [execOp, go_sem]) ?_
    simp only [Act.put, List.setIfInBounds_toArray, List.set_cons_succ, List.set_cons_zero]
    refine quiet_skip (by kernel_rfl) ?_
    simp only [Act.put, List.setIfInBounds_toArray, List.set_cons_succ, List.set_cons_zero]
    refine quiet_skip (by kernel_rfl) ?_
    refine wpQuiet_nil ?_
    simp only [Act.put, List.setIfInBounds_toArray, List.set_cons_succ, List.set_cons_zero]
    refine ⟨_, rfl, .inr ⟨by kernel_rfl, hD, ?_⟩⟩
    simp only [Act.put, List.setIfInBounds_toArray, List.set_cons_succ, List.set_cons_zero]
    refine ⟨_, rfl, .inr ⟨by kernel_rfl, hD, ?_⟩⟩
    refine plan_fin ?_
    simp only [List.drop_succ_cons, List.drop_zero, Act.put, List.setIfInBounds_toArray, List.set_cons_succ, List.set_cons_zero]
    go_wp2
    go_ret2
    exact ⟨rfl, btr q0 hD⟩
  | true =>
    obtain ⟨rs, hrs⟩ := ateq_bool ⟨1, a, bb, n, kid, m, Z, bd, st⟩ (atAB a bb)
    have hrr : res = rs := by
      have h1 : rs = true ↔ RightQ ⟨1, a, bb, n, kid, m, Z, bd, st⟩ := by
        rw [hrs]
        have hw := HW.out
        rw [Bool.and_eq_true] at hw
        constructor
        · rintro ⟨_, _, _, ⟨h4, _⟩, ⟨h5, _⟩, h6, h7⟩
          exact .inr ⟨rfl, hw.1, hw.2, h4, h5, h6, h7⟩
        · rintro (⟨h, _⟩ | ⟨_, _, _, h4, h5, h6, h7⟩)
          · exact absurd (show (1 : Int) = 2 from h) (by decide)
          · exact ⟨rfl, TEq.refl _, TEq.refl _, ⟨h4, fun k hk => by simp only at h4 hk; omega⟩, ⟨h5, fun k hk => by simp only at h5 hk; omega⟩, h6, h7⟩
      cases res <;> cases rs
      · rfl
      · exact absurd (HR.out.2 (h1.1 rfl)) (by decide)
      · exact absurd (h1.2 (HR.out.1 rfl)) (by decide)
      · rfl
    have C3 := hid (fun W h => CS.out W h rs hrs)
    subst hrr
    clear CS hrs HW HR
    refine plan_takes ?_; simp only [pickOps, List.getElem?_cons_zero, List.getElem?_cons_succ]
    refine quiet_doC rfl (.bool false) (fun w' hw' => by simp [execOp, go_sem]) ?_
    refine quiet_doC rfl (.bool false) (fun w' hw' => by simp [execOp, go_sem]) ?_
    simp only [Act.put, List.setIfInBounds_toArray, List.set_cons_succ, List.set_cons_zero]
    refine quiet_doG (by kernel_rfl) (.agg #[.int .i64 1, .string a.nm, .slice A1 a.n c1, .string bb.nm, .slice A2 bb.n c2, .slice A3 n c3, .slice A4 m c4, .int .i64 bd, .bool st]) (fun w' hw' => by obtain ⟨s0, s1, s2, s3, s4, s5, s6, s7, s8, _⟩ := H.below hw'; simp [execOp, go_sem, s0, s1, s2, s3, s4, s5, s6, s7, s8]) ?_
    simp only [Act.put, List.setIfInBounds_toArray, List.set_cons_succ, List.set_cons_zero]
    refine quiet_doG (by kernel_rfl) (.iface 294 (.agg #[.string a.nm, .slice A1 a.n c1, .string bb.nm, .slice A2 bb.n c2])) (fun w' hw' => by simp [execOp, go_sem]) ?_
    refine wpQuiet_nil ?_
    simp only [Act.put, List.setIfInBounds_toArray, List.set_cons_succ, List.set_cons_zero]
    refine planC_callG rfl (by kernel_rfl) 302 #[.agg #[.string a.nm, .slice A1 a.n c1, .string bb.nm, .slice A2 bb.n c2]] (by kernel_rfl) ?_
    refine (CT.out _ (btr q0 hD)).mono ?_
    rintro e w2 ⟨B1, d1, B2, d2, rfl, k1, k2, hd, hq⟩
    refine ⟨_, rfl, btr hD hq, ?_⟩
    replace hD := btr hD hq
    clear hq CT
    simp only [Act.put, List.setIfInBounds_toArray, List.set_cons_succ, List.set_cons_zero]
    refine planC_callG rfl (by kernel_rfl) 184 #[.agg #[.int .i64 1, .string a.nm, .slice A1 a.n c1, .string bb.nm, .slice A2 bb.n c2, .slice A3 n c3, .slice A4 m c4, .int .i64 bd, .bool st], .agg ((atAB a bb).cs B1 d1 B2 d2 none 0 none 0)] (by kernel_rfl) ?_
    refine (C3.out w2 (btr q0 hD) B1 d1 B2 d2 k1 k2 hd).mono ?_
    rintro e w3 ⟨rfl, hq⟩
    refine ⟨_, rfl, btr hD hq, ?_⟩
    replace hD := btr hD hq
    clear hq C3 k1 k2 hd
    refine plan_fin ?_
    simp only [List.drop_succ_cons, List.drop_zero, Act.put, List.setIfInBounds_toArray, List.set_cons_succ, List.set_cons_zero]
    cases res with
    | false =>
      go_wp2
      go_ret2
      exact ⟨rfl, btr q0 hD⟩
    | true =>
      go_wp2
      go_ret2
      exact ⟨rfl, btr q0 hD⟩
end Go.Proofs.Ytanfljajafelgaa

namespace Go.Proofs.Ytanfljajafelgaa
set_option linter.unusedVariables false
set_option linter.unusedSimpArgs false
open Go.RowKit
theorem joinK_congr {f g : Nat → List UInt8} : ∀ {n : Nat}, (∀ k, k < n → f k = g k) → joinK f n = joinK g n
  | 0, _ => rfl
  | n + 1, h => by rw [joinK, joinK, joinK_congr (fun k hk => h k (by omega)), h n (by omega)]
theorem sumK_congr {f g : Nat → Nat} : ∀ {n : Nat}, (∀ k, k < n → f k = g k) → sumK f n = sumK g n
  | 0, _ => rfl
  | n + 1, h => by rw [sumK, sumK, sumK_congr (fun k hk => h k (by omega)), h n (by omega)]
theorem teq_mk {nm nm' : ByteArray} {n n' : Nat} {kid kid' : Nat → Tm} (h : TEq (.mk nm n kid) (.mk nm' n' kid')) : nm = nm' ∧ n = n' ∧ ∀ k, k < n → TEq (kid k) (kid' k) := tEq_iff.1 h
theorem teq_shape : ∀ (d : Nat) {t u : Tm} {M : Nat}, Fits M t → Fits M u → TEq t u → shapeB d t = shapeB d u
  | 0, _, _, _, _, _, _ => rfl
  | d + 1, .bad, _, _, h, _, _ => False.elim h
  | d + 1, .mk _ _ _, .bad, _, _, h, _ => False.elim h
  | d + 1, .mk nm n kid, .mk nm' n' kid', M, hf, hf', h => by
    obtain ⟨rfl, rfl, hk⟩ := teq_mk h
    unfold shapeB
    have e : ∀ k, k < n → shapeB d (kid k) = shapeB d (kid' k) := fun k hkn => teq_shape d (hf.2.2 k hkn) (hf'.2.2 k hkn) (hk k hkn)
    have : (∀ k, k < n → shapeB d (kid k) = true) ↔ (∀ k, k < n → shapeB d (kid' k) = true) := ⟨fun h k hkn => by rw [← e k hkn]; exact h k hkn, fun h k hkn => by rw [e k hkn]; exact h k hkn⟩
    simp only [this]
theorem teq_cnt : ∀ (d : Nat) {t u : Tm} {M : Nat}, Fits M t → Fits M u → TEq t u → cntN d t = cntN d u
  | 0, _, _, _, _, _, _ => rfl
  | d + 1, .bad, _, _, h, _, _ => False.elim h
  | d + 1, .mk _ _ _, .bad, _, _, h, _ => False.elim h
  | d + 1, .mk nm n kid, .mk nm' n' kid', M, hf, hf', h => by
    obtain ⟨rfl, rfl, hk⟩ := teq_mk h
    unfold cntN
    rw [sumK_congr (fun k hkn => teq_cnt d (hf.2.2 k hkn) (hf'.2.2 k hkn) (hk k hkn))]
theorem teq_txt : ∀ {t u : Tm} {M : Nat}, Fits M t → Fits M u → TEq t u → txt t = txt u := by
  intro t
  induction t with
  | bad => intro u M h _ _; exact False.elim h
  | mk nm n kid ih =>
    intro u M hf hf' h
    cases u with
    | bad => exact False.elim hf'
    | mk nm' n' kid' =>
      obtain ⟨rfl, rfl, hk⟩ := teq_mk h
      rw [txt, txt, joinK_congr (fun k hkn => ih k (hf.2.2 k hkn) (hf'.2.2 k hkn) (hk k hkn))]
theorem teq_well {t u : Tm} {M : Nat} (hf : Fits M t) (hf' : Fits M u) (h : TEq t u) : wellB t = wellB u := by
  unfold wellB; rw [teq_shape 4 hf hf' h, teq_cnt 4 hf hf' h]
theorem teq_tx {t u : Tm} {M : Nat} (hf : Fits M t) (hf' : Fits M u) (h : TEq t u) : tx t = tx u := by
  unfold tx textT; rw [teq_well hf hf' h, teq_txt hf hf' h]
theorem adGet_mem {X : List Ad} {k : Nat} (hk : k < X.length) : X.getD k default ∈ X := by
  rw [List.getD_eq_getElem?_getD, List.getElem?_eq_getElem hk]; exact List.getElem_mem hk
theorem teq_noT {t : Tm} (h : NoT t) : TEq t noT := by
  rw [tEq_iff]
  obtain ⟨h1, h2⟩ := h
  refine ⟨?_, h2, fun k hk => absurd hk (by omega)⟩
  show t.nm = ⟨#[]⟩
  have h3 : t.nm.data.toList = [] := by rw [← ByteArray.toList_eq]; exact h1
  cases hd : t.nm with
  | mk d =>
    rw [hd] at h3
    have h4 : d.toList = [] := h3
    rw [Array.toList_eq_nil_iff] at h4
    rw [h4]
theorem noT_of {t : Tm} (h : TEq t noT) : NoT t := by
  obtain ⟨h1, h2, _⟩ := tEq_iff.1 h
  refine ⟨?_, h2⟩
  rw [h1]
  show (ByteArray.mk #[]).toList = []
  simp
/-- what the kind of a sum says is what the document says -/
theorem sum_right {x : At} (hkd : x.kd = 2) (hm : x.n = x.m) (h4 : x.n ≤ 4) (hF : AtF 1048576 x) (f : Nat → Option Addr × Nat) :
    (IneqOk (sumD (adF x.kid x.Z f) x.n) x.bd ∧ AtEq x (atSum (sumD (adF x.kid x.Z f) x.n) x.bd x.st)) ↔ RightQ x := by
  have hfit : ∀ k, k < (sumD (adF x.kid x.Z f) x.n).length → Fits 1048576 ((sumD (adF x.kid x.Z f) x.n).getD k default).t := fun k hk => by
    obtain ⟨j, hj, e, _⟩ := sumD_mem _ _ _ (adGet_mem hk)
    rw [e]; exact hF.2.2.2.1 j hj
  constructor
  · rintro ⟨⟨h1, h2, h3, h5⟩, _, ha, hb, ⟨hn, hk⟩, ⟨_, hz⟩, _, _⟩
    have hn' : x.n = (sumD (adF x.kid x.Z f) x.n).length := hn
    refine .inl ⟨hkd, noT_of ha, noT_of hb, hm, by omega, h4, h3, h5, fun k hkn => ?_⟩
    have hkl : k < (sumD (adF x.kid x.Z f) x.n).length := by omega
    have hw := teq_well (hF.2.2.2.1 k hkn) (hfit k hkl) (hk k hkn)
    have hZ := hz k (by omega)
    obtain ⟨g1, g2, g3, g4⟩ := h1 k hkl
    refine ⟨hw.trans g1, ?_, ?_, ?_, fun hk0 => ?_⟩
    · rw [hZ]; exact g2
    · rw [hZ]; exact g3
    · rw [hZ]; exact g4
    · obtain ⟨p, rfl⟩ : ∃ p, k = p + 1 := ⟨k - 1, by omega⟩
      have hpl : p < (sumD (adF x.kid x.Z f) x.n).length := by omega
      have hpn : p < x.n := by omega
      have hl := asc_at (sumD_asc (adF x.kid x.Z f) x.n) hkl
      unfold Lt at hl
      have e1 := teq_tx (hF.2.2.2.1 p hpn) (hfit p hpl) (hk p hpn)
      have e2 := teq_tx (hF.2.2.2.1 (p + 1) hkn) (hfit (p + 1) hkl) (hk (p + 1) hkn)
      have w1 := (teq_well (hF.2.2.2.1 p hpn) (hfit p hpl) (hk p hpn)).trans (h1 p hpl).1
      have w2 := hw.trans g1
      rw [Nat.add_sub_cancel, ← tx_well w1, ← tx_well w2, e1, e2]
      exact hl
  · rintro (⟨_, ha, hb, _, hn1, _, hb1, hb2, hk⟩ | ⟨h, _⟩)
    · have hlt : ∀ k, k + 1 < x.n → Lt (adF x.kid x.Z f k) (adF x.kid x.Z f (k + 1)) := fun k hk1 => by
        unfold Lt
        have h0 := hk k (by omega)
        have h1 := hk (k + 1) hk1
        have := h1.2.2.2.2 (by omega)
        rw [Nat.add_sub_cancel] at this
        show Op.bytesLess (tx (x.kid k)).toList (tx (x.kid (k + 1))).toList = true
        rw [tx_well h0.1, tx_well h1.1]
        exact this
      obtain ⟨hl, hg⟩ := sumD_self hlt x.n (Nat.le_refl _)
      refine ⟨⟨fun k hk1 => ?_, by omega, hb1, hb2⟩, hkd, teq_noT ha, teq_noT hb, ⟨hl.symm, fun k hk1 => ?_⟩, ⟨(hl.trans hm).symm, fun k hk1 => ?_⟩, rfl, rfl⟩
      · rw [hg k (by omega)]
        obtain ⟨g1, g2, g3, g4, _⟩ := hk k (by omega)
        exact ⟨g1, g2, g3, g4⟩
      · show TEq (x.kid k) ((sumD (adF x.kid x.Z f) x.n).getD k default).t
        rw [hg k hk1]; exact TEq.refl _
      · show x.Z k = ((sumD (adF x.kid x.Z f) x.n).getD k default).z
        rw [hg k (by omega)]; rfl
    · omega
end Go.Proofs.Ytanfljajafelgaa

namespace Go.Proofs.Ytanfljajafelgaa
set_option linter.unusedVariables false
set_option linter.unusedSimpArgs false
open Go.RowKit
theorem szD_sum : ∀ X : List Ad, sumT X.length (fun k => tSz (X.getD k default).t) = szD X
  | [] => rfl
  | x :: r => by
    have ih := szD_sum r
    have : ∀ n, sumT (n + 1) (fun k => tSz ((x :: r).getD k default).t) = tSz x.t + sumT n (fun k => tSz (r.getD k default).t) := by
      intro n
      induction n with
      | zero => simp [sumT]
      | succ n ih2 => rw [sumT, ih2, sumT]; simp only [List.getD_cons_succ]; omega
    rw [List.length_cons, this, ih]; rfl
theorem atSum_sz (X : List Ad) (bd : Int) (st : Bool) : atSz (atSum X bd st) = 2 + szD X := by
  have h : tSz noT = 1 := rfl
  unfold atSz
  show tSz noT + tSz noT + sumT X.length (fun k => tSz (X.getD k default).t) = 2 + szD X
  rw [h, szD_sum]
theorem own_rdD {w : World} {base : Nat} {v : Value} {X : List Ad} (h : w.ownsRow base 344 4 v X.length (flatD X)) : ∃ sa cap, v = .slice sa X.length cap ∧ RdD w sa X := by
  rcases own_cellsD h with ⟨h0, rfl⟩ | ⟨g, cap, rfl, _, hg, _, _, h3⟩
  · exact ⟨none, 0, by rw [h0]; rfl, .inl (by rw [h0]; rfl)⟩
  · exact ⟨_, cap, rfl, .inr ⟨g, rfl, hg, h3⟩⟩
/-- what kind answers of a sum -/
def KindS (w : World) (x : At) (f : Nat → Option Addr × Nat) (res : Bool) (e : Ending) (w' : World) : Prop :=
  (res = false → e = .returned (.tuple #[.nilIface, .bool false])) ∧ (res = true → ∃ sa cap, e = .returned (.tuple #[.iface 299 (ineqV sa (sumD (adF x.kid x.Z f) x.n).length cap x.bd x.st), .bool true]) ∧ RdD w' sa (sumD (adF x.kid x.Z f) x.n) ∧ KdD w' (sumD (adF x.kid x.Z f) x.n)) ∧ Below w.heap.size w w'
set_option maxRecDepth 100000 in
set_option maxHeartbeats 8000000 in
theorem kind_sum (x : At) (hk : x.kd = 2) (res : Bool) (hres : res = true ↔ RightQ x) (hF : AtF 1048576 x) (A1 : Option Addr) (c1 : Nat) (A2 : Option Addr) (c2 : Nat) (A3 : Option Addr) (c3 : Nat) (A4 : Option Addr) (c4 : Nat) (w : World) (hA : AtT w x A1 A2 A3 A4)
    (hc : x.a.n ≤ c1 ∧ c1 ≤ 9223372036854775807 ∧ x.b.n ≤ c2 ∧ c2 ≤ 9223372036854775807 ∧ x.m ≤ 9223372036854775807) (hz : atSz x ≤ 536870912)
    (f : Nat → Option Addr × Nat) (hKf : ∀ k, k < x.n → (x.kid k).n ≤ (f k).2 ∧ (f k).2 ≤ 9223372036854775807 ∧ KidT 0 w (x.kid k) (f k).1) (hAf : x.n ≠ 0 → ∃ g off, A3 = some ⟨g, off, none⟩ ∧ g < w.heap.size ∧ ∀ k, k < x.n → w.cell? ⟨g, off + k * 2, none⟩ = some (.string (x.kid k).nm) ∧ w.cell? ⟨g, off + k * 2 + 1, none⟩ = some (.slice (f k).1 (x.kid k).n (f k).2)) :
    Calls Try.prog 135 #[.agg (x.cs A1 c1 A2 c2 A3 c3 A4 c4)] w (KindS w x f res) := by
  have hA0 := hA
  have HM := hid (fun (hm : x.n = x.m) (h4 : x.n ≤ 4) => sum_right hk hm h4 hF f)
  have CO := hid (fun W (h : Below w.heap.size w W) (h4 : x.n ≤ 4) (hm : x.n = x.m) => sumof_any x.n x.kid x.Z f h4 hF.2.2.2.1 A3 c3 A4 c4 W (fun k hk => ⟨(hKf k hk).1, (hKf k hk).2.1, (hKf k hk).2.2.keep (KpT.below h)⟩) (fun h0 => by
    obtain ⟨g, off, h1, h2, h3⟩ := hAf h0
    exact ⟨g, off, h1, Nat.lt_of_lt_of_le h2 h.size, fun k hk => ⟨carry h (h3 k hk).1, carry h (h3 k hk).2⟩⟩) (by rw [hm]; exact hA0.2.2.2.2.below h))
  have HK := hid (fun W (h : Below w.heap.size w W) => (show KdD W (sumD (adF x.kid x.Z f) x.n) from fun k hkl => by
    obtain ⟨j, hj, e1, e2, e3⟩ := sumD_mem _ _ _ (adGet_mem hkl)
    rw [e1, e2, e3]
    exact ⟨(hKf j hj).1, (hKf j hj).2.1, (hKf j hj).2.2.keep (KpT.below h)⟩))
  have HFt := hid (show ∀ k, k < (sumD (adF x.kid x.Z f) x.n).length → Fits 1048576 ((sumD (adF x.kid x.Z f) x.n).getD k default).t from fun k hkl => by
    obtain ⟨j, hj, e1, _⟩ := sumD_mem _ _ _ (adGet_mem hkl)
    rw [e1]; exact hF.2.2.2.1 j hj)
  have hS : atSz (atSum (sumD (adF x.kid x.Z f) x.n) x.bd x.st) ≤ 536870912 := by
    rw [atSum_sz]
    have h1 := sumD_sz (adF x.kid x.Z f) x.n
    have h2 : sumT x.n (fun j => tSz (adF x.kid x.Z f j).t) = sumT x.n (fun k => tSz (x.kid k)) := rfl
    have h3 := tSz_pos x.a
    have h4 := tSz_pos x.b
    unfold atSz at hz
    omega
  have CS := hid (fun W (h : Below w.heap.size w W) (b : Bool) (hb : b = true ↔ AtEq x (atSum (sumD (adF x.kid x.Z f) x.n) x.bd x.st)) (B3 : Option Addr) (d3 : Nat) (B4 : Option Addr) (d4 : Nat) (k1 : AtT W (atSum (sumD (adF x.kid x.Z f) x.n) x.bd x.st) none none B3 B4) (h4 : x.n ≤ 4) =>
    atomsame_at x (atSum (sumD (adF x.kid x.Z f) x.n) x.bd x.st) b hb A1 c1 A2 c2 A3 c3 A4 c4 none 0 none 0 B3 d3 B4 d4 W (hA0.below h) k1 hc ⟨Nat.le_refl _, by omega, Nat.le_refl _, by omega, by have := sumD_len (adF x.kid x.Z f) x.n; show (sumD (adF x.kid x.Z f) x.n).length ≤ _; omega⟩ hz hS)
  have HL := hid (sumD_len (adF x.kid x.Z f) x.n)
  have HR := hid hres
  clear hA hA0 hF hc hz hS hres hKf hAf
  obtain ⟨kd, a, bb, n, kid, m, Z, bd, st⟩ := x
  simp only at hk
  subst hk
  unfold KindS
  simp only [At.cs] at HM CO HK HFt CS HL ⊢
  have q0 := bal (Below.refl w.heap.size w) (.cells #[.int .i64 2, .string a.nm, .slice A1 a.n c1, .string bb.nm, .slice A2 bb.n c2, .slice A3 n c3, .slice A4 m c4, .int .i64 bd, .bool st] 95)
  have H : KcL [(w.heap.size, 0, .int .i64 2), (w.heap.size, 1, .string a.nm), (w.heap.size, 2, .slice A1 a.n c1), (w.heap.size, 3, .string bb.nm), (w.heap.size, 4, .slice A2 bb.n c2), (w.heap.size, 5, .slice A3 n c3), (w.heap.size, 6, .slice A4 m c4), (w.heap.size, 7, .int .i64 bd), (w.heap.size, 8, .bool st)] (w.alloc (.cells #[.int .i64 2, .string a.nm, .slice A1 a.n c1, .string bb.nm, .slice A2 bb.n c2, .slice A3 n c3, .slice A4 m c4, .int .i64 bd, .bool st] 95)) := by
    refine ⟨?_, ?_, ?_, ?_, ?_, ?_, ?_, ?_, ?_, trivial⟩ <;> simp [go_sem]
  have NF : Hid (¬ (n ≤ 4 ∧ n = m) → res = false) := hid (fun hn => b_no HR.out (fun h => by
    rcases h with h | h
    · exact hn ⟨h.2.2.2.2.2.1, h.2.2.2.1⟩
    · have := h.1; simp only at this; omega))
  by_cases h4 : n ≤ 4
  rotate_left
  · have hbf := hid (NF.out (fun h => h4 h.1))
    have z4 : decide (4 < (n : Int)) = true := by simp; omega
    clear h4
    go_enter Try.func135, Try.ntmps135
    go_wp2
    go_ret2
    exact ⟨(fun _ => rfl), (fun h => by rw [hbf.out] at h; cases h), q0⟩
  have z4 : decide (4 < (n : Int)) = false := by simp; omega
  by_cases hm : n = m
  rotate_left
  · have hbf := hid (NF.out (fun h => hm h.2))
    have z5 : ((n : Int) != (m : Int)) = true := by simp; omega
    clear hm h4
    go_enter Try.func135, Try.ntmps135
    go_wp2
    go_ret2
    exact ⟨(fun _ => rfl), (fun h => by rw [hbf.out] at h; cases h), q0⟩
  subst hm
  have z5 : ((n : Int) != (n : Int)) = false := by simp
  have H4 := hid h4; clear h4 NF
  go_enter Try.func135, Try.ntmps135
  go_upto_region 9 with fail
  clear z4 z5
  generalize w.alloc (.cells #[.int .i64 2, .string a.nm, .slice A1 a.n c1, .string bb.nm, .slice A2 bb.n c2, .slice A3 n c3, .slice A4 n c4, .int .i64 bd, .bool st] 95) = W0 at *
  have hD := (Below.refl W0.heap.size W0).drew
  refine region_planC (fun w' => Below W0.heap.size W0 w') (.takes [0, 1, 2, 3, 5, 6, 7, 8] (.make 4 (.takes [9, 10] .fin))) 11 rfl (by kernel_rfl) hD ?_
  refine plan_takes ?_; simp only [pickOps, List.getElem?_cons_zero, List.getElem?_cons_succ]
  refine quiet_doC rfl (.pointer (some ⟨w.heap.size, 5, none⟩)) (fun w' hw' => by simp [execOp, go_sem]) ?_
  refine quiet_doC rfl (.slice A3 n c3) (fun w' hw' => by obtain ⟨s0, s1, s2, s3, s4, s5, s6, s7, s8, _⟩ := H.below hw'; simp [execOp, go_sem, s5]) ?_
  refine quiet_doC rfl (.pointer (some ⟨w.heap.size, 6, none⟩)) (fun w' hw' => by simp [execOp, go_sem]) ?_
  refine quiet_doC rfl (.slice A4 n c4) (fun w' hw' => by obtain ⟨s0, s1, s2, s3, s4, s5, s6, s7, s8, _⟩ := H.below hw'; simp [execOp, go_sem, s6]) ?_
  refine quiet_doC rfl (.pointer (some ⟨w.heap.size, 7, none⟩)) (fun w' hw' => by simp [execOp, go_sem]) ?_
  refine quiet_doC rfl (.int .i64 bd) (fun w' hw' => by obtain ⟨s0, s1, s2, s3, s4, s5, s6, s7, s8, _⟩ := H.below hw'; simp [execOp, go_sem, s7]) ?_
  refine quiet_doC rfl (.pointer (some ⟨w.heap.size, 8, none⟩)) (fun w' hw' => by simp [execOp, go_sem]) ?_
  refine quiet_doC rfl (.bool st) (fun w' hw' => by obtain ⟨s0, s1, s2, s3, s4, s5, s6, s7, s8, _⟩ := H.below hw'; simp [execOp, go_sem, s8]) ?_
  refine wpQuiet_nil ?_
  simp only [Act.put, List.setIfInBounds_toArray, List.set_cons_succ, List.set_cons_zero]
  refine planC_call rfl rfl 183 #[.slice A3 n c3, .slice A4 n c4] (by kernel_rfl) ?_
  refine (CO.out _ (btr q0 hD) H4.out rfl).mono ?_
  rintro e w1 ⟨v, rfl, ho, hq⟩
  obtain ⟨sa, cap, rfl, hRd⟩ := own_rdD ho
  refine ⟨_, rfl, btr hD hq, ?_⟩
  replace hD := btr hD hq
  clear hq CO ho
  refine plan_takes ?_; simp only [pickOps, List.getElem?_cons_zero, List.getElem?_cons_succ]
  simp only [Act.put, List.setIfInBounds_toArray, List.set_cons_succ, List.set_cons_zero]
  refine quiet_doC rfl (.agg #[.slice sa (sumD (adF kid Z f) n).length cap, .int .i64 bd, .bool st]) (fun w' hw' => by simp [execOp, go_sem]) ?_
  refine quiet_doC rfl (.iface 299 (.agg #[.slice sa (sumD (adF kid Z f) n).length cap, .int .i64 bd, .bool st])) (fun w' hw' => by simp [execOp, go_sem]) ?_
  refine wpQuiet_nil ?_
  refine plan_fin ?_
  simp only [List.drop_succ_cons, List.drop_zero, Act.put, List.setIfInBounds_toArray, List.set_cons_succ, List.set_cons_zero]
  go_upto_region 10 with fail
  replace H := H.below hD
  replace q0 := btr q0 hD
  clear hD
  generalize hXX : (sumD (adF kid Z f) n) = X at *
  have HM2 := HM.out rfl H4.out
  have hKd := HK.out w1 q0
  have HXX := hid hXX; clear hXX
  have HKd := hid hKd; clear hKd HK
  obtain ⟨rw, hrw⟩ := bool_of (IneqOk X bd)
  have HRW := hid hrw
  have C1 := hid (fun W (h : Below w1.heap.size w1 W) => ineqwell_any X sa cap bd st rw hrw W (by have := HL.out; have := H4.out; omega) (hRd.below h))
  have CT := hid (fun W (h : Below w1.heap.size w1 W) (h0 : X.length ≠ 0) => ineqatom_any X sa cap bd st W (by have := HL.out; have := H4.out; omega) h0 (hRd.below h) (HKd.out.below h) HFt.out)
  simp only [ineqV] at C1 CT ⊢
  clear hrw
  have hD := (Below.refl w1.heap.size w1).drew
  refine region_planC (fun w' => Below w1.heap.size w1 w') (.takes [0] (.make 1 (.takes [2, 3, 4, 5] (.make 6 (.make 7 .fin))))) 8 rfl (by kernel_rfl) hD ?_
  refine plan_takes ?_; simp only [pickOps, List.getElem?_cons_zero, List.getElem?_cons_succ]
  refine quiet_doC rfl (.iface 299 (.agg #[.slice sa X.length cap, .int .i64 bd, .bool st])) (fun w' hw' => by simp [execOp, go_sem]) ?_
  refine wpQuiet_nil ?_
  simp only [Act.put, List.setIfInBounds_toArray, List.set_cons_succ, List.set_cons_zero]
  refine planC_call rfl rfl 313 #[.agg #[.slice sa X.length cap, .int .i64 bd, .bool st]] (by kernel_rfl) ?_
  refine (C1.out _ hD).mono ?_
  rintro e w2 ⟨rfl, hq⟩
  refine ⟨_, rfl, btr hD hq, ?_⟩
  replace hD := btr hD hq
  clear hq C1
  cases rw with
  | false =>
    have hbf := hid (b_no HR.out (fun h => by have := HRW.out.2 (HM2.2 h).1; cases this))
    refine plan_takes ?_; simp only [pickOps, List.getElem?_cons_zero, List.getElem?_cons_succ]
    simp only [Act.put, List.setIfInBounds_toArray, List.set_cons_succ, List.set_cons_zero]
    refine quiet_doC rfl (.bool true) (fun w' hw' => by simp [execOp, go_sem]) ?_
    refine quiet_doC rfl (.bool true) (fun w' hw' => by simp [execOp, go_sem]) ?_
    simp only [Act.put, List.setIfInBounds_toArray, List.set_cons_succ, List.set_cons_zero]
    refine quiet_skip (by kernel_rfl) ?_
    simp only [Act.put, List.setIfInBounds_toArray, List.set_cons_succ, List.set_cons_zero]
    refine quiet_skip (by kernel_rfl) ?_
    refine wpQuiet_nil ?_
    simp only [Act.put, List.setIfInBounds_toArray, List.set_cons_succ, List.set_cons_zero]
    refine ⟨_, rfl, .inr ⟨by kernel_rfl, hD, ?_⟩⟩
    simp only [Act.put, List.setIfInBounds_toArray, List.set_cons_succ, List.set_cons_zero]
    refine ⟨_, rfl, .inr ⟨by kernel_rfl, hD, ?_⟩⟩
    refine plan_fin ?_
    simp only [List.drop_succ_cons, List.drop_zero, Act.put, List.setIfInBounds_toArray, List.set_cons_succ, List.set_cons_zero]
    have HMX := hid HM2; clear HM2
    go_wp2
    go_ret2
    exact ⟨(fun _ => rfl), (fun h => by rw [hbf.out] at h; cases h), btr q0 hD⟩
  | true =>
    have hIO := HRW.out.1 rfl
    have hX0 : X.length ≠ 0 := by have := hIO.2.1; omega
    obtain ⟨rs, hrs⟩ := ateq_bool ⟨2, a, bb, n, kid, n, Z, bd, st⟩ (atSum X bd st)
    have hrr : res = rs := by
      have h1 : rs = true ↔ RightQ ⟨2, a, bb, n, kid, n, Z, bd, st⟩ := by rw [hrs, ← HM2]; exact ⟨fun h => ⟨hIO, h⟩, fun h => h.2⟩
      cases res <;> cases rs
      · rfl
      · exact absurd (HR.out.2 (h1.1 rfl)) (by decide)
      · exact absurd (h1.2 (HR.out.1 rfl)) (by decide)
      · rfl
    have C3 := hid (fun W h => CS.out W h rs hrs)
    subst hrr
    have HX0 := hid hX0
    clear CS hrs HR HM2 hIO HRW hX0
    refine plan_takes ?_; simp only [pickOps, List.getElem?_cons_zero, List.getElem?_cons_succ]
    simp only [Act.put, List.setIfInBounds_toArray, List.set_cons_succ, List.set_cons_zero]
    refine quiet_doC rfl (.bool false) (fun w' hw' => by simp [execOp, go_sem]) ?_
    refine quiet_doC rfl (.bool false) (fun w' hw' => by simp [execOp, go_sem]) ?_
    simp only [Act.put, List.setIfInBounds_toArray, List.set_cons_succ, List.set_cons_zero]
    refine quiet_doG (by kernel_rfl) (.agg #[.int .i64 2, .string a.nm, .slice A1 a.n c1, .string bb.nm, .slice A2 bb.n c2, .slice A3 n c3, .slice A4 n c4, .int .i64 bd, .bool st]) (fun w' hw' => by obtain ⟨s0, s1, s2, s3, s4, s5, s6, s7, s8, _⟩ := H.below hw'; simp [execOp, go_sem, s0, s1, s2, s3, s4, s5, s6, s7, s8]) ?_
    simp only [Act.put, List.setIfInBounds_toArray, List.set_cons_succ, List.set_cons_zero]
    refine quiet_doG (by kernel_rfl) (.iface 299 (.agg #[.slice sa X.length cap, .int .i64 bd, .bool st])) (fun w' hw' => by simp [execOp, go_sem]) ?_
    refine wpQuiet_nil ?_
    simp only [Act.put, List.setIfInBounds_toArray, List.set_cons_succ, List.set_cons_zero]
    refine planC_callG rfl (by kernel_rfl) 309 #[.agg #[.slice sa X.length cap, .int .i64 bd, .bool st]] (by kernel_rfl) ?_
    refine (CT.out _ hD HX0.out).mono ?_
    rintro e w3 ⟨B3, d3, B4, d4, rfl, k1, _, _, _, _, hq⟩
    refine ⟨_, rfl, btr hD hq, ?_⟩
    replace hD := btr hD hq
    clear hq CT
    simp only [Act.put, List.setIfInBounds_toArray, List.set_cons_succ, List.set_cons_zero]
    refine planC_callG rfl (by kernel_rfl) 184 #[.agg #[.int .i64 2, .string a.nm, .slice A1 a.n c1, .string bb.nm, .slice A2 bb.n c2, .slice A3 n c3, .slice A4 n c4, .int .i64 bd, .bool st], .agg ((atSum X bd st).cs none 0 none 0 B3 d3 B4 d4)] (by kernel_rfl) ?_
    refine (C3.out w3 (btr q0 hD) B3 d3 B4 d4 k1 H4.out).mono ?_
    rintro e w4 ⟨rfl, hq⟩
    refine ⟨_, rfl, btr hD hq, ?_⟩
    replace hD := btr hD hq
    clear hq C3 k1
    refine plan_fin ?_
    simp only [List.drop_succ_cons, List.drop_zero, Act.put, List.setIfInBounds_toArray, List.set_cons_succ, List.set_cons_zero]
    cases res with
    | false =>
      go_wp2
      go_ret2
      exact ⟨rfl, btr q0 hD⟩
    | true =>
      go_wp2
      go_ret2
      have hXX := HXX.out
      subst hXX
      exact ⟨⟨sa, ⟨cap, rfl⟩, hRd.below hD, HKd.out.below hD⟩, btr q0 hD⟩
end Go.Proofs.Ytanfljajafelgaa

namespace Go.Proofs.Ytanfljajafelgaa
set_option linter.unusedVariables false
set_option linter.unusedSimpArgs false
open Go.RowKit
/-- what TermSort tells -/
def TsQ (n : Nat) (L : Sy) (t : Tm) (s : Int) (b : Bool) : Prop := tsE n L t = .returned (.tuple #[.int .i64 s, .bool b]) ∧ (b = true ↔ sigB n L = true ∧ wellB t = true ∧ 0 ≤ sortT n L t) ∧ (b = true → s = sortT n L t)
theorem tsq_of (n : Nat) (L : Sy) (t : Tm) : ∃ s b, TsQ n L t s b := by
  by_cases hs : sigB n L = true
  · by_cases hw : wellB t = true
    · by_cases hp : 0 ≤ sortT n L t
      · exact ⟨sortT n L t, true, by rw [tsE_yes hs hw, SrtE.yes hp], ⟨fun _ => ⟨hs, hw, hp⟩, fun _ => rfl⟩, fun _ => rfl⟩
      · exact ⟨0, false, by rw [tsE_yes hs hw, SrtE.no hp], ⟨(fun h => by cases h), fun h => absurd h.2.2 hp⟩, (fun h => by cases h)⟩
    · exact ⟨0, false, tsE_no (fun h => hw h.2), ⟨(fun h => by cases h), fun h => absurd h.2.1 hw⟩, (fun h => by cases h)⟩
  · exact ⟨0, false, tsE_no (fun h => hs h.1), ⟨(fun h => by cases h), fun h => absurd h.1 hs⟩, (fun h => by cases h)⟩
theorem tsq_at {n : Nat} {L : Sy} (hn : n ≤ 1048576) {t : Tm} (hF : Fits 1048576 t) {A B : Option Addr} {c d : Nat} {w : World} (hA : Syms w A n L) (hB : Kids 0 w t B) {s : Int} {b : Bool} (hv : TsQ n L t s b) (W : World) (hb : Below w.heap.size w W) :
    Calls Try.prog 146 #[.agg #[.slice A n c], .agg #[.string t.nm, .slice B t.n d]] W fun e w' => e = .returned (.tuple #[.int .i64 s, .bool b]) ∧ Below W.heap.size W w' := by
  have h := termsort_any n L hn t hF A B c d W (hA.below hb) (hB.below hb)
  rw [hv.1] at h
  exact h
end Go.Proofs.Ytanfljajafelgaa

namespace Go.Proofs.Ytanfljajafelgaa
set_option linter.unusedVariables false
set_option linter.unusedSimpArgs false
open Go.RowKit
theorem kind_none (x : At) (h1 : x.kd ≠ 1) (h2 : x.kd ≠ 2) (A1 : Option Addr) (c1 : Nat) (A2 : Option Addr) (c2 : Nat) (A3 : Option Addr) (c3 : Nat) (A4 : Option Addr) (c4 : Nat) (w : World) :
    Calls Try.prog 135 #[.agg (x.cs A1 c1 A2 c2 A3 c3 A4 c4)] w fun e w' => e = .returned (.tuple #[.nilIface, .bool false]) ∧ Below w.heap.size w w' := by
  obtain ⟨kd, a, bb, n, kid, m, Z, bd, st⟩ := x
  simp only at h1 h2
  simp only [At.cs]
  have z1 : (kd == 1) = false := by simpa using h1
  have z2 : (kd == 2) = false := by simpa using h2
  have q0 := bal (Below.refl w.heap.size w) (.cells #[.int .i64 kd, .string a.nm, .slice A1 a.n c1, .string bb.nm, .slice A2 bb.n c2, .slice A3 n c3, .slice A4 m c4, .int .i64 bd, .bool st] 95)
  clear h1 h2
  go_enter Try.func135, Try.ntmps135
  go_wp2
  go_ret2
  exact ⟨rfl, q0⟩
end Go.Proofs.Ytanfljajafelgaa

namespace Go.Proofs.Ytanfljajafelgaa
set_option linter.unusedVariables false
set_option linter.unusedSimpArgs false
open Go.RowKit
end Go.Proofs.Ytanfljajafelgaa
