/- Contract of the model's AtomSame. -/
import Derived.Test.YtcnlolocppbcjaaAtC
namespace Go.Proofs.Ytcnlolocppbcjaa
set_option linter.unusedVariables false
set_option linter.unusedSimpArgs false
open Go.RowKit
set_option maxRecDepth 100000 in
set_option maxHeartbeats 8000000 in
theorem satomsame_at (x y : At) (b : Bool) (hb : b = true ↔ AtEq x y) (hF : AtF 9223372036854775807 x) (hF' : AtF 9223372036854775807 y) (A1 : Option Addr) (c1 : Nat) (A2 : Option Addr) (c2 : Nat) (A3 : Option Addr) (c3 : Nat) (A4 : Option Addr) (c4 : Nat) (B1 : Option Addr) (d1 : Nat) (B2 : Option Addr) (d2 : Nat) (B3 : Option Addr) (d3 : Nat) (B4 : Option Addr) (d4 : Nat) (w : World) (hA : AtK w x A1 A2 A3 A4) (hB : AtK w y B1 B2 B3 B4) :
    Calls Try.prog 47 #[.agg (x.cs A1 c1 A2 c2 A3 c3 A4 c4), .agg (y.cs B1 d1 B2 d2 B3 d3 B4 d4)] w fun e w' => e = .returned (.bool b) ∧ Below w.heap.size w w' := by
  obtain ⟨k1, k2, k3, k4⟩ := hA
  obtain ⟨j1, j2, j3, j4⟩ := hB
  obtain ⟨f1, f2, f3, f4, f5⟩ := hF
  obtain ⟨g1, g2, g3, g4, g5⟩ := hF'
  have HB := hid hb
  clear hb
  obtain ⟨ra, hra⟩ := teq_bool x.a y.a
  obtain ⟨rb, hrb⟩ := teq_bool x.b y.b
  have CA := hid (fun W (h : Below w.heap.size w W) => stermsame_at x.a y.a ra hra f1 g1 A1 B1 c1 d1 W (k1.below h) (j1.below h))
  have CB := hid (fun W (h : Below w.heap.size w W) => stermsame_at x.b y.b rb hrb f2 g2 A2 B2 c2 d2 W (k2.below h) (j2.below h))
  have HRA := hid hra; have HRB := hid hrb
  have F4 := hid f4; have G4 := hid g4
  clear k1 k2 j1 j2 f1 f2 f4 g1 g2 g4 hra hrb
  obtain ⟨kd, a, bb, n, kid, m, Z, bd, st⟩ := x
  obtain ⟨kd', a', bb', n', kid', m', Z', bd', st'⟩ := y
  simp only [At.cs] at *
  have notf : ∀ {P : Prop}, (AtEq ⟨kd, a, bb, n, kid, m, Z, bd, st⟩ ⟨kd', a', bb', n', kid', m', Z', bd', st'⟩ → P) → ¬ P → b = false := fun h hp => by
    cases b with
    | false => rfl
    | true => exact absurd (h (HB.out.1 rfl)) hp
  have NF : Hid (∀ {P : Prop}, (AtEq ⟨kd, a, bb, n, kid, m, Z, bd, st⟩ ⟨kd', a', bb', n', kid', m', Z', bd', st'⟩ → P) → ¬ P → b = false) := hid notf
  clear notf
  have q2 := bal (bal (Below.refl w.heap.size w) (.cells #[.int .i64 kd, .string a.nm, .slice A1 a.n c1, .string bb.nm, .slice A2 bb.n c2, .slice A3 n c3, .slice A4 m c4, .int .i64 bd, .bool st] 70)) (.cells #[.int .i64 kd', .string a'.nm, .slice B1 a'.n d1, .string bb'.nm, .slice B2 bb'.n d2, .slice B3 n' d3, .slice B4 m' d4, .int .i64 bd', .bool st'] 70)
  by_cases e1 : kd = kd'
  rotate_left
  · have hbf := NF.out (fun h => h.1) e1
    subst hbf
    have z1 : (kd != kd') = true := by simpa using e1
    have E1 := hid e1; clear e1
    clear k3 k4 j3 j4
    go_enter Try.func47, Try.ntmps47
    go_wp2
    go_ret
    exact ⟨rfl, q2⟩
  subst e1
  have z1 : (kd != kd) = false := by simp
  have H : KcL [(w.heap.size, 1, .string a.nm), (w.heap.size, 2, .slice A1 a.n c1), (w.heap.size, 3, .string bb.nm), (w.heap.size, 4, .slice A2 bb.n c2), (w.heap.size, 5, .slice A3 n c3), (w.heap.size, 6, .slice A4 m c4), (w.heap.size, 7, .int .i64 bd), (w.heap.size, 8, .bool st), (w.heap.size + 1, 1, .string a'.nm), (w.heap.size + 1, 2, .slice B1 a'.n d1), (w.heap.size + 1, 3, .string bb'.nm), (w.heap.size + 1, 4, .slice B2 bb'.n d2), (w.heap.size + 1, 5, .slice B3 n' d3), (w.heap.size + 1, 6, .slice B4 m' d4), (w.heap.size + 1, 7, .int .i64 bd'), (w.heap.size + 1, 8, .bool st')] ((w.alloc (.cells #[.int .i64 kd, .string a.nm, .slice A1 a.n c1, .string bb.nm, .slice A2 bb.n c2, .slice A3 n c3, .slice A4 m c4, .int .i64 bd, .bool st] 70)).alloc (.cells #[.int .i64 kd, .string a'.nm, .slice B1 a'.n d1, .string bb'.nm, .slice B2 bb'.n d2, .slice B3 n' d3, .slice B4 m' d4, .int .i64 bd', .bool st'] 70)) := by
    refine ⟨?_, ?_, ?_, ?_, ?_, ?_, ?_, ?_, ?_, ?_, ?_, ?_, ?_, ?_, ?_, ?_, trivial⟩ <;> simp [go_sem]
  go_enter Try.func47, Try.ntmps47
  have HH_ := H; obtain ⟨s0, s1, s2, s3, s4, s5, s6, s7, s8, s9, s10, s11, s12, s13, s14, s15, _⟩ := HH_
  go_wp2_with fail
  refine (CA.out _ q2).mono ?_
  rintro e w1 ⟨rfl, hq⟩
  clear s0 s1 s2 s3 s4 s5 s6 s7 s8 s9 s10 s11 s12 s13 s14 s15
  replace H := H.below hq
  replace q2 := btr q2 hq
  clear hq CA
  cases ra with
  | false =>
    have hbf := NF.out (fun h => h.2.1) (fun h => by have := HRA.out.2 h; cases this)
    subst hbf
    go_wp2
    go_ret
    exact ⟨rfl, q2⟩
  | true =>
  have HH_ := H; obtain ⟨s0, s1, s2, s3, s4, s5, s6, s7, s8, s9, s10, s11, s12, s13, s14, s15, _⟩ := HH_
  go_wp2_with fail
  refine (CB.out _ q2).mono ?_
  rintro e w2 ⟨rfl, hq⟩
  clear s0 s1 s2 s3 s4 s5 s6 s7 s8 s9 s10 s11 s12 s13 s14 s15
  replace H := H.below hq
  replace q2 := btr q2 hq
  clear hq CB
  cases rb with
  | false =>
    have hbf := NF.out (fun h => h.2.2.1) (fun h => by have := HRB.out.2 h; cases this)
    subst hbf
    go_wp2
    go_ret
    exact ⟨rfl, q2⟩
  | true =>
  have HH_ := H; obtain ⟨s0, s1, s2, s3, s4, s5, s6, s7, s8, s9, s10, s11, s12, s13, s14, s15, _⟩ := HH_
  by_cases e2 : n = n'
  rotate_left
  · have hbf := NF.out (fun h => h.2.2.2.1.1) e2
    subst hbf
    have z2 : ((n : Int) != (n' : Int)) = true := by simp; omega
    have E2 := hid e2; clear e2
    go_wp2
    go_ret
    exact ⟨rfl, q2⟩
  by_cases e3 : m = m'
  rotate_left
  · have hbf := NF.out (fun h => h.2.2.2.2.1.1) e3
    subst hbf
    subst e2
    have z2 : ((n : Int) != (n : Int)) = false := by simp
    have z3 : ((m : Int) != (m' : Int)) = true := by simp; omega
    have E3 := hid e3; clear e3
    go_wp2
    go_ret
    exact ⟨rfl, q2⟩
  by_cases e4 : bd = bd'
  rotate_left
  · have hbf := NF.out (fun h => h.2.2.2.2.2.1) e4
    subst hbf
    subst e2 e3
    have z2 : ((n : Int) != (n : Int)) = false := by simp
    have z3 : ((m : Int) != (m : Int)) = false := by simp
    have z4 : (bd != bd') = true := by simpa using e4
    have E4 := hid e4; clear e4
    go_wp2
    go_ret
    exact ⟨rfl, q2⟩
  by_cases e5 : st = st'
  rotate_left
  · have hbf := NF.out (fun h => h.2.2.2.2.2.2) e5
    subst hbf
    subst e2 e3 e4
    have z2 : ((n : Int) != (n : Int)) = false := by simp
    have z3 : ((m : Int) != (m : Int)) = false := by simp
    have z4 : (bd != bd) = false := by simp
    cases st <;> cases st' <;> first | exact absurd rfl e5 | (clear e5; go_wp2; go_ret; exact ⟨rfl, q2⟩)
  subst e2 e3 e4 e5
  have z2 : ((n : Int) != (n : Int)) = false := by simp
  have z3 : ((m : Int) != (m : Int)) = false := by simp
  have z4 : (bd != bd) = false := by simp
  have z5 : (st != st) = false := by simp
  go_upto_region 3 with fail
  clear s0 s1 s2 s3 s4 s5 s6 s7 s8 s9 s10 s11 s12 s13 s14 s15
  go_wp2
  go_loopw [5] (fun i wr => ∃ k : Nat, k ≤ n ∧ i = .int .i64 k ∧ Below w2.heap.size w2 wr ∧ ∀ j, j < k → TEq (kid j) (kid' j)) (fun i _ => n - (intOf i).toNat)
  case atStart => exact ⟨0, Nat.zero_le _, rfl, Below.refl _ _, fun j hj => absurd hj (by omega)⟩
  case round =>
    obtain ⟨k, hk, rfl, hbr, he⟩ := hrel
    have HE := hid he; clear he
    have H2 := H.below hbr
    have HH_ := H2; obtain ⟨s0, s1, s2, s3, s4, s5, s6, s7, s8, s9, s10, s11, s12, s13, s14, s15, _⟩ := HH_
    have l2 := cell_lt s4
    have l3 := cell_lt s12
    by_cases hlt : k < n
    · rcases k3 with h0 | ⟨g, off, rfl, _, hg, hcA⟩
      · omega
      rcases j3 with h0 | ⟨g', off', rfl, _, hg', hcB⟩
      · omega
      have hbw := btr q2 hbr
      obtain ⟨a9, ca, a0, a1, hI⟩ := hcA k hlt
      obtain ⟨a8, cb, b0, b1, hJ⟩ := hcB k hlt
      have gg := Nat.lt_of_lt_of_le hg hbw.size
      have gg' := Nat.lt_of_lt_of_le hg' hbw.size
      replace a0 := carry hbw a0
      replace a1 := carry hbw a1
      replace b0 := carry hbw b0
      replace b1 := carry hbw b1
      obtain ⟨rc, hrc⟩ := teq_bool (kid k) (kid' k)
      have hE := fun X : Gro wr => stermsame_at (kid k) (kid' k) rc hrc (F4.out k hlt) (G4.out k hlt) a9 a8 ca cb (gro wr X) ((hI.below hbw).below X.h) ((hJ.below hbw).below X.h)
      have HRC := hid hrc
      clear hcA hcB hI hJ hrc
      have gc := @gro_cell wr
      go_upto_region 6 with fail
      refine wp_region_grow_lit (by kernel_rfl) (by kernel_rfl) ?_
      repeat (go_big_quiet_step ((go_at_call 22; exact grow_call _ (hE _))))
      refine wpQuiet_nil ?_
      rintro w3 ⟨⟨_, hX⟩, rfl⟩
      clear gc hE
      cases rc with
      | true =>
        have hkk := hid (HRC.out.1 rfl)
        go_wp2
        go_roundw
        case rel => exact ⟨k + 1, by omega, by go_num, btr hbr hX, fun j hj => by
          by_cases e : j = k
          · rw [e]; exact hkk.out
          · exact HE.out j (by omega)⟩
        case measure => simp [intOf]; omega
      | false =>
        have hbf := NF.out (fun h => h.2.2.2.1.2 k hlt) (fun h => by have := HRC.out.2 h; cases this)
        subst hbf
        go_wp2
        go_ret
        exact ⟨rfl, btr q2 (btr hbr hX)⟩
    · have hke : k = n := by omega
      have HKE := hid (show ∀ j, j < n → TEq (kid j) (kid' j) by rw [← hke]; exact HE.out)
      have q3 := hid (btr q2 hbr)
      have QB := hid hbr
      have HKN := hid hke
      clear hke k3 j3
      go_upto_region 9 with fail
      clear s0 s1 s2 s3 s4 s5 s6 s7 s8 s9 s10 s11 s12 s13 s14 s15
      clear l2 l3
      go_loopw [6] (fun i wx => ∃ k : Nat, k ≤ m ∧ i = .int .i64 k ∧ Below w2.heap.size w2 wx ∧ ∀ j, j < k → Z j = Z' j) (fun i _ => m - (intOf i).toNat)
      case atStart => exact ⟨0, Nat.zero_le _, rfl, QB.out, fun j hj => absurd hj (by omega)⟩
      case round =>
        obtain ⟨p, hp, rfl, hbx, hez⟩ := hrel
        have HZ := hid hez; clear hez
        have H3 := H.below hbx
        have HH_ := H3; obtain ⟨s0, s1, s2, s3, s4, s5, s6, s7, s8, s9, s10, s11, s12, s13, s14, s15, _⟩ := HH_
        by_cases hlp : p < m
        · rcases k4 with h0 | ⟨g, off, rfl, hg, hcA⟩
          · omega
          rcases j4 with h0 | ⟨g', off', rfl, hg', hcB⟩
          · omega
          have hbw := btr q2 hbx
          have a0 := carry hbw (hcA p hlp)
          have b0 := carry hbw (hcB p hlp)
          clear hcA hcB
          by_cases hzz : Z p = Z' p
          · have z9 : (Z p != Z' p) = false := by simpa using hzz
            have HZZ := hid hzz; clear hzz
            go_upto_region 11 with fail
            go_quiet (fail)
            go_wp2
            go_roundw
            case rel => exact ⟨p + 1, by omega, by go_num, bdn hbx _, fun j hj => by
              by_cases e : j = p
              · rw [e]; exact HZZ.out
              · exact HZ.out j (by omega)⟩
            case measure => simp [intOf]; omega
          · have z9 : (Z p != Z' p) = true := by simpa using hzz
            have hbf := NF.out (fun h => h.2.2.2.2.1.2 p hlp) hzz
            have HZZ := hid hzz; clear hzz
            subst hbf
            go_upto_region 11 with fail
            go_quiet (fail)
            go_wp2
            go_ret
            exact ⟨rfl, btr q2 (bdn hbx _)⟩
        · have hpe : p = m := by omega
          have hbt : b = true := HB.out.2 ⟨rfl, (by first | exact HRA.out.1 rfl | exact HRA.out.1 trivial), (by first | exact HRB.out.1 rfl | exact HRB.out.1 trivial), ⟨rfl, HKE.out⟩, ⟨rfl, fun j hj => HZ.out j (by rw [hpe]; exact hj)⟩, rfl, rfl⟩
          subst hbt
          have HPE := hid hpe; clear hpe
          go_wp2
          go_ret
          exact ⟨rfl, btr q2 hbx⟩
end Go.Proofs.Ytcnlolocppbcjaa
