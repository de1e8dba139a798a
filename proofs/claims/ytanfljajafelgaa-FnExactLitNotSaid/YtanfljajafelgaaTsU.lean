/- Contract of the program's TermSame: the walk. -/
import Derived.Test.YtanfljajafelgaaTsT
import Derived.Carry
namespace Go.Proofs.Ytanfljajafelgaa
set_option linter.unusedVariables false
set_option linter.unusedSimpArgs false
open Go.RowKit
def TsL (W w : World) (M lo : Nat) (p0 q0 : Lp) (m : Nat) (v : Value) (wr : World) : Prop :=
  ∃ T F rk N, wgtP T = m ∧ TsR W M lo p0 q0 T F rk N v wr ∧ m ≤ 1099511627776 ∧ Below w.heap.size w wr
/-- what TermSame answers -/
def TsA (w : World) (t u : Tm) (e : Ending) (w' : World) : Prop := ∃ b : Bool, e = .returned (.bool b) ∧ (b = true ↔ TEq t u) ∧ Below w.heap.size w w'
theorem ts_start (w w2 : World) (t u : Tm) (A B : Option Addr) (c d : Nat) (hb : Below w.heap.size w w2) (ht : KidT 0 w2 t A) (hu : KidT 0 w2 u B) (hc : t.n ≤ c ∧ c ≤ 9223372036854775807) (hd : u.n ≤ d ∧ d ≤ 9223372036854775807) (X : World)
    (hX : X = (((w2.alloc (.map #[] 0)).alloc (.cells #[.string t.nm, .slice A t.n c] 76)).alloc (.cells #[.string u.nm, .slice B u.n d] 76)).alloc (.cells #[.slice (some ⟨w2.heap.size + 1, 0, none⟩) 1 1, .slice (some ⟨w2.heap.size + 1 + 1, 0, none⟩) 1 1] 290)) :
    TsR X w2.heap.size w.heap.size ⟨some ⟨w2.heap.size + 1, 0, none⟩, 1, 1, fun _ => t⟩ ⟨some ⟨w2.heap.size + 1 + 1, 0, none⟩, 1, 1, fun _ => u⟩ [(⟨some ⟨w2.heap.size + 1, 0, none⟩, 1, 1, fun _ => t⟩, ⟨some ⟨w2.heap.size + 1 + 1, 0, none⟩, 1, 1, fun _ => u⟩)] (fun _ => none) (fun _ => 0) 0 (.slice (some ⟨w2.heap.size + 1 + 1 + 1, 0, none⟩) 1 1) X ∧ Below w.heap.size w X := by
  have hz := hb.size
  have b1 := bal (Below.refl w2.heap.size w2) (.map #[] 0)
  have b2 := bal b1 (.cells #[.string t.nm, .slice A t.n c] 76)
  have b3 := bal b2 (.cells #[.string u.nm, .slice B u.n d] 76)
  have b4 := bal b3 (.cells #[.slice (some ⟨w2.heap.size + 1, 0, none⟩) 1 1, .slice (some ⟨w2.heap.size + 1 + 1, 0, none⟩) 1 1] 290)
  have g0 : ∀ (v : World) (o : Obj), (v.alloc o).heap[v.heap.size]? = some o := fun v o => (MapKept.heap_alloc v o).1
  have g1 : ∀ (v : World) (o : Obj) (k : Nat), k < v.heap.size → (v.alloc o).heap[k]? = v.heap[k]? := fun v o k hk => (MapKept.heap_alloc v o).2 k hk
  have hM : X.heap[w2.heap.size]? = some (.map #[] 0) := by rw [hX, g1 _ _ _ (by simp; omega), g1 _ _ _ (by simp; omega), g1 _ _ _ (by simp), g0]
  have hP : X.heap[w2.heap.size + 1]? = some (.cells #[.string t.nm, .slice A t.n c] 76 (0, 0)) := by
    rw [hX, g1 _ _ _ (by simp), g1 _ _ _ (by simp)]
    have := g0 (w2.alloc (.map #[] 0)) (.cells #[.string t.nm, .slice A t.n c] 76)
    rw [World.size_alloc] at this; exact this
  have hQ : X.heap[w2.heap.size + 1 + 1]? = some (.cells #[.string u.nm, .slice B u.n d] 76 (0, 0)) := by
    rw [hX, g1 _ _ _ (by simp)]
    have := g0 ((w2.alloc (.map #[] 0)).alloc (.cells #[.string t.nm, .slice A t.n c] 76)) (.cells #[.string u.nm, .slice B u.n d] 76)
    rw [World.size_alloc, World.size_alloc] at this; exact this
  have hT : X.heap[w2.heap.size + 1 + 1 + 1]? = some (.cells #[.slice (some ⟨w2.heap.size + 1, 0, none⟩) 1 1, .slice (some ⟨w2.heap.size + 1 + 1, 0, none⟩) 1 1] 290 (0, 0)) := by
    rw [hX]
    have := g0 (((w2.alloc (.map #[] 0)).alloc (.cells #[.string t.nm, .slice A t.n c] 76)).alloc (.cells #[.string u.nm, .slice B u.n d] 76)) (.cells #[.slice (some ⟨w2.heap.size + 1, 0, none⟩) 1 1, .slice (some ⟨w2.heap.size + 1 + 1, 0, none⟩) 1 1] 290)
    rw [World.size_alloc, World.size_alloc, World.size_alloc] at this; exact this
  have b4' : Below w2.heap.size w2 X := by rw [hX]; exact b4
  have kt := KpT.below b4'
  have okp : Lp.ok X ⟨some ⟨w2.heap.size + 1, 0, none⟩, 1, 1, fun _ => t⟩ := ⟨Nat.le_refl _, by show (1 : Nat) ≤ 9223372036854775807; omega, .inr ⟨_, 0, _, rfl, Nat.zero_le _, hP, fun k hk => by
    obtain rfl : k = 0 := Nat.lt_one_iff.1 hk
    exact ⟨A, c, rfl, rfl, hc.1, hc.2, ht.keep kt⟩⟩⟩
  have okq : Lp.ok X ⟨some ⟨w2.heap.size + 1 + 1, 0, none⟩, 1, 1, fun _ => u⟩ := ⟨Nat.le_refl _, by show (1 : Nat) ≤ 9223372036854775807; omega, .inr ⟨_, 0, _, rfl, Nat.zero_le _, hQ, fun k hk => by
    obtain rfl : k = 0 := Nat.lt_one_iff.1 hk
    exact ⟨B, d, rfl, rfl, hd.1, hd.2, hu.keep kt⟩⟩⟩
  refine ⟨⟨⟨rfl, .inr ⟨_, 1, _, rfl, by omega, hT, Nat.le_refl _, by decide, rfl, rfl⟩⟩, ?_, ⟨Nat.le_refl _, KpT.refl _, ⟨#[], 0, hM, by simp, by simp, (fun _ _ h => by cases h)⟩, ⟨fun _ => Nat.le_refl _, (fun _ _ h => by cases h), (fun _ _ h => by cases h)⟩⟩, ?_, ?_⟩, btr hb b4'⟩
  · intro x hx; simp only [List.mem_singleton] at hx; subst hx; exact ⟨okp, okq⟩
  · intro h x hx; simp only [List.mem_singleton] at hx; subst hx; exact h
  · intro e h _
    exact ⟨(fun p q _ _ hf => by cases hf), h (_, _) (List.mem_singleton.2 rfl)⟩
set_option maxRecDepth 100000 in
set_option maxHeartbeats 8000000 in
theorem termsame_any (t u : Tm) (A B : Option Addr) (c d : Nat) (w : World) (ht : KidT 0 w t A) (hu : KidT 0 w u B) (hc : t.n ≤ c ∧ c ≤ 9223372036854775807) (hd : u.n ≤ d ∧ d ≤ 9223372036854775807) (hz : tSz t ≤ 1073741824) :
    Calls Try.prog 128 #[.agg #[.string t.nm, .slice A t.n c], .agg #[.string u.nm, .slice B u.n d]] w (TsA w t u) := by
  obtain ⟨c1, c2⟩ := hc
  obtain ⟨d1, d2⟩ := hd
  have hb2 := bal (bal (Below.refl w.heap.size w) (.cells #[.string t.nm, .slice A t.n c] 76)) (.cells #[.string u.nm, .slice B u.n d] 76)
  have hst := ts_start w _ t u A B c d hb2 (ht.keep (KpT.below hb2)) (hu.keep (KpT.below hb2)) ⟨c1, c2⟩ ⟨d1, d2⟩ _ rfl
  simp only [World.size_alloc] at hst
  clear hb2 ht hu
  have hmm := @run_makeMap Try.prog
  go_enter Try.func128, Try.ntmps128
  go_upto_region 3 with fail
  clear hmm
  generalize (((((w.alloc (.cells #[.string t.nm, .slice A t.n c] 76)).alloc (.cells #[.string u.nm, .slice B u.n d] 76)).alloc (.map #[] 0)).alloc (.cells #[.string t.nm, .slice A t.n c] 76)).alloc (.cells #[.string u.nm, .slice B u.n d] 76)).alloc (.cells #[.slice (some ⟨w.heap.size + 1 + 1 + 1, 0, none⟩) 1 1, .slice (some ⟨w.heap.size + 1 + 1 + 1 + 1, 0, none⟩) 1 1] 290) = W at *
  obtain ⟨hst, hbW⟩ := hst
  have hp0 : ∀ (p0 q0 : Lp), p0 = ⟨some ⟨w.heap.size + 1 + 1 + 1, 0, none⟩, 1, 1, fun _ => t⟩ → q0 = ⟨some ⟨w.heap.size + 1 + 1 + 1 + 1, 0, none⟩, 1, 1, fun _ => u⟩ → ((∀ d, LpEq d p0 q0) ↔ TEq t u) := by
    rintro p0 q0 rfl rfl
    exact ⟨fun h => (aEq_iff.1 h).2 0 Nat.one_pos, fun h => aEq_iff.2 ⟨rfl, fun _ _ => h⟩⟩
  have hw0 : wgtP [((⟨some ⟨w.heap.size + 1 + 1 + 1, 0, none⟩, 1, 1, fun _ => t⟩, ⟨some ⟨w.heap.size + 1 + 1 + 1 + 1, 0, none⟩, 1, 1, fun _ => u⟩) : Lp × Lp)] ≤ 1099511627776 := by
    simp only [wgtP, lSz, sumT]; omega
  obtain ⟨p0, hp⟩ : ∃ p0 : Lp, p0 = ⟨some ⟨w.heap.size + 1 + 1 + 1, 0, none⟩, 1, 1, fun _ => t⟩ := ⟨_, rfl⟩
  obtain ⟨q0, hq⟩ : ∃ q0 : Lp, q0 = ⟨some ⟨w.heap.size + 1 + 1 + 1 + 1, 0, none⟩, 1, 1, fun _ => u⟩ := ⟨_, rfl⟩
  replace hp0 := hid (hp0 p0 q0 hp hq)
  rw [← hp, ← hq] at hst hw0
  clear hp hq
  have hM : w.heap.size + 1 + 1 < W.heap.size := hst.fs.own.lt
  obtain ⟨μ, hμ⟩ := least_of (fun m v wr => TsL W w (w.heap.size + 1 + 1) w.heap.size p0 q0 m v wr)
  have Hμ := hid hμ
  clear hμ
  have hst0 := hid (show ∃ m, TsL W w (w.heap.size + 1 + 1) w.heap.size p0 q0 m (.slice (some ⟨w.heap.size + 1 + 1 + 1 + 1 + 1, 0, none⟩) 1 1) W from ⟨_, _, _, _, _, rfl, hst, hw0, hbW⟩)
  clear hst hw0 hbW
  go_loopw [6] (fun v wr => ∃ m, TsL W w (w.heap.size + 1 + 1) w.heap.size p0 q0 m v wr) (fun v wr => μ v wr)
  case atStart => exact hst0.out
  case round =>
    obtain ⟨m0, hm0⟩ := hrel
    obtain ⟨hle, T, F, rk, N, hw, hR, hmb, hb⟩ := Hμ.out _ _ _ hm0
    have HW := hid hw
    clear hm0 hw hle
    rcases List.eq_nil_or_concat T with rfl | ⟨T', ⟨⟨pA, pn, pc, pk⟩, ⟨qA, qn, qc, qk⟩⟩, hTc⟩
    · have hfin := hid (hp0.out.1 hR.fin)
      have hv : ∃ a c, u6 = .slice a 0 c := by
        obtain ⟨_, ⟨h, _⟩ | ⟨g, cap, cur, h, _⟩⟩ := hR.own
        · exact ⟨_, _, h⟩
        · exact ⟨_, _, h⟩
      obtain ⟨a', c', rfl⟩ := hv
      clear hR
      go_wp2
      go_ret
      exact ⟨true, rfl, by simp [hfin.out], hb⟩
    · rw [List.concat_eq_append] at hTc
      subst hTc
      have hown := hR.own
      obtain ⟨g, cap, rfl, e1, e2, x0, x1, hpop⟩ := own_pop (n := T'.length) (x := .slice pA pn pc) (y := .slice qA qn qc) (xs := flatP T') (by simpa [flatP_app, flatP, Lp.val] using hown)
      have hpok := hid (hR.ok (⟨pA, pn, pc, pk⟩, ⟨qA, qn, qc, qk⟩) (by simp))
      have HR := hid hR
      have hFs := hid hR.fs
      have hlen := wgtP_len (T' ++ [((⟨pA, pn, pc, pk⟩, ⟨qA, qn, qc, qk⟩) : Lp × Lp)])
      rw [HW.out, List.length_append] at hlen
      simp only [List.length_cons, List.length_nil] at hlen
      clear hown hR
      have hbb := hid hb; clear hb
      have POP := hid hpop; clear hpop
      have HLEN := hid (rfl : T'.length = T'.length)
      have hl2 : T'.length + 1 ≤ 1099511627776 := by omega
      unfold maxLen at e2
      generalize hn : T'.length = n at *
      have HN := hid hn
      clear hn HLEN hlen
      have s1 : IntKind.i64.wrap ((n : Int) + 1 - 1) = (n : Int) := by rw [IntWalk.i64_in _ (by omega)]; omega
      go_upto_region 5 with fail
      go_quiet (fail)
      go_upto_region 7 with fail
      have hqw : Below wr.heap.size wr (wr.drewN nq) := bdn (Below.refl _ _) nq
      have hFu := hid (hFs.out.below hqw)
      have POPu := hid (own_belowT hqw POP.out)
      have hbu := hid (btr hbb.out hqw)
      clear x0 x1 s1 hqw
      generalize wr.drewN nq = v at *
      by_cases hne : pn = qn
      · subst hne
        have d1 : ((pn : Int) != (pn : Int)) = false := by simp
        by_cases h0 : pn = 0
        · have hnew := hid (show TsL W w (w.heap.size + 1 + 1) w.heap.size p0 q0 (wgtP T') (.slice (some ⟨g, 0, none⟩) n cap) v from by
            refine ⟨T', F, rk, N, rfl, ⟨by rw [HN.out]; exact POPu.out, fun x hx => HR.out.ok x (List.mem_append_left _ hx), hFu.out, fun h x hx => HR.out.up h x (List.mem_append_left _ hx), fun e h hf => HR.out.dn e (fun x hx => ?_) hf⟩, ?_, hbu.out⟩
            · rcases List.mem_append.1 hx with hx | hx
              · exact h x hx
              · rw [List.mem_singleton.1 hx]
                cases e with
                | zero => trivial
                | succ e => exact ⟨rfl, fun k hk => absurd hk (by simp only; omega)⟩
            · have h1 := HW.out
              rw [wgtP_app] at h1
              omega)
          have h0' : ((pn : Int) == 0) = true := by simp; omega
          have HH0 := hid h0; clear h0
          go_wp2
          go_roundw
          case rel => exact ⟨_, hnew.out⟩
          case measure =>
            have h1 := (Hμ.out _ _ _ hnew.out).1
            have h2 := HW.out
            rw [wgtP_app] at h2
            simp only [wgtP] at h2
            have h3 : wgtP T' < μ (.slice (some ⟨g, 0, none⟩) (n + 1) cap) wr := by omega
            exact Nat.lt_of_le_of_lt h1 h3
        · have h0' : ((pn : Int) == 0) = false := by simp; omega
          have hJ : Calls Try.prog 180 #[.map (some (w.heap.size + 1 + 1)), .slice pA pn pc, .slice qA pn qc] v _ := join_any W (w.heap.size + 1 + 1) N F rk ⟨pA, pn, pc, pk⟩ ⟨qA, pn, qc, qk⟩ v hpok.out.1 h0 hpok.out.2 h0 hFu.out
          have HH0 := hid h0; clear h0
          go_wp2_with fail
          refine hJ.mono ?_
          clear hJ
          rintro e w1 ⟨ok, G, rk', N', rfl, hG, hW1, hcase⟩
          have POP1 := hid (own_wrtT hW1 (own_neM hFu.out.own POPu.out) POPu.out)
          have hb1 := hid (hW1.below hbu.out (by omega))
          have HG := hid hG
          clear hG
          have hwt := HW.out
          rw [wgtP_app] at hwt
          simp only [wgtP] at hwt
          have HWT := hid hwt; clear hwt
          rcases hcase with ⟨rfl, hE1, hE2⟩ | ⟨rfl, hE1, hE2⟩
          · have hnew := hid (show TsL W w (w.heap.size + 1 + 1) w.heap.size p0 q0 (wgtP T') (.slice (some ⟨g, 0, none⟩) n cap) w1 from by
              refine ⟨T', G, rk', N', rfl, ⟨by rw [HN.out]; exact POP1.out, fun x hx => HR.out.ok x (List.mem_append_left _ hx), HG.out, fun h x hx => HR.out.up h x (List.mem_append_left _ hx), fun e h hf => ?_⟩, ?_, hb1.out⟩
              · have hf' := (hE1 e).1 hf
                have h2 := HR.out.dn e (fun x hx => by
                  rcases List.mem_append.1 hx with hx | hx
                  · exact h x hx
                  · rw [List.mem_singleton.1 hx]; exact hE2 e hf') hf'
                exact ⟨(hE1 (e + 1)).2 h2.1, h2.2⟩
              · have h1 := HWT.out
                omega)
            clear hE1 hE2 hW1
            go_wp2
            go_roundw
            case rel => exact ⟨_, hnew.out⟩
            case measure =>
              have h1 := (Hμ.out _ _ _ hnew.out).1
              have h2 := HWT.out
              have h3 : wgtP T' < μ (.slice (some ⟨g, 0, none⟩) (n + 1) cap) wr := by omega
              exact Nat.lt_of_le_of_lt h1 h3
          · have HE1 := hid hE1; have HE2 := hid hE2
            clear hE1 hE2 hW1
            obtain ⟨h1c, h1d, h1k⟩ := hpok.out.1
            obtain ⟨h2c, h2d, h2k⟩ := hpok.out.2
            rcases h1k with h1k | ⟨gp, op, cp, rfl, _, hgp, hcp⟩
            · exact absurd h1k HH0.out
            rcases h2k with h2k | ⟨gq, oq, cq, rfl, _, hgq, hcq⟩
            · exact absurd h2k HH0.out
            obtain ⟨fP, hfP⟩ := Go.Deep.choose_lt (p := fun k (r : Option Addr × Nat) => cp[op + k * 2]? = some (.string (pk k).nm) ∧ cp[op + k * 2 + 1]? = some (.slice r.1 (pk k).n r.2) ∧ (kl (fun _ => r) pk k).ok W) (n := pn) (fun k hk => by
              obtain ⟨a, c', z0, z1, z2, z3, z4⟩ := hcp k hk
              exact ⟨(a, c'), z0, z1, z2, z3, z4.nm _⟩)
            obtain ⟨fQ, hfQ⟩ := Go.Deep.choose_lt (p := fun k (r : Option Addr × Nat) => cq[oq + k * 2]? = some (.string (qk k).nm) ∧ cq[oq + k * 2 + 1]? = some (.slice r.1 (qk k).n r.2) ∧ (kl (fun _ => r) qk k).ok W) (n := pn) (fun k hk => by
              obtain ⟨a, c', z0, z1, z2, z3, z4⟩ := hcq k hk
              exact ⟨(a, c'), z0, z1, z2, z3, z4.nm _⟩)
            have HP := hid hfP; have HQ := hid hfQ
            have hpn : pn ≤ 9223372036854775807 := Nat.le_trans h1c h1d
            clear hcp hcq hfP hfQ h1c h2c h1d h2d
            obtain ⟨i0, hi, hz0, hz1, hz2⟩ := info_parts infoPr
            have hwq := HWT.out
            have hsum : lSz ⟨some ⟨gp, op, none⟩, pn, pc, pk⟩ ≤ 1099511627776 := by omega
            have hpl : pn ≤ 1099511627776 := Nat.le_trans (sumT_ge (f := fun k => tSz (pk k)) (fun k => tSz_pos _) pn) hsum
            have HWX := hid (show wgtP T' + lSz ⟨some ⟨gp, op, none⟩, pn, pc, pk⟩ ≤ 1099511627776 by omega)
            clear hwq hsum
            have HLT := hid (fun m (h : m < 1 + lSz ⟨some ⟨gp, op, none⟩, pn, pc, pk⟩ + wgtP T') => (show m < μ (.slice (some ⟨g, 0, none⟩) (n + 1) cap) wr by have := HWT.out; omega))
            go_upto_region 11 with fail
            go_loopw [6, 54] (fun tv i wi => ∃ k : Nat, k ≤ pn ∧ i = .int .i64 k ∧ wi.ownsRow w.heap.size 290 2 tv (n + k) (flatP (T' ++ kidsP fP fQ pk qk k)) ∧ FsW W wi (w.heap.size + 1 + 1) G rk' N' ∧ Below w.heap.size w wi ∧ ∀ j, j < k → (pk j).nm = (qk j).nm) (fun _ i _ => pn - (intOf i).toNat)
            case atStart => exact ⟨0, Nat.zero_le _, rfl, by simpa [kidsP] using POP1.out, HG.out, hb1.out, fun j hj => absurd hj (by omega)⟩
            case round =>
              obtain ⟨k, hk, rfl, hown, hF, hbi, hnm⟩ := hrel
              have HF := hid hF; have HBI := hid hbi; have HNM := hid hnm
              clear hF hbi hnm
              by_cases hlt : k < pn
              · obtain ⟨y0, y1, y2⟩ := HP.out k hlt
                obtain ⟨z0, z1, z2⟩ := HQ.out k hlt
                have gP := HF.out.kp _ _ hgp
                have gQ := HF.out.kp _ _ hgq
                have b0 : wr.cell? ⟨gp, op + k * 2, none⟩ = some (.string (pk k).nm) := by simp [World.cell?, gP, y0]
                have b1 : wr.cell? ⟨gp, op + k * 2 + 1, none⟩ = some (.slice (fP k).1 (pk k).n (fP k).2) := by simp [World.cell?, gP, y1]
                have a0 : wr.cell? ⟨gq, oq + k * 2, none⟩ = some (.string (qk k).nm) := by simp [World.cell?, gQ, z0]
                have a1 : wr.cell? ⟨gq, oq + k * 2 + 1, none⟩ = some (.slice (fQ k).1 (qk k).n (fQ k).2) := by simp [World.cell?, gQ, z1]
                have B1 := hid b1; have A1 := hid a1
                have HOWN := hid hown
                clear y0 y1 y2 z0 z1 z2 gP gQ b1 a1 hown
                have hqw := hid (fun nq => bdn (Below.refl wr.heap.size wr) nq)
                by_cases hnm : (pk k).nm = (qk k).nm
                · have dn1 : ((pk k).nm.toList == (qk k).nm.toList) = true := by rw [hnm]; simp
                  have HNk := hid hnm; clear hnm
                  go_upto_region 13 with fail
                  go_quiet (fail)
                  go_upto_region 15 with fail
                  have hX := hid (hqw.out nq)
                  have hown2 := own_belowT hX.out HOWN.out
                  have b1 := carry hX.out B1.out
                  have a1 := carry hX.out A1.out
                  have hFx := hid (HF.out.below hX.out)
                  have hBx := hid (btr HBI.out hX.out)
                  have l1 := cell_lt b1
                  have l2 := cell_lt a1
                  clear b0 a0
                  generalize wr.drewN nq = x at *
                  have gc := @gro_cell x
                  refine region_plan (.takes [0, 1, 2, 3, 4, 5, 6, 7, 8, 9, 10, 11] (.make 12 .fin)) 13 rfl (by kernel_rfl) ?_
                  refine plan_takes ?_; simp only [pickOps, List.getElem?_cons_zero, List.getElem?_cons_succ]; (repeat (go_big_quiet_step (fail))); refine wpQuiet_nil ?_
                  clear gc l1 l2
                  have hY := hid ((Below.refl x.heap.size x).drew)
                  have hown3 := own_belowT hY.out hown2
                  have hFy := hid (hFx.out.below hY.out)
                  have hBy := hid (btr hBx.out hY.out)
                  clear b1 a1 hown2
                  have hB4 := bal (Below.refl x.drew.heap.size x.drew) (.cells #[.slice (fP k).1 (pk k).n (fP k).2, .slice (fQ k).1 (qk k).n (fQ k).2] 290)
                  have hown4 := own_belowT hB4 hown3
                  have hF4 := hid (hFy.out.below hB4)
                  have hB5 := hid (btr hBy.out hB4)
                  have hsz5 := hB5.out.size
                  have hnews : ∀ (j : Nat) (u : Value), ([.slice (fP k).1 (pk k).n (fP k).2, .slice (fQ k).1 (qk k).n (fQ k).2] : List Value)[j]? = some u → (x.drew.alloc (.cells #[.slice (fP k).1 (pk k).n (fP k).2, .slice (fQ k).1 (qk k).n (fQ k).2] 290)).cell? ((⟨x.drew.heap.size, 0, none⟩ : Addr).add j) = some u := by
                    intro j u h
                    match j with
                    | 0 => simp at h; subst h; simp [go_sem, Addr.add]
                    | 1 => simp at h; subst h; simp [go_sem, Addr.add]
                    | j + 2 => simp at h
                  have hone : ∀ u ∈ ([.slice (fP k).1 (pk k).n (fP k).2, .slice (fQ k).1 (qk k).n (fQ k).2] : List Value), u.oneCell' = true := fun u hu => by simp at hu; rcases hu with rfl | rfl <;> rfl
                  clear hB4
                  refine plan_val rfl rfl (.slice (some ⟨x.drew.heap.size, 0, none⟩) 1 1) (w'' := x.drew.alloc (.cells #[.slice (fP k).1 (pk k).n (fP k).2, .slice (fQ k).1 (qk k).n (fQ k).2] 290)) (by simp [execOp, go_sem]) (btr hY.out (bal (Below.refl _ _) _)) ?_
                  refine plan_fin ?_
                  simp only [List.drop_succ_cons, List.drop_zero, Act.put, List.setIfInBounds_toArray, List.set_cons_succ, List.set_cons_zero]
                  refine wpList_append_own _ rfl _ _ 291 rfl w.heap.size 290 i0 _ 2 48 Try.underlying291 hi hz0 hz1 hz2 rfl (by decide) _ _ _ rfl hown4 ⟨x.drew.heap.size, 0, none⟩ 1 1 [.slice (fP k).1 (pk k).n (fP k).2, .slice (fQ k).1 (qk k).n (fQ k).2] rfl rfl hnews hone (by unfold maxLen; omega) (by omega) hsz5 ?_
                  intro v' w6 hown6 hgrow _
                  have HO6 := hid hown6
                  have HF6 := hid (hF4.out.row hown4 hgrow)
                  have HB6 := hid (hB5.out.grown hgrow hsz5 (fun j hj => (hown4.lt j hj).1))
                  clear hown6 hgrow hown4 hown3 hsz5 hnews hone
                  go_wp2
                  go_roundw
                  case rel =>
                    refine ⟨k + 1, by omega, by go_num, ?_, HF6.out, HB6.out, fun j hj => ?_⟩
                    · have h6 := HO6.out
                      rw [kidsP, ← List.append_assoc, flatP_app]
                      exact h6
                    · by_cases e : j = k
                      · subst e; exact HNk.out
                      · exact HNM.out j (by omega)
                  case measure => simp [intOf]; omega
                · have dn1 : ((pk k).nm.toList == (qk k).nm.toList) = false := by
                    simp only [beq_eq_false_iff_ne, ne_eq, ByteArray.toList_eq]
                    intro h; apply hnm; apply ByteArray.ext; exact Array.ext' h
                  have HNk := hid hnm; clear hnm
                  go_upto_region 13 with fail
                  go_quiet (fail)
                  go_wp2
                  go_ret
                  refine ⟨false, rfl, ?_, btr HBI.out (hqw.out _)⟩
                  constructor
                  · intro h; cases h
                  · intro h
                    exact absurd ((HR.out.up (hp0.out.2 h) (_, _) (List.mem_append_right _ (List.mem_singleton.2 rfl)) 1).2 k hlt).1 HNk.out
              · have hkn : k = pn := by omega
                subst hkn
                have hnew := hid (show TsL W w (w.heap.size + 1 + 1) w.heap.size p0 q0 (wgtP (T' ++ kidsP fP fQ pk qk k)) u6 wr from by
                  refine ⟨T' ++ kidsP fP fQ pk qk k, G, rk', N', rfl, ⟨by rw [List.length_append, kidsP_len, HN.out]; exact hown, fun x hx => ?_, HF.out, fun h x hx => ?_, fun e h hf => ?_⟩, ?_, HBI.out⟩
                  · rcases List.mem_append.1 hx with hx | hx
                    · exact HR.out.ok x (List.mem_append_left _ hx)
                    · obtain ⟨j, hj, rfl⟩ := kidsP_of hx
                      exact ⟨(HP.out j hj).2.2, (HQ.out j hj).2.2⟩
                  · rcases List.mem_append.1 hx with hx | hx
                    · exact HR.out.up h x (List.mem_append_left _ hx)
                    · obtain ⟨j, hj, rfl⟩ := kidsP_of hx
                      exact fun d => ((HR.out.up h (_, _) (List.mem_append_right _ (List.mem_singleton.2 rfl)) (d + 1)).2 j hj).2
                  · obtain ⟨f1, f2⟩ := HE1.out e hf
                    have h2 := HR.out.dn e (fun x hx => by
                      rcases List.mem_append.1 hx with hx | hx
                      · exact h x (List.mem_append_left _ hx)
                      · rw [List.mem_singleton.1 hx]; exact f2) f1
                    exact ⟨HE2.out (e + 1) h2.1 ⟨rfl, fun j hj => ⟨HNM.out j hj, h _ (List.mem_append_right _ (kidsP_mem hj))⟩⟩, h2.2⟩
                  · rw [wgtP_app, wgt_kids]
                    have h3 := HWX.out
                    show wgtP T' + lSz ⟨some ⟨gp, op, none⟩, k, pc, pk⟩ ≤ 1099511627776
                    omega)
                have hlt2 := hid (HLT.out (wgtP (T' ++ kidsP fP fQ pk qk k)) (by rw [wgtP_app, wgt_kids]; show wgtP T' + lSz ⟨some ⟨gp, op, none⟩, k, pc, pk⟩ < 1 + lSz ⟨some ⟨gp, op, none⟩, k, pc, pk⟩ + wgtP T'; omega))
                clear hown hlt
                go_wp2
                go_roundw
                case rel => exact ⟨_, hnew.out⟩
                case measure => exact Nat.lt_of_le_of_lt (Hμ.out _ _ _ hnew.out).1 hlt2.out
      · have d1 : ((pn : Int) != (qn : Int)) = true := by simp; omega
        have HNE := hid hne; clear hne
        go_wp2
        go_ret
        refine ⟨false, rfl, ?_, hbu.out⟩
        constructor
        · intro h; cases h
        · intro h
          exact absurd (HR.out.up (hp0.out.2 h) (_, _) (List.mem_append_right _ (List.mem_singleton.2 rfl)) 1).1 HNE.out
end Go.Proofs.Ytanfljajafelgaa
