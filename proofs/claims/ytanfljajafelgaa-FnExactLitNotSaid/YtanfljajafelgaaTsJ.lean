/- Contract of the program's join of two places. -/
import Derived.Test.YtanfljajafelgaaTsC
namespace Go.Proofs.Ytanfljajafelgaa
set_option linter.unusedVariables false
set_option linter.unusedSimpArgs false
open Go.RowKit
theorem Bx2.wrt {b lo hi : Nat} {w w' : World} {x y : Value} (h : Bx2 b w x y) (hw : Wrt lo hi w w') (hr : b < lo ∨ hi ≤ b) : Bx2 b w' x y := by
  have hb := hw.block b (cell_lt h.1) hr
  exact ⟨(World.cell?_of_block (w := w) (a := ⟨b, 0, none⟩) hb).trans h.1, (World.cell?_of_block (w := w) (a := ⟨b, 1, none⟩) hb).trans h.2.1, (World.frozen?_of_block (w := w) (a := ⟨b, 0, none⟩) hb).trans h.2.2.1, (World.frozen?_of_block (w := w) (a := ⟨b, 1, none⟩) hb).trans h.2.2.2⟩
theorem ptr_pl {W w : World} {p q : Lp} (hw : KpT W w) (hp : p.ok W) (hp0 : p.n ≠ 0) (hq : q.ok W) (hq0 : q.n ≠ 0) : ∃ r, (Op.equalIn 9999 337 (.pointer p.A) (.pointer q.A)).run Try.prog w = .ok r w ∧ (r = true ↔ p.A = q.A) := by
  obtain ⟨A, n, c, kid⟩ := p
  obtain ⟨B, m, d, kid'⟩ := q
  rcases hp.2.2 with h | ⟨g, off, cs, rfl, _, hg, _⟩
  · exact absurd h hp0
  rcases hq.2.2 with h | ⟨g', off', cs', rfl, _, hg', _⟩
  · exact absurd h hq0
  obtain ⟨i, hi, hzz⟩ := Option.map_eq_some_iff.1 infoTm
  simp only [Prod.mk.injEq] at hzz
  obtain ⟨_, hs, _⟩ := hzz
  by_cases e : (⟨g, off, none⟩ : Addr) = ⟨g', off', none⟩
  · rw [e]; exact ⟨true, eq_ptr 9998 Try.underlying337 hi (by rw [hs]; decide) true (run_sameAddr_same _ _), by simp⟩
  · exact ⟨false, eq_ptr 9998 Try.underlying337 hi (by rw [hs]; decide) false (run_sameAddr_other _ e (hw _ _ hg) (hw _ _ hg')), by simp only [Option.some.injEq]; simp [e]⟩
/-- what join answers -/
def JoinP (W w : World) (M : Nat) (F : Value → Option Value) (p q : Lp) (e : Ending) (w' : World) : Prop :=
  ∃ (ok : Bool) (G : Value → Option Value) (rk : Value → Nat) (N : Nat), e = .returned (.bool ok) ∧ FsW W w' M G rk N ∧ Wrt M (M + 1) w w' ∧
    ((ok = false ∧ (∀ d, FEq W G d ↔ FEq W F d) ∧ ∀ d, FEq W F d → LpEq d p q) ∨ (ok = true ∧ (∀ d, FEq W G d → FEq W F d ∧ LpEq d p q) ∧ ∀ d, FEq W F d → LpEq d p q → FEq W G d))
set_option maxRecDepth 100000 in
set_option maxHeartbeats 4000000 in
theorem join_any (W : World) (M N : Nat) (F : Value → Option Value) (rk : Value → Nat) (p q : Lp) (w : World) (hp : p.ok W) (hp0 : p.n ≠ 0) (hq : q.ok W) (hq0 : q.n ≠ 0) (h : FsW W w M F rk N) :
    Calls Try.prog 180 #[.map (some M), p.val, q.val] w (JoinP W w M F p q) := by
  have hM := h.own.lt
  have hWw := h.sz
  have hL1 := hid (leader_any W M N F rk p w hp hp0 h)
  have hL2 := hid (fun (w : World) (G : Value → Option Value) (h : FsW W w M G rk N) => leader_any W M N G rk q w hq hq0 h)
  have hX : ∃ g off, p.A = some ⟨g, off, none⟩ := by
    rcases hp.2.2 with h | ⟨g, off, cs, ha, _⟩
    · exact absurd h hp0
    · exact ⟨g, off, ha⟩
  have hY : ∃ g off, q.A = some ⟨g, off, none⟩ := by
    rcases hq.2.2 with h | ⟨g, off, cs, ha, _⟩
    · exact absurd h hq0
    · exact ⟨g, off, ha⟩
  clear h hp hq
  obtain ⟨A, n, c, kid⟩ := p
  obtain ⟨B, m, d', kid'⟩ := q
  obtain ⟨g, off, hA⟩ := hX
  obtain ⟨g', off', hB⟩ := hY
  simp only at hp0 hq0 hA hB
  subst hA hB
  have n0 : 0 < n := by omega
  have m0 : 0 < m := by omega
  have hL1' : Calls Try.prog 214 #[.map (some M), .agg #[.pointer (some ⟨g, off, none⟩), .int .i64 n]] w _ := hL1.out
  have hL2' : ∀ (w : World) (G : Value → Option Value), FsW W w M G rk N → Calls Try.prog 214 #[.map (some M), .agg #[.pointer (some ⟨g', off', none⟩), .int .i64 m]] w _ := hL2.out
  clear hL1 hL2 hp0 hq0
  unfold Lp.val
  go_enter Try.func180, Try.ntmps180
  go_wp2_with fail
  refine hL1'.mono ?_
  clear hL1'
  rintro e w1 ⟨a, G1, rfl, ha, ha0, haN, hG1, hE1, hP1, hN1, hW1⟩
  have HL2 := hL2' _ _ (hG1.below (bal (Below.refl w1.heap.size w1) (.cells #[.pointer a.A, .int .i64 a.n] 339)))
  have k7 := Bx2.new w1 (.pointer a.A) (.int .i64 a.n) 339
  have hW1' := hW1.new (.cells #[.pointer a.A, .int .i64 a.n] 339)
  clear hL2' 
  have H1 := hid hG1; have HE1 := hid hE1; have HP1 := hid hP1; have HN1 := hid hN1; have HaN := hid haN
  have Ha := hid ha
  have hs1 : w1.heap.size + 1 = (w1.alloc (.cells #[.pointer a.A, .int .i64 a.n] 339)).heap.size := by simp
  clear hG1 hE1 hP1 hN1 haN hW1 ha
  simp only [Lp.key]
  go_wp2_with fail
  have hM1 := Nat.le_trans hM hW1'.size
  have hMw : M < w1.heap.size := H1.out.own.lt
  generalize w1.alloc (.cells #[.pointer a.A, .int .i64 a.n] 339) = u1 at *
  refine HL2.mono ?_
  clear HL2
  rintro e w2 ⟨b, G2, rfl, hb, hb0, hbN, hG2, hE2, hP2, hN2, hW2⟩
  have k7 := k7.wrt hW2 (.inr (by omega))
  have hz2 := hW2.size
  have k7 := k7.below (bal (Below.refl w2.heap.size w2) (.cells #[.pointer b.A, .int .i64 b.n] 339))
  have k8 := Bx2.new w2 (.pointer b.A) (.int .i64 b.n) 339
  have hu := hG2.below (bal (Below.refl w2.heap.size w2) (.cells #[.pointer b.A, .int .i64 b.n] 339))
  have hWu := hid ((hW1'.trans hW2).new (.cells #[.pointer b.A, .int .i64 b.n] 339))
  have HE2 := hid hE2; have HP2 := hid hP2; have HN2 := hid hN2; have HbN := hid hbN; have Hb := hid hb
  clear hE2 hP2 hN2 hbN hb hG2 hW2 hW1'
  simp only [Lp.key]
  go_upto_region 3 with fail
  generalize w2.alloc (.cells #[.pointer b.A, .int .i64 b.n] 339) = u2 at *
  have hKa : PlK W a.key := Lp.plk Ha.out ha0
  obtain ⟨r, hr, hri⟩ := ptr_pl hu.kp Ha.out ha0 Hb.out hb0
  have HU := hid hu
  obtain ⟨c70, c71, f70, f71⟩ := k7
  obtain ⟨c80, c81, f80, f81⟩ := k8
  have HR := hid hri
  have HF := hid (fun d => (HE2.out d).trans (HE1.out d))
  clear hri hu
  by_cases hrn : r = true ∧ a.n = b.n
  · obtain ⟨rfl, hn⟩ := hrn
    have hn2 : ((a.n : Int) == (b.n : Int)) = true := by simp [hn]
    have hab := hid (show a.key = b.key by unfold Lp.key; rw [HR.out.1 rfl, hn])
    clear hn
    go_wp2
    go_ret
    refine ⟨false, G2, rk, N, rfl, HU.out, hWu.out, .inl ⟨rfl, HF.out, fun d h => ?_⟩⟩
    have h1 := (HE1.out d).2 h
    exact ((HP1.out d h).trans (Lp.same d Ha.out Hb.out hab.out)).trans (HP2.out d h1).symm
  · have hne : a.key ≠ b.key := fun e => by
      unfold Lp.key at e
      simp only [Value.agg.injEq, Array.mk.injEq, List.cons.injEq, Value.pointer.injEq, Value.int.injEq, and_true, true_and] at e
      exact hrn ⟨HR.out.2 e.1, by omega⟩
    obtain ⟨u3, G', hrun, hS, ho3, hg3⟩ := HU.out.own.put (keyM_pl W) HU.out.kp Try.underlying289 hKa b.key
    unfold Lp.key at hrun
    obtain ⟨rk', hF'⟩ := HU.out.fst.join Ha.out Hb.out ha0 hb0 hS hne HbN.out
    have hU3 := hid (HU.out.put ho3 hg3 hF')
    have hW3 := hid (hWu.out.grown hg3 (fun g e => by injection e with e; omega))
    have hK := hid (fun d (h : FEq W G' d) => (show FEq W F d ∧ LpEq d a b from
      have hab : LpEq d a b := h a b Ha.out Hb.out hS.same
      ⟨(HF.out d).1 (h.unput Ha.out Hb.out hS (fun x _ hk => by rw [(HN2.out a.key).2 HaN.out] at hk; cases hk)), hab⟩))
    have HPU := hid (fun d (h : FEq W G2 d) (hab : LpEq d a b) => h.put Ha.out Hb.out hS hab)
    have HN' := hid hne
    clear hne hS ho3 hg3 hF' hKa
    have fin : ∀ d, FEq W G' d → FEq W F d ∧ LpEq d (⟨some ⟨g, off, none⟩, n, c, kid⟩ : Lp) ⟨some ⟨g', off', none⟩, m, d', kid'⟩ := fun d h => by
      obtain ⟨h1, h2⟩ := hK.out d h
      exact ⟨h1, ((HP1.out d h1).trans h2).trans (HP2.out d ((HE1.out d).2 h1)).symm⟩
    have FIN := hid fin; clear fin
    have FIN2 := hid (fun d (h : FEq W F d) (hpq : LpEq d (⟨some ⟨g, off, none⟩, n, c, kid⟩ : Lp) ⟨some ⟨g', off', none⟩, m, d', kid'⟩) => HPU.out d ((HF.out d).2 h) (((HP1.out d h).symm.trans hpq).trans (HP2.out d ((HE1.out d).2 h))))
    by_cases hr1 : r = true
    · subst hr1
      have hn2 : ((a.n : Int) == (b.n : Int)) = false := by simp; intro h; exact hrn ⟨rfl, by omega⟩
      have HRN := hid hrn; clear hrn
      go_wp2_with (at_mapUpdate; refine wpList_putM _ rfl _ _ _ _ rfl _ _ M u3 rfl rfl rfl hrun ?_)
      go_ret
      exact ⟨true, G', rk', N + 1, rfl, hU3.out, hW3.out, .inr ⟨rfl, FIN.out, FIN2.out⟩⟩
    · have hr1 : r = false := by simpa using hr1
      subst hr1
      have HRN := hid hrn; clear hrn
      go_wp2_with (at_mapUpdate; refine wpList_putM _ rfl _ _ _ _ rfl _ _ M u3 rfl rfl rfl hrun ?_)
      all_goals go_ret
      all_goals exact ⟨true, G', rk', N + 1, rfl, hU3.out, hW3.out, .inr ⟨rfl, FIN.out, FIN2.out⟩⟩
end Go.Proofs.Ytanfljajafelgaa
