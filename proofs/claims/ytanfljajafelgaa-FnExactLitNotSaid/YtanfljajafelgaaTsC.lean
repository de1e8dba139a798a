/- Contract of the program's leader of a place. -/
import Derived.Test.YtanfljajafelgaaTsB
namespace Go.Proofs.Ytanfljajafelgaa
set_option linter.unusedVariables false
set_option linter.unusedSimpArgs false
open Go.RowKit
def keyZ (b : Nat) (w : World) : Value := .agg #[(w.cell? ⟨b, 0, none⟩).getD undef, (w.cell? ⟨b, 1, none⟩).getD undef]
theorem Bx2.keyZ {b : Nat} {w : World} {x y : Value} (h : Bx2 b w x y) : keyZ b w = .agg #[x, y] := by
  unfold Proofs.Ytanfljajafelgaa.keyZ; rw [h.1, h.2.1]; rfl
theorem zeroLp (w : World) : (zeroValue 339).run Try.prog w = .ok (.agg #[.pointer none, .int .i64 0]) w := by
  obtain ⟨i, hi, hzz⟩ := Option.map_eq_some_iff.1 infoLp
  simp only [Prod.mk.injEq] at hzz
  obtain ⟨hz, _⟩ := hzz
  simp [zeroValue, typeInfo, hi, hz, Result.andThen]
/-- what leader answers -/
def LeadP (W w : World) (M : Nat) (F : Value → Option Value) (rk : Value → Nat) (N : Nat) (p : Lp) (e : Ending) (w' : World) : Prop :=
  ∃ (q : Lp) (G : Value → Option Value), e = .returned q.key ∧ q.ok W ∧ q.n ≠ 0 ∧ G q.key = none ∧ FsW W w' M G rk N ∧ (∀ d, FEq W G d ↔ FEq W F d) ∧ (∀ d, FEq W F d → LpEq d p q) ∧ (∀ k, G k = none ↔ F k = none) ∧ Wrt M (M + 1) w w'
set_option maxRecDepth 100000 in
set_option maxHeartbeats 4000000 in
theorem leader_any (W : World) (M N : Nat) (F : Value → Option Value) (rk : Value → Nat) (p : Lp) (w : World) (hp : p.ok W) (hp0 : p.n ≠ 0) (h : FsW W w M F rk N) :
    Calls Try.prog 214 #[.map (some M), p.key] w (LeadP W w M F rk N p) := by
  have hM := h.own.lt
  have hb3 : Bx2 w.heap.size ((w.alloc (.cells #[.pointer p.A, .int .i64 p.n] 339)).alloc (.cells #[.pointer none, .int .i64 0] 339)) (.pointer p.A) (.int .i64 p.n) := (Bx2.new w _ _ _).below (bal (Below.refl _ _) _)
  have hb4 : Bx2 (w.heap.size + 1) ((w.alloc (.cells #[.pointer p.A, .int .i64 p.n] 339)).alloc (.cells #[.pointer none, .int .i64 0] 339)) (.pointer none) (.int .i64 0) := by
    have := Bx2.new (w.alloc (.cells #[.pointer p.A, .int .i64 p.n] 339)) (.pointer none) (.int .i64 0) 339
    simpa using this
  have hz2 : w.heap.size + 2 ≤ ((w.alloc (.cells #[.pointer p.A, .int .i64 p.n] 339)).alloc (.cells #[.pointer none, .int .i64 0] 339)).heap.size := by simp
  have q0 := bal (bal (Below.refl w.heap.size w) (.cells #[.pointer p.A, .int .i64 p.n] 339)) (.cells #[.pointer none, .int .i64 0] 339)
  have hW := (((Wrt.refl M (M + 1) w).new (.cells #[.pointer p.A, .int .i64 p.n] 339)).new (.cells #[.pointer none, .int .i64 0] 339))
  have hf0 := h.below q0
  have hWw := h.sz
  clear h q0
  unfold Lp.key
  go_enter Try.func214, Try.ntmps214
  go_upto_region 1 with fail
  generalize (w.alloc (.cells #[.pointer p.A, .int .i64 p.n] 339)).alloc (.cells #[.pointer none, .int .i64 0] 339) = w1 at *
  go_loopw [6] (fun _ wr => ∃ (l : Lp) (G : Value → Option Value), l.ok W ∧ l.n ≠ 0 ∧ Bx2 w.heap.size wr (.pointer l.A) (.int .i64 l.n) ∧ Bx2 (w.heap.size + 1) wr (.pointer none) (.int .i64 0) ∧ FsW W wr M G rk N ∧ (∀ d, FEq W G d ↔ FEq W F d) ∧ (∀ d, FEq W F d → LpEq d p l) ∧ (∀ k, G k = none ↔ F k = none) ∧ Wrt M (M + 1) w wr ∧ w.heap.size + 2 ≤ wr.heap.size) (fun _ wr => N - rk (keyZ w.heap.size wr))
  case atStart => exact ⟨p, F, hp, hp0, hb3, hb4, hf0, fun _ => Iff.rfl, fun d _ => EqL.refl d _ _, fun _ => Iff.rfl, hW, hz2⟩
  case round =>
    obtain ⟨l, G, hl, hl0, k3, k4, hG, hE, hpl, hN, hWr, hsz⟩ := hrel
    have hlk := hG.own.look (keyM_pl W) hG.kp Try.underlying289 (zeroLp wr) (Lp.plk hl hl0)
    have hHl := hid hl
    have HG := hid hG
    have hkz : Hid (keyZ w.heap.size wr = l.key) := hid (k3.keyZ)
    have HE := hid hE; have HP := hid hpl; have HN := hid hN; have HW := hid hWr
    clear hE hpl hN hWr hb3 hb4 hf0 hW hz2 hG
    unfold Lp.key at hlk
    obtain ⟨c30, c31, f30, f31⟩ := k3
    obtain ⟨c40, c41, f40, f41⟩ := k4
    rcases hGk : G l.key with _ | v
    · unfold Lp.key at hGk
      rw [hGk] at hlk
      simp only [Option.getD_none, Option.isSome_none] at hlk
      have HK := hid hGk; clear hGk
      go_upto_region 2 with (at_lookup; refine wpList_lookM _ rfl _ _ _ rfl _ M _ rfl rfl hlk ?_)
      have al := bal (Below.refl wr.heap.size wr) (.cells #[.pointer none, .int .i64 0] 339)
      have k3 := Bx2.below (b := w.heap.size) ⟨c30, c31, f30, f31⟩ al
      have k4 := Bx2.below (b := w.heap.size + 1) ⟨c40, c41, f40, f41⟩ al
      have hu := HG.out.below al
      have hWu := HW.out.new (.cells #[.pointer none, .int .i64 0] 339)
      have hsu := Nat.le_trans hsz al.size
      clear hlk al c30 c31 f30 f31 c40 c41 f40 f41
      generalize wr.alloc (.cells #[.pointer none, .int .i64 0] 339) = u at *
      have HU := hid hu; have HWU := hid hWu; have HSU := hid hsu
      have kp := Bx2.put k4 (.pointer l.A) (.int .i64 l.n)
      have t0 := kp.1
      have t1 := kp.2.1
      obtain ⟨c30, c31, f30, f31⟩ := k3
      obtain ⟨c40, c41, f40, f41⟩ := k4
      clear hu hWu kp
      go_wp2
      refine bodyPost_ret (v := .agg #[.pointer l.A, .int .i64 l.n]) (by simp [results, Try.results214, go_sem, t0, t1]) rfl ⟨l, G, rfl, hHl.out, hl0, HK.out, ?_, HE.out, HP.out, HN.out, (HWU.out.setN (by omega) _).setN (by omega) _⟩
      exact (HU.out.setN (by omega) (by omega) _).setN (by omega) (by omega) _
    · obtain ⟨p', q, hp', hq, hp0', hq0, e1, rfl⟩ := HG.out.fst.at_ _ _ hGk
      have hlr := hid (HG.out.fst.lt _ _ hGk)
      have hle := hid (HG.out.fst.le q.key)
      have hlq := hid (fun d (h : FEq W G d) => h l q hl hq hGk)
      clear hp' hp0' e1 p'
      have HK := hid hGk; clear hGk
      unfold Lp.key at HK
      rw [HK.out] at hlk
      simp only [Option.getD_some, Option.isSome_some] at hlk
      go_upto_region 2 with (at_lookup; refine wpList_lookM _ rfl _ _ _ rfl _ M _ rfl rfl hlk ?_)
      have al := bal (Below.refl wr.heap.size wr) (.cells #[.pointer q.A, .int .i64 q.n] 339)
      have k3 := Bx2.below (b := w.heap.size) ⟨c30, c31, f30, f31⟩ al
      have k4 := Bx2.below (b := w.heap.size + 1) ⟨c40, c41, f40, f41⟩ al
      have k5 := Bx2.new wr (.pointer q.A) (.int .i64 q.n) 339
      have hu := HG.out.below al
      have hWu := HW.out.new (.cells #[.pointer q.A, .int .i64 q.n] 339)
      have hsu : wr.heap.size + 1 ≤ (wr.alloc (.cells #[.pointer q.A, .int .i64 q.n] 339)).heap.size := by simp
      clear hlk al c30 c31 f30 f31 c40 c41 f40 f41
      generalize wr.alloc (.cells #[.pointer q.A, .int .i64 q.n] 339) = u at *
      have hlk2 := hu.own.look (keyM_pl W) hu.kp Try.underlying289 (zeroLp u) (Lp.plk hq hq0)
      have HU := hid hu; have HWU := hid hWu; have HSU := hid hsu
      have K3 := hid k3; have K4 := hid k4
      obtain ⟨c50, c51, f50, f51⟩ := k5
      have K5 : Hid (Bx2 wr.heap.size u (.pointer q.A) (.int .i64 q.n)) := hid ⟨c50, c51, f50, f51⟩
      obtain ⟨c30, c31, f30, f31⟩ := k3
      obtain ⟨c40, c41, f40, f41⟩ := k4
      clear hu hWu hsu
      rcases hGq : G q.key with _ | v2
      · unfold Lp.key at hGq
        unfold Lp.key at hlk2
        rw [hGq] at hlk2
        simp only [Option.getD_none, Option.isSome_none] at hlk2
        have HK2 := hid hGq; clear hGq
        go_upto_region 5 with (at_lookup; refine wpList_lookM _ rfl _ _ _ rfl _ M _ rfl rfl hlk2 ?_)
        have al := bal (Below.refl u.heap.size u) (.cells #[.pointer none, .int .i64 0] 339)
        have k3 := K3.out.below al
        have k4 := K4.out.below al
        have k5 := K5.out.below al
        have hu2 := HU.out.below al
        have hWu2 := HWU.out.new (.cells #[.pointer none, .int .i64 0] 339)
        have hsu2 := Nat.le_trans HSU.out al.size
        clear hlk2 al c30 c31 f30 f31 c40 c41 f40 f41 c50 c51 f50 f51
        generalize u.alloc (.cells #[.pointer none, .int .i64 0] 339) = u2 at *
        have kp := hid (Bx2.put k3 (.pointer q.A) (.int .i64 q.n))
        have k4' := hid ((k4.far (o := 0) (.pointer q.A) (p := w.heap.size) (by omega)).far (o := 1) (.int .i64 q.n) (p := w.heap.size) (by omega))
        have hu2' := hid ((hu2.setN (o := 0) (b := w.heap.size) hWw (by omega) (.pointer q.A)).setN (o := 1) (b := w.heap.size) hWw (by omega) (.int .i64 q.n))
        have hWu2' := hid ((hWu2.setN (o := 0) (b := w.heap.size) (Nat.le_refl _) (.pointer q.A)).setN (o := 1) (b := w.heap.size) (Nat.le_refl _) (.int .i64 q.n))
        have hs2 := hid (show w.heap.size + 2 ≤ ((u2.setCell ⟨w.heap.size, 0, none⟩ (.pointer q.A)).setCell ⟨w.heap.size, 1, none⟩ (.int .i64 q.n)).heap.size by simp [World.setCell]; omega)
        obtain ⟨c30, c31, f30, f31⟩ := k3
        obtain ⟨c50, c51, f50, f51⟩ := k5
        clear hu2 hWu2 k4 hsu2
        go_wp2
        go_roundw
        case rel => exact ⟨q, G, hq, hq0, kp.out, k4'.out, hu2'.out, HE.out, fun d h => (HP.out d h).trans (hlq.out d ((HE.out d).2 h)), HN.out, hWu2'.out, hs2.out⟩
        case measure =>
          rw [hkz.out, Bx2.keyZ kp.out]
          have h1 := hlr.out
          have h2 := hle.out
          show N - rk q.key < N - rk l.key
          omega
      · obtain ⟨p', r, hp', hr, hp0', hr0, e1, rfl⟩ := HU.out.fst.at_ _ _ hGq
        have hlr2 := hid (HU.out.fst.lt _ _ hGq)
        have hqr := hid (fun d (h : FEq W G d) => h q r hq hr hGq)
        clear hp' hp0' e1 p'
        have HK2 := hid hGq
        unfold Lp.key at hGq
        unfold Lp.key at hlk2
        rw [hGq] at hlk2
        simp only [Option.getD_some, Option.isSome_some] at hlk2
        clear hGq
        go_upto_region 6 with (at_lookup; refine wpList_lookM _ rfl _ _ _ rfl _ M _ rfl rfl hlk2 ?_)
        have al := bal (Below.refl u.heap.size u) (.cells #[.pointer r.A, .int .i64 r.n] 339)
        have k3 := K3.out.below al
        have k4 := K4.out.below al
        have k5 := Bx2.below (b := wr.heap.size) K5.out al
        have k7 := Bx2.new u (.pointer r.A) (.int .i64 r.n) 339
        have hu2 := HU.out.below al
        have hWu2 := HWU.out.new (.cells #[.pointer r.A, .int .i64 r.n] 339)
        have hsu2 := Nat.le_trans HSU.out al.size
        clear hlk2 al c30 c31 f30 f31 c40 c41 f40 f41 c50 c51 f50 f51
        generalize u.alloc (.cells #[.pointer r.A, .int .i64 r.n] 339) = u2 at *
        have hWr0 := HW.out.size
        obtain ⟨u3, G', hrun, hS, ho3, hg3⟩ := hu2.own.put (keyM_pl W) hu2.kp Try.underlying289 (Lp.plk hl hl0) r.key
        have hM2 := hu2.own.lt
        have k3a := hid k3; have k7a := hid k7
        have k3 := k3.keep hg3 (fun e => by injection e with e; omega)
        have k4 := k4.keep hg3 (fun e => by injection e with e; omega)
        have k5' := k5.keep hg3 (fun e => by injection e with e; omega)
        have hlr3 : rk l.key < rk r.key := Nat.lt_trans hlr.out hlr2.out
        have hu3 := hu2.put ho3 hg3 (hu2.fst.put hl hr hl0 hr0 hS hlr3)
        have hWu3 := hWu2.grown hg3 (fun g e => by injection e with e; omega)
        have hs3 := Nat.le_trans hsu2 hg3.size
        have hne : q.key ≠ l.key := fun e => by have := hlr.out; rw [e] at this; omega
        have hGE : ∀ d, FEq W G' d ↔ FEq W G d := fun d => ⟨fun h => h.unput hl hr hS (fun x hx hk => by
            have e1 : q.key = x.key := Option.some.inj (HK.out.symm.trans hk)
            have h1 : LpEq d l r := h l r hl hr hS.same
            have h2 : LpEq d q r := h q r hq hr (by rw [hS.other _ hne]; exact HK2.out)
            exact (h1.trans h2.symm).trans (Lp.same d hq hx e1)), fun h => h.put hl hr hS ((hlq.out d h).trans (hqr.out d h))⟩
        have hGN : ∀ k, G' k = none ↔ G k = none := fun k => by
          by_cases e : k = l.key
          · rw [e, hS.same]
            constructor
            · intro h; cases h
            · intro h; have := HK.out.symm.trans h; cases this
          · rw [hS.other _ e]
        have HGE := hid hGE; have HGN := hid hGN; clear hGE hGN
        have kp := hid (Bx2.put k3 (.pointer q.A) (.int .i64 q.n))
        have k4' := hid ((k4.far (o := 0) (.pointer q.A) (p := w.heap.size) (by omega)).far (o := 1) (.int .i64 q.n) (p := w.heap.size) (by omega))
        have hu2' := hid ((hu3.setN (o := 0) (b := w.heap.size) hWw (by omega) (.pointer q.A)).setN (o := 1) (b := w.heap.size) hWw (by omega) (.int .i64 q.n))
        have hWu2' := hid ((hWu3.setN (o := 0) (b := w.heap.size) (Nat.le_refl _) (.pointer q.A)).setN (o := 1) (b := w.heap.size) (Nat.le_refl _) (.int .i64 q.n))
        have hs2 := hid (show w.heap.size + 2 ≤ ((u3.setCell ⟨w.heap.size, 0, none⟩ (.pointer q.A)).setCell ⟨w.heap.size, 1, none⟩ (.int .i64 q.n)).heap.size by simp [World.setCell]; omega)
        unfold Lp.key at hrun
        obtain ⟨c30, c31, f30, f31⟩ := k3a.out
        obtain ⟨c70, c71, f70, f71⟩ := k7a.out
        obtain ⟨d30, d31, e30, e31⟩ := k3
        obtain ⟨d50, d51, e50, e51⟩ := k5'
        clear k5 k7 k4 hu2 hu3 hWu2 hWu3 hsu2 hs3 ho3 hg3
        go_wp2_with (at_mapUpdate; refine wpList_putM _ rfl _ _ _ _ rfl _ _ M u3 rfl rfl rfl hrun ?_)
        go_roundw
        case rel => exact ⟨q, G', hq, hq0, kp.out, k4'.out, hu2'.out, fun d => (HGE.out d).trans (HE.out d), fun d h => (HP.out d h).trans (hlq.out d ((HE.out d).2 h)), fun k => (HGN.out k).trans (HN.out k), hWu2'.out, hs2.out⟩
        case measure =>
          rw [hkz.out, Bx2.keyZ kp.out]
          have h1 := hlr.out
          have h2 := hle.out
          show N - rk q.key < N - rk l.key
          omega
end Go.Proofs.Ytanfljajafelgaa
