/- Several texts in one: LtD, LtE, LtX. -/
import Derived.Test.YtanfljajafelgaaBK
import Derived.Test.YtanfljajafelgaaBG
import Derived.Handy
namespace Go.Proofs.Ytanfljajafelgaa
set_option linter.unusedVariables false
set_option linter.unusedSimpArgs false
open Go.RowKit
/-- what the kind of an atom answers, in three cases -/
theorem kind_cases (res : Bool) (x : At) (hres : res = true ↔ RightQ x) (hF : AtF 1048576 x) (hz : atSz x ≤ 1048580) (A1 A2 A3 A4 : Option Addr) (w : World) (hA : AtT w x A1 A2 A3 A4) :
    (res = false ∧ ∀ W, Below w.heap.size w W → Calls Try.prog 135 #[.agg (x.cs A1 x.a.n A2 x.b.n A3 x.n A4 x.m)] W fun e w' => e = .returned (.tuple #[.nilIface, .bool false]) ∧ Below W.heap.size W w') ∨
    (res = true ∧ x.kd = 1 ∧ EqQ x ∧ ∀ W, Below w.heap.size w W → Calls Try.prog 135 #[.agg (x.cs A1 x.a.n A2 x.b.n A3 x.n A4 x.m)] W fun e w' => e = .returned (.tuple #[.iface 294 (eqV x.a x.b A1 x.a.n A2 x.b.n), .bool true]) ∧ Below W.heap.size W w') ∨
    (res = true ∧ x.kd = 2 ∧ SumQ x ∧ ∃ X : List Ad, X.length = x.n ∧ (∀ k, k < x.n → (X.getD k default).t = x.kid k ∧ (X.getD k default).z = x.Z k) ∧ ∀ W, Below w.heap.size w W → Calls Try.prog 135 #[.agg (x.cs A1 x.a.n A2 x.b.n A3 x.n A4 x.m)] W fun e w' => ∃ sa cap, e = .returned (.tuple #[.iface 299 (ineqV sa X.length cap x.bd x.st), .bool true]) ∧ RdD w' sa X ∧ KdD w' X ∧ Below W.heap.size W w') := by
  have hz2 : atSz x ≤ 536870912 := by omega
  have hc : x.a.n ≤ x.a.n ∧ x.a.n ≤ 9223372036854775807 ∧ x.b.n ≤ x.b.n ∧ x.b.n ≤ 9223372036854775807 ∧ x.m ≤ 9223372036854775807 := by
    have h1 := hF.1.n; have h2 := hF.2.1.n; have h3 := hF.2.2.2.2
    exact ⟨Nat.le_refl _, by omega, Nat.le_refl _, by omega, by omega⟩
  by_cases h1 : x.kd = 1
  · have hk := fun W (h : Below w.heap.size w W) => kind_eq x h1 res hres hF A1 x.a.n A2 x.b.n A3 x.n A4 x.m W (hA.below h) hc hz2
    cases res with
    | false => exact .inl ⟨rfl, hk⟩
    | true =>
      have hE : EqQ x := by
        rcases hres.1 rfl with h | h
        · have := h.1; omega
        · exact h.2
      exact .inr (.inl ⟨rfl, h1, hE, hk⟩)
  by_cases h2 : x.kd = 2
  rotate_left
  · refine .inl ⟨b_no hres (fun h => ?_), fun W _ => kind_none x h1 h2 A1 _ A2 _ A3 _ A4 _ W⟩
    rcases h with g | g
    · exact h2 g.1
    · exact h1 g.1
  obtain ⟨f, hf1, hf2⟩ := kids_read hA.2.2.1
  have hk := fun W (h : Below w.heap.size w W) => kind_sum x h2 res hres hF A1 x.a.n A2 x.b.n A3 x.n A4 x.m W (hA.below h) hc hz2 f (fun k hk => ⟨(hf1 k hk).1, (hf1 k hk).2.1, (hf1 k hk).2.2.keep (KpT.below h)⟩) (fun hne => by
    obtain ⟨g, off, e1, e2, e3⟩ := hf2 hne
    exact ⟨g, off, e1, Nat.lt_of_lt_of_le e2 h.size, fun k hk => ⟨carry h (e3 k hk).1, carry h (e3 k hk).2⟩⟩)
  cases res with
  | false => exact .inl ⟨rfl, fun W h => (hk W h).mono (fun e w' hh => ⟨hh.1 rfl, hh.2.2⟩)⟩
  | true =>
    have hR := hres.1 rfl
    have hS : SumQ x := by
      rcases hR with h | h
      · exact h.2
      · have := h.1; omega
    have hI := (sum_right h2 hS.2.2.1 hS.2.2.2.2.1 hF f).2 hR
    obtain ⟨hIO, _, _, _, ⟨hlen, hkq⟩, _⟩ := hI
    have hlen' : x.n = (sumD (adF x.kid x.Z f) x.n).length := hlen
    have hlt : ∀ k, k + 1 < x.n → Lt (adF x.kid x.Z f k) (adF x.kid x.Z f (k + 1)) := fun k hk1 => by
      unfold Lt
      have g0 := hS.2.2.2.2.2.2.2 k (by omega)
      have g1 := hS.2.2.2.2.2.2.2 (k + 1) hk1
      have g2 := g1.2.2.2.2 (by omega)
      rw [Nat.add_sub_cancel] at g2
      show Op.bytesLess (tx (x.kid k)).toList (tx (x.kid (k + 1))).toList = true
      rw [tx_well g0.1, tx_well g1.1]
      exact g2
    obtain ⟨_, hget⟩ := sumD_self hlt x.n (Nat.le_refl _)
    refine .inr (.inr ⟨rfl, h2, hS, sumD (adF x.kid x.Z f) x.n, hlen'.symm, fun k hkn => ?_, fun W h => (hk W h).mono (fun e w' hh => ?_)⟩)
    · rw [hget k hkn]; exact ⟨rfl, rfl⟩
    · obtain ⟨sa, cap, e1, e2, e3⟩ := hh.2.1 rfl
      exact ⟨sa, cap, e1, e2, e3, hh.2.2⟩
theorem CopiesP.old {w W w' : World} {t : Tm} {e : Ending} (hb : Below w.heap.size w W) (h : CopiesP W t e w') : CopiesP w t e w' := by
  obtain ⟨A, c, he, m1, m2, hS, hq, hz⟩ := h
  exact ⟨A, c, he, m1, m2, hS.mono hb.size (Nat.le_refl _), btr hb hq, hz⟩
/-- the terms of which a literal tells -/
def ltT (res : Bool) (x : At) : Tm := if res = true then (if x.kd = 1 then .mk ⟨#[]⟩ 2 (kidAB x.a x.b) else .mk ⟨#[]⟩ x.n x.kid) else .mk ⟨#[]⟩ 0 (fun _ => .bad)
theorem ad_fits {x : At} (hF : AtF 1048576 x) {X : List Ad} (hl : X.length = x.n) (hX : ∀ k, k < x.n → (X.getD k default).t = x.kid k ∧ (X.getD k default).z = x.Z k) : ∀ k, k < X.length → Fits 1048576 (X.getD k default).t := fun k hk => by
  rw [(hX k (by omega)).1]; exact hF.2.2.2.1 k (by omega)
set_option maxRecDepth 100000 in
set_option maxHeartbeats 8000000 in
theorem litterms_any (res : Bool) (x : At) (no : Bool) (hres : res = true ↔ RightQ x) (hF : AtF 1048576 x) (hz : atSz x ≤ 1048580) (A1 A2 A3 A4 : Option Addr) (w : World) (hA : AtT w x A1 A2 A3 A4) :
    Calls Try.prog 76 #[.agg (x.lit no A1 x.a.n A2 x.b.n A3 x.n A4 x.m)] w (CopiesP w (ltT res x)) := by
  have q0 := bal (Below.refl w.heap.size w) (.cells (x.lit no A1 x.a.n A2 x.b.n A3 x.n A4 x.m) 104)
  rcases kind_cases res x hres hF hz A1 A2 A3 A4 w hA with ⟨rfl, hC⟩ | ⟨rfl, h1, hE, hC⟩ | ⟨rfl, h2, hS, X, hl, hX, hC⟩
  · have HC := hid hC; clear hC hA hF hz hres
    have hfin : ∀ w', Below w.heap.size w w' → CopiesP w (ltT false x) (.returned (.slice none 0 0)) w' := fun w' hb => ⟨none, 0, rfl, Nat.le_refl _, by decide, .inl rfl, hb, fun h => absurd rfl h⟩
    generalize ltT false x = tt at *
    obtain ⟨kd, a, bb, n, kid, m, Z, bd, st⟩ := x
    simp only [At.cs] at HC
    simp only [At.lit] at *
    go_enter Try.func76, Try.ntmps76
    go_wp2_with fail
    refine (HC.out _ q0).mono ?_
    rintro e w1 ⟨rfl, hq⟩
    go_wp2
    go_ret
    exact hfin _ (btr q0 hq)
  · have CT := hid (fun W (h : Below w.heap.size w W) => eqterms_any x.a x.b hF.1 hF.2.1 A1 x.a.n A2 x.b.n W (hA.below h).1.kids (hA.below h).2.1.kids)
    have ht : ltT true x = .mk ⟨#[]⟩ 2 (kidAB x.a x.b) := by unfold ltT; rw [if_pos rfl, if_pos h1]
    rw [ht]
    have HC := hid hC; clear hC hA hF hz hres hE h1 ht
    obtain ⟨kd, a, bb, n, kid, m, Z, bd, st⟩ := x
    simp only [At.cs] at HC
    simp only [At.lit] at *
    unfold eqV at *
    go_enter Try.func76, Try.ntmps76
    go_wp2_with fail
    refine (HC.out _ q0).mono ?_
    rintro e w1 ⟨rfl, hq⟩
    go_wp2_with fail
    refine (CT.out _ (btr q0 hq)).mono ?_
    intro e w2 hP
    have hP' := hP.old (btr q0 hq)
    obtain ⟨A, c, rfl, _⟩ := hP
    go_wp2
    go_ret
    exact hP'
  · have CT := hid (fun sa cap W => ineqterms_any X sa cap x.bd x.st W (by have := hS.2.2.2.2.1; omega))
    have CF := hid (ad_fits hF hl hX)
    have ht : ∀ W e w', CopiesP W (.mk ⟨#[]⟩ X.length (fun k => (X.getD k default).t)) e w' → CopiesP W (ltT true x) e w' := by
      rintro W e w' ⟨A, c, he, m1, m2, hSS, hq, hz⟩
      have hlt : ltT true x = .mk ⟨#[]⟩ x.n x.kid := by unfold ltT; rw [if_pos rfl, if_neg (by omega)]
      rw [hlt]
      have e1 : (Tm.mk ⟨#[]⟩ X.length (fun k => (X.getD k default).t)).n = (Tm.mk ⟨#[]⟩ x.n x.kid).n := hl
      rw [e1] at he m1 hz
      refine ⟨A, c, he, m1, m2, ?_, hq, hz⟩
      have h3 := hSS.congr (nm' := ⟨#[]⟩) (kid' := x.kid) (fun k hk => (hX k (by omega)).1)
      rw [hl] at h3
      exact h3
    have HT := hid ht
    have HC := hid hC; clear hC hA hF hz hres hS h2 ht hX
    generalize ltT true x = tt at *
    obtain ⟨kd, a, bb, n, kid, m, Z, bd, st⟩ := x
    simp only [At.cs] at HC
    simp only [At.lit] at *
    unfold ineqV at *
    have HL := hid hl; clear hl
    go_enter Try.func76, Try.ntmps76
    go_wp2_with fail
    refine (HC.out _ q0).mono ?_
    rintro e w1 ⟨sa, cap, rfl, hR, hK, hq⟩
    go_wp2_with fail
    refine (CT.out sa cap _ hR hK CF.out).mono ?_
    intro e w2 hP
    have hP' := HT.out _ _ _ (hP.old (btr q0 hq))
    obtain ⟨A, c, rfl, _⟩ := hP
    go_wp2
    go_ret
    exact hP'
end Go.Proofs.Ytanfljajafelgaa

namespace Go.Proofs.Ytanfljajafelgaa
set_option linter.unusedVariables false
set_option linter.unusedSimpArgs false
open Go.RowKit
/-- what the model's LitTerms answers -/
def SLtP (t : Tm) (W : World) (e : Ending) (w' : World) : Prop := ∃ A c, e = .returned (.slice A t.n c) ∧ SepT w' t W.heap.size w'.heap.size A ∧ Below W.heap.size W w'
set_option maxRecDepth 100000 in
set_option maxHeartbeats 4000000 in
theorem slitterms_no (x : At) (no : Bool) (A1 : Option Addr) (c1 : Nat) (A2 : Option Addr) (c2 : Nat) (A3 : Option Addr) (c3 : Nat) (A4 : Option Addr) (c4 : Nat) (w : World) (hR : ∀ W, Below w.heap.size w W → Calls Try.prog 131 #[.agg (x.cs A1 c1 A2 c2 A3 c3 A4 c4)] W fun e w' => e = .returned (.bool false) ∧ Below W.heap.size W w') :
    Calls Try.prog 75 #[.agg (x.lit no A1 c1 A2 c2 A3 c3 A4 c4)] w (SLtP (.mk ⟨#[]⟩ 0 (fun _ => .bad)) w) := by
  have HR := hid hR
  clear hR
  obtain ⟨kd, a, b, n, kid, m, Z, bd, st⟩ := x
  simp only [At.cs] at HR
  simp only [At.lit]
  have q0 := bal (Below.refl w.heap.size w) (.cells #[.int .i64 kd, .string a.nm, .slice A1 a.n c1, .string b.nm, .slice A2 b.n c2, .slice A3 n c3, .slice A4 m c4, .int .i64 bd, .bool st, .bool no] 104)
  go_enter Try.func75, Try.ntmps75
  go_wp2_with fail
  refine (HR.out _ q0).mono ?_
  rintro e w1 ⟨rfl, hq⟩
  go_wp2
  go_ret
  exact ⟨_, _, rfl, .inl rfl, btr q0 (bal hq _)⟩
set_option maxRecDepth 100000 in
set_option maxHeartbeats 8000000 in
theorem slitterms_eq (x : At) (no : Bool) (hk : x.kd = 1) (hF : AtF 1048576 x) (A1 : Option Addr) (c1 : Nat) (A2 : Option Addr) (c2 : Nat) (A3 : Option Addr) (c3 : Nat) (A4 : Option Addr) (c4 : Nat) (w : World) (hA : AtK w x A1 A2 A3 A4) (hR : ∀ W, Below w.heap.size w W → Calls Try.prog 131 #[.agg (x.cs A1 c1 A2 c2 A3 c3 A4 c4)] W fun e w' => e = .returned (.bool true) ∧ Below W.heap.size W w') :
    Calls Try.prog 75 #[.agg (x.lit no A1 c1 A2 c2 A3 c3 A4 c4)] w (SLtP (.mk ⟨#[]⟩ 2 (kidAB x.a x.b)) w) := by
  have C1 := hid (fun W (h : Below w.heap.size w W) => scopy_any x.a hF.1 A1 c1 W (hA.1.below h))
  have C2 := hid (fun W (h : Below w.heap.size w W) => scopy_any x.b hF.2.1 A2 c2 W (hA.2.1.below h))
  have HR := hid hR
  clear hR hF hA
  obtain ⟨kd, a, b, n, kid, m, Z, bd, st⟩ := x
  simp only at hk
  subst hk
  simp only [At.cs] at HR
  simp only [At.lit]
  have H : KcL [(w.heap.size, 0, .int .i64 1), (w.heap.size, 1, .string a.nm), (w.heap.size, 2, .slice A1 a.n c1), (w.heap.size, 3, .string b.nm), (w.heap.size, 4, .slice A2 b.n c2)] (w.alloc (.cells #[.int .i64 1, .string a.nm, .slice A1 a.n c1, .string b.nm, .slice A2 b.n c2, .slice A3 n c3, .slice A4 m c4, .int .i64 bd, .bool st, .bool no] 104)) := by
    refine ⟨?_, ?_, ?_, ?_, ?_, trivial⟩ <;> simp [go_sem]
  have q0 := bal (Below.refl w.heap.size w) (.cells #[.int .i64 1, .string a.nm, .slice A1 a.n c1, .string b.nm, .slice A2 b.n c2, .slice A3 n c3, .slice A4 m c4, .int .i64 bd, .bool st, .bool no] 104)
  go_enter Try.func75, Try.ntmps75
  go_wp2_with fail
  refine (HR.out _ q0).mono ?_
  rintro e w1 ⟨rfl, hq⟩
  replace H := H.below hq
  replace q0 := btr q0 hq
  clear hq HR
  have H' := H
  obtain ⟨s0, s1, s2, s3, s4, _⟩ := H'
  have l0 := cell_lt s0
  go_upto_region 4 with fail
  clear s0 s1 s2 s3 s4 l0
  have qd := (Below.refl w1.heap.size w1).drew
  replace H := H.below qd
  replace q0 := btr q0 qd
  refine region_planC (fun w' => KcL [(w.heap.size, 0, .int .i64 1), (w.heap.size, 1, .string a.nm), (w.heap.size, 2, .slice A1 a.n c1), (w.heap.size, 3, .string b.nm), (w.heap.size, 4, .slice A2 b.n c2)] w') (.takes [0, 1, 2, 4, 5, 6] (.make 3 (.make 7 (.make 8 .fin)))) 9 rfl (by kernel_rfl) H ?_
  refine plan_takes ?_; simp only [pickOps, List.getElem?_cons_zero, List.getElem?_cons_succ]
  refine quiet_doC rfl (.pointer (some ⟨w.heap.size, 0, none⟩)) (fun w' hw' => by simp [execOp, go_sem]) ?_
  refine quiet_doC rfl (.pointer (some ⟨w.heap.size, 1, none⟩)) (fun w' hw' => by simp [execOp, go_sem]) ?_
  refine quiet_doC rfl (.agg #[.string a.nm, .slice A1 a.n c1]) (fun w' hw' => run_load2 rfl (by kernel_rfl) Try.underlying76 rfl (by kernel_rfl) hw'.2.1 hw'.2.2.1) ?_
  refine quiet_doC rfl (.pointer (some ⟨w.heap.size, 0, none⟩)) (fun w' hw' => by simp [execOp, go_sem]) ?_
  refine quiet_doC rfl (.pointer (some ⟨w.heap.size, 3, none⟩)) (fun w' hw' => by simp [execOp, go_sem]) ?_
  refine quiet_doC rfl (.agg #[.string b.nm, .slice A2 b.n c2]) (fun w' hw' => run_load2 rfl (by kernel_rfl) Try.underlying76 rfl (by kernel_rfl) hw'.2.2.2.1 hw'.2.2.2.2.1) ?_
  refine wpQuiet_nil ?_
  clear qd
  generalize w1.drew = u at *
  have z0 := q0.size
  refine planC_call rfl rfl 140 #[.agg #[.string a.nm, .slice A1 a.n c1]] (by kernel_rfl) ?_
  refine (C1.out _ q0).mono ?_
  rintro e w2 ⟨B1, d1, rfl, m1, m2, S1, hq⟩
  have z2 := hq.size
  refine ⟨_, rfl, H.below hq, ?_⟩
  replace H := H.below hq
  replace q0 := btr q0 hq
  clear hq C1
  refine planC_call rfl rfl 140 #[.agg #[.string b.nm, .slice A2 b.n c2]] (by kernel_rfl) ?_
  refine (C2.out _ q0).mono ?_
  rintro e w3 ⟨B2, d2, rfl, m3, m4, S2, hq⟩
  have z3 := hq.size
  refine ⟨_, rfl, H.below hq, ?_⟩
  have CX := bal (Below.refl w3.heap.size w3) (.cells #[.string a.nm, .slice B1 a.n d1, .string b.nm, .slice B2 b.n d2] 76)
  have hr := row_newA w3 #[.string a.nm, .slice B1 a.n d1, .string b.nm, .slice B2 b.n d2] 76
  have z4 : w3.heap.size < (w3.alloc (.cells #[.string a.nm, .slice B1 a.n d1, .string b.nm, .slice B2 b.n d2] 76)).heap.size := hr.lt
  replace S1 := (S1.below hq).below CX
  replace S2 := S2.below CX
  refine planC_val rfl rfl (.slice (some ⟨w3.heap.size, 0, none⟩) 2 2) (w'' := w3.alloc (.cells #[.string a.nm, .slice B1 a.n d1, .string b.nm, .slice B2 b.n d2] 76)) (by simp [execOp, go_sem]) ((H.below hq).below CX) ?_
  replace q0 := btr q0 (btr hq CX)
  clear hq C2 H CX
  have HZ := hid (And.intro z0 (And.intro z2 (And.intro z3 z4)))
  clear z0 z2 z3 z4
  generalize w3.alloc (.cells #[.string a.nm, .slice B1 a.n d1, .string b.nm, .slice B2 b.n d2] 76) = w4 at *
  have Q0 := hid q0; have HS1 := hid S1; have HS2 := hid S2; have HRR := hid hr
  clear q0 S1 S2 hr
  refine plan_fin ?_
  simp only [List.drop_succ_cons, List.drop_zero, Act.put, List.setIfInBounds_toArray, List.set_cons_succ, List.set_cons_zero]
  go_wp2
  go_ret
  obtain ⟨z0, z2, z3, z4⟩ := HZ.out
  refine ⟨_, _, rfl, SepT.of_row (m := 4) (L := fun k => if k = 0 then u.heap.size else w2.heap.size) (H := fun k => if k = 0 then w2.heap.size else w3.heap.size) (f := fun k => if k = 0 then (B1, d1) else (B2, d2)) (by omega) z4 (by decide) HRR.out (fun k hk => ?_), Q0.out⟩
  match k, hk with
  | 0, _ => exact ⟨z0, z2, by simp only [if_true]; omega, .inr z3, fun j h1 h2 => by (obtain rfl : j = 1 := (by omega)); exact Nat.le_refl _, rfl, rfl, m1, m2, HS1.out⟩
  | 1, _ => exact ⟨by show w.heap.size ≤ w2.heap.size; omega, z3, by show w3.heap.size ≤ w4.heap.size; omega, .inr (Nat.le_refl _), fun j h1 h2 => absurd h2 (by omega), rfl, rfl, m3, m4, HS2.out⟩
set_option maxRecDepth 100000 in
set_option maxHeartbeats 8000000 in
theorem slitterms_sum (x : At) (no : Bool) (hk : x.kd = 2) (hF : AtF 1048576 x) (A1 : Option Addr) (c1 : Nat) (A2 : Option Addr) (c2 : Nat) (A3 : Option Addr) (c3 : Nat) (A4 : Option Addr) (c4 : Nat) (w : World) (hA : AtK w x A1 A2 A3 A4) (hR : ∀ W, Below w.heap.size w W → Calls Try.prog 131 #[.agg (x.cs A1 c1 A2 c2 A3 c3 A4 c4)] W fun e w' => e = .returned (.bool true) ∧ Below W.heap.size W w') :
    Calls Try.prog 75 #[.agg (x.lit no A1 c1 A2 c2 A3 c3 A4 c4)] w (SLtP (.mk ⟨#[]⟩ x.n x.kid) w) := by
  have HI := hid (fun k (hk : k < x.n) a9 c9 W h => scopy_any (x.kid k) (hF.2.2.2.1 k hk) a9 c9 W h)
  have hA1 := hA.2.2.1
  have hn := hF.2.2.1
  have HR := hid hR
  clear hR hF hA
  obtain ⟨kd, a, b, n, kid, m, Z, bd, st⟩ := x
  simp only at hk
  subst hk
  simp only at HI hA1 hn
  simp only [At.cs] at HR
  simp only [At.lit]
  have H : KcL [(w.heap.size, 0, .int .i64 2), (w.heap.size, 5, .slice A3 n c3)] (w.alloc (.cells #[.int .i64 2, .string a.nm, .slice A1 a.n c1, .string b.nm, .slice A2 b.n c2, .slice A3 n c3, .slice A4 m c4, .int .i64 bd, .bool st, .bool no] 104)) := by
    refine ⟨?_, ?_, trivial⟩ <;> simp [go_sem]
  have q0 := bal (Below.refl w.heap.size w) (.cells #[.int .i64 2, .string a.nm, .slice A1 a.n c1, .string b.nm, .slice A2 b.n c2, .slice A3 n c3, .slice A4 m c4, .int .i64 bd, .bool st, .bool no] 104)
  go_enter Try.func75, Try.ntmps75
  go_wp2_with fail
  refine (HR.out _ q0).mono ?_
  rintro e w1 ⟨rfl, hq⟩
  replace H := H.below hq
  replace q0 := btr q0 hq
  clear hq HR
  have hA2 := hA1.below q0
  have Q0 := hid q0
  clear hA1 q0
  have C0 := hid H
  obtain ⟨s0, s5, _⟩ := H
  have l0 := cell_lt s0
  have hwl := hid l0
  have hT0 := TRow.empty w1 w1.heap.size (Nat.le_refl _)
  have B0 := bal (Below.refl w1.heap.size w1) (.cells #[] 76)
  go_upto_region 6 with fail
  clear s0 s5 l0
  have hrow0 : ∃ v, v = Value.slice (some ⟨w1.heap.size, 0, none⟩) 0 0 ∧ TRow (w1.alloc (.cells #[] 76)) w1.heap.size [] v := ⟨_, rfl, hT0⟩
  obtain ⟨v0, hv0, hT0'⟩ := hrow0
  rw [← hv0]
  clear hT0 hv0
  generalize w1.alloc (.cells #[] 76) = w2 at *
  go_wp2
  go_loopw [3, 4] (fun vv i wr => ∃ (k : Nat) (X : List TX) (v : Value), k ≤ n ∧ i = .int .i64 k ∧ vv = v ∧ Below w1.heap.size w1 wr ∧ TRow wr w1.heap.size X v ∧ X.length = k ∧ ∀ i, i < k → (X.getD i default).t = kid i) (fun _ i _ => n - (intOf i).toNat)
  case atStart => exact ⟨0, [], v0, Nat.zero_le _, rfl, rfl, B0, hT0', rfl, fun i hi => absurd hi (Nat.not_lt_zero _)⟩
  case round =>
    obtain ⟨k, X, v, hk, rfl, hvv, hbr, hT, hXl, hXk⟩ := hrel
    have HT := hid hT; have HXk := hid hXk; have HXl := hid hXl
    clear hT hXk hXl B0 hT0'
    have hvs : ∃ aa cc, v = .slice aa k cc := by
      obtain ⟨_, ⟨h, h0⟩ | ⟨g, cap, cur, h, _⟩⟩ := HT.out.own
      · exact ⟨none, 0, by rw [h, ← HXl.out, h0]⟩
      · exact ⟨_, _, by rw [← HXl.out]; exact h⟩
    obtain ⟨va, vc, hve⟩ := hvs
    subst hve
    subst hvv
    obtain ⟨s0, s5, _⟩ := C0.out.below hbr
    have l0 := cell_lt s0
    by_cases hlt : k < n
    · rcases hA2 with h0 | ⟨g, off, rfl, _, hg, hcA⟩
      · omega
      obtain ⟨a9, ca, a0, a1, hI⟩ := hcA k hlt
      have gg := Nat.lt_of_lt_of_le hg hbr.size
      replace a0 := carry hbr a0
      replace a1 := carry hbr a1
      replace hI := hI.below hbr
      clear hcA
      obtain ⟨i0, hi, hz0, hz1, hz2⟩ := info_parts infoTm
      have hcall := HI.out k hlt a9 ca wr hI
      clear hI
      have gg0 := hwl.out
      go_wp2_with fail
      refine hcall.mono ?_
      rintro e w3 ⟨A9, c9, rfl, m1, m2, hS3, hq3⟩
      clear hcall a0 a1 s0 s5 l0 gg
      have CX := bal (Below.refl w3.heap.size w3) (.cells #[.string (kid k).nm, .slice A9 (kid k).n c9] 76)
      have hq4 := btr hq3 CX
      have hS4 := hid (hS3.below CX)
      have hh4 : w3.heap.size ≤ (w3.alloc (.cells #[.string (kid k).nm, .slice A9 (kid k).n c9] 76)).heap.size := CX.size
      have hTg := hid (HT.out.below hq4)
      have hbg := btr hbr hq4
      have hnews := new2 w3 (.string (kid k).nm) (.slice A9 (kid k).n c9) 76
      have hone : ∀ u ∈ ([.string (kid k).nm, .slice A9 (kid k).n c9] : List Value), u.oneCell' = true := fun u hu => by simp at hu; rcases hu with rfl | rfl <;> rfl
      have hlu : w1.heap.size ≤ wr.heap.size := hbr.size
      have hlog : w1.heap.size ≤ (w3.alloc (.cells #[.string (kid k).nm, .slice A9 (kid k).n c9] 76)).heap.size := Nat.le_trans hlu hq4.size
      have hown0 := hTg.out.own
      rw [HXl.out] at hown0
      go_wp2_with (at_builtin; go_loud (refine wpList_append_own_at _ rfl _ _ 52 rfl w1.heap.size 76 i0 _ 2 40 Try.underlying52 hi hz0 hz1 hz2 rfl (by decide) (.slice va k vc) k (flatX X) rfl hown0 ⟨w3.heap.size, 0, none⟩ 1 1 [.string (kid k).nm, .slice A9 (kid k).n c9] rfl rfl hnews hone (by unfold maxLen; omega) (by omega) hlog ?_); intro v' w6 hown6 hgrow _ hfresh)
      have hrl := fun r (e : (Value.slice va k vc).ownBlock = some r) => HT.out.lt e
      have hfr : ∀ g, v'.ownBlock = some g → (Value.slice va k vc).ownBlock = some g ∨ (w3.alloc (.cells #[.string (kid k).nm, .slice A9 (kid k).n c9] 76)).heap.size ≤ g := fun g hg => by
        rcases hfresh with h | h
        · exact .inl (h ▸ hg)
        · rw [h] at hg
          exact .inr (Nat.le_of_eq (Option.some.inj hg))
      have hTp := (HT.out.push (x := ⟨kid k, A9, c9⟩) (v' := v') (w' := w6) hlu hq4 hS4.out hq3.size hh4 m1 m2 (by rw [HXl.out]; exact hown6) hgrow hfr)
      have hb6 : Below w1.heap.size w1 w6 := ⟨hgrow.os.trans hbg.os, hgrow.tape.trans hbg.tape, hgrow.output.trans hbg.output, Nat.le_trans hbg.size hgrow.size, fun j hj => (hgrow.block j (Nat.lt_of_lt_of_le hj hbg.size) (fun e => by have := (hrl _ e.symm).1; omega)).trans (hbg.block j hj)⟩
      have HTp := hid hTp; have HB6 := hid hb6
      clear hTp hb6 hrl hown6 hgrow hfresh hfr hown0 hnews hone CX hlog
      go_roundw
      case rel => exact ⟨k + 1, X ++ [⟨kid k, A9, c9⟩], v', by omega, by go_num, rfl, HB6.out, HTp.out, by rw [List.length_append, HXl.out]; simp, fun i hi => by
        by_cases e : i = k
        · rw [e, ← HXl.out, getX_new, HXl.out]
        · rw [getX_left (by rw [HXl.out]; omega)]
          exact HXk.out i (by omega)⟩
      case measure => simp [intOf]; omega
    · have hke : k = n := by omega
      subst hke
      have HB := hid hbr
      go_wp2
      go_ret
      have h2 := HT.out.sep (A := va) (c := vc) (by rw [HXl.out]) ⟨#[]⟩
      rw [HXl.out] at h2
      exact ⟨va, vc, rfl, (h2.congr (fun i hi => HXk.out i hi)).mono Q0.out.size (Nat.le_refl _), btr Q0.out HB.out⟩
theorem slitterms_any (res : Bool) (x : At) (no : Bool) (hres : res = true ↔ RightQ x) (hF : AtF 1048576 x) (A1 : Option Addr) (c1 : Nat) (A2 : Option Addr) (c2 : Nat) (A3 : Option Addr) (c3 : Nat) (A4 : Option Addr) (c4 : Nat) (w : World) (hA : AtK w x A1 A2 A3 A4) :
    Calls Try.prog 75 #[.agg (x.lit no A1 c1 A2 c2 A3 c3 A4 c4)] w (SLtP (ltT res x) w) := by
  have hR := fun W (h : Below w.heap.size w W) => l6right_any res x hres hF A1 c1 A2 c2 A3 c3 A4 c4 W (hA.below h)
  cases res with
  | false => exact slitterms_no x no A1 c1 A2 c2 A3 c3 A4 c4 w hR
  | true =>
    rcases hres.1 rfl with h | h
    · have e : ltT true x = .mk ⟨#[]⟩ x.n x.kid := by unfold ltT; rw [if_pos rfl, if_neg (by have := h.1; omega)]
      rw [e]; exact slitterms_sum x no h.1 hF A1 c1 A2 c2 A3 c3 A4 c4 w hA hR
    · have e : ltT true x = .mk ⟨#[]⟩ 2 (kidAB x.a x.b) := by unfold ltT; rw [if_pos rfl, if_pos h.1]
      rw [e]; exact slitterms_eq x no h.1 hF A1 c1 A2 c2 A3 c3 A4 c4 w hA hR
end Go.Proofs.Ytanfljajafelgaa

namespace Go.Proofs.Ytanfljajafelgaa
set_option linter.unusedVariables false
set_option linter.unusedSimpArgs false
open Go.RowKit
theorem ltT_mk (res : Bool) (x : At) : ∃ N kd, ltT res x = .mk ⟨#[]⟩ N kd := by
  unfold ltT; split
  · split
    · exact ⟨_, _, rfl⟩
    · exact ⟨_, _, rfl⟩
  · exact ⟨_, _, rfl⟩
theorem ltT_bd {res : Bool} {x : At} (hF : AtF 1048576 x) (hz : atSz x ≤ 1048580) : Fits 1048576 (ltT res x) ∧ tSz (ltT res x) ≤ 1048590 := by
  unfold atSz at hz
  unfold ltT; split
  · split
    · refine ⟨⟨Nat.zero_le _, by decide, fun k hk => ?_⟩, ?_⟩
      · unfold kidAB; split
        · exact hF.1
        · exact hF.2.1
      · rw [tSz]; simp [sumT, kidAB]; omega
    · refine ⟨⟨Nat.zero_le _, hF.2.2.1, hF.2.2.2.1⟩, ?_⟩
      rw [tSz]; omega
  · refine ⟨⟨Nat.zero_le _, by decide, fun k hk => absurd hk (Nat.not_lt_zero _)⟩, ?_⟩
    rw [tSz]; simp [sumT]
set_option maxRecDepth 100000 in
set_option maxHeartbeats 8000000 in
theorem walk_ExactLitTerms (x : At) (no : Bool) (A1 : Option Addr) (c1 : Nat) (A2 : Option Addr) (c2 : Nat) (A3 : Option Addr) (c3 : Nat) (A4 : Option Addr) (c4 : Nat) (w : World) (hF : AtF 9223372036854775807 x) (hA : AtK w x A1 A2 A3 A4) :
    Calls Try.prog 12 #[.agg (x.lit no A1 c1 A2 c2 A3 c3 A4 c4)] w fun e w' => e = .returned (.bool true) ∧ Below w.heap.size w w' := by
  show Calls _ _ #[.agg #[.int .i64 x.kd, .string x.a.nm, .slice A1 x.a.n c1, .string x.b.nm, .slice A2 x.b.n c2, .slice A3 x.n c3, .slice A4 x.m c4, .int .i64 x.bd, .bool x.st, .bool no]] w _
  have hS := hid (fun W (h : Below w.heap.size w W) => (show Calls Try.prog 66 #[.agg #[.int .i64 x.kd, .string x.a.nm, .slice A1 x.a.n c1, .string x.b.nm, .slice A2 x.b.n c2, .slice A3 x.n c3, .slice A4 x.m c4, .int .i64 x.bd, .bool x.st, .bool no], .int .i64 1048576] W (SzA W x 1048576) from szlit_any x no hF A1 c1 A2 c2 A3 c3 A4 c4 1048576 W (by omega) (hA.below h)))
  have H : KcL [(w.heap.size, 0, .int .i64 x.kd), (w.heap.size, 1, .string x.a.nm), (w.heap.size, 2, .slice A1 x.a.n c1), (w.heap.size, 3, .string x.b.nm), (w.heap.size, 4, .slice A2 x.b.n c2), (w.heap.size, 5, .slice A3 x.n c3), (w.heap.size, 6, .slice A4 x.m c4), (w.heap.size, 7, .int .i64 x.bd), (w.heap.size, 8, .bool x.st), (w.heap.size, 9, .bool no)] (w.alloc (.cells #[.int .i64 x.kd, .string x.a.nm, .slice A1 x.a.n c1, .string x.b.nm, .slice A2 x.b.n c2, .slice A3 x.n c3, .slice A4 x.m c4, .int .i64 x.bd, .bool x.st, .bool no] 100)) := by
    refine ⟨?_, ?_, ?_, ?_, ?_, ?_, ?_, ?_, ?_, ?_, trivial⟩ <;> simp [go_sem]
  have q0 := bal (Below.refl w.heap.size w) (.cells #[.int .i64 x.kd, .string x.a.nm, .slice A1 x.a.n c1, .string x.b.nm, .slice A2 x.b.n c2, .slice A3 x.n c3, .slice A4 x.m c4, .int .i64 x.bd, .bool x.st, .bool no] 100)
  go_enter Try.func12, Try.ntmps12
  have HH_ := H; obtain ⟨s0, s1, s2, s3, s4, s5, s6, s7, s8, s9, _⟩ := HH_
  go_wp2_with fail
  refine (hS.out _ q0).mono ?_
  rintro e w1 ⟨r, rfl, hr, hq⟩
  clear s0 s1 s2 s3 s4 s5 s6 s7 s8 s9
  replace H := H.below hq
  replace q0 := btr q0 hq
  clear hS hq
  rcases hr with hr | ⟨r1, r2, hN⟩
  · go_wp2
    go_ret
    exact ⟨rfl, q0⟩
  obtain ⟨res, hres⟩ := bool_of (RightQ x)
  have hz : atSz x ≤ 1048580 := by omega
  clear r2
  obtain ⟨hfl, hzl⟩ := ltT_bd (res := res) hN hz
  have hmm := hN.2.2.2.2
  have hT := hid (fun W (h : Below w.heap.size w W) => (show Calls Try.prog 68 #[.agg #[.int .i64 x.kd, .string x.a.nm, .slice A1 x.a.n c1, .string x.b.nm, .slice A2 x.b.n c2, .slice A3 x.n c3, .slice A4 x.m c4, .int .i64 x.bd, .bool x.st, .bool no]] W (NewLS W x no) from tolit_S x no hN A1 c1 A2 c2 A3 c3 A4 c4 W (hA.below h)))
  have hPs := hid (fun (P1 P2 : Option Addr) (P3 : Nat) (P4 : Option Addr) W (h : AtK W x P1 P2 (some ⟨P3, 0, none⟩) P4) => (show Calls Try.prog 75 #[.agg #[.int .i64 x.kd, .string x.a.nm, .slice P1 x.a.n x.a.n, .string x.b.nm, .slice P2 x.b.n x.b.n, .slice (some ⟨P3, 0, none⟩) x.n x.n, .slice P4 x.m x.m, .int .i64 x.bd, .bool x.st, .bool no]] W (SLtP (ltT res x) W) from slitterms_any res x no hres hN P1 x.a.n P2 x.b.n _ x.n P4 x.m W h))
  have hP := hid (fun (P1 P2 : Option Addr) (P3 : Nat) (P4 : Option Addr) W (h : AtT W x P1 P2 (some ⟨P3, 0, none⟩) P4) => (show Calls Try.prog 76 #[.agg #[.int .i64 x.kd, .string x.a.nm, .slice P1 x.a.n x.a.n, .string x.b.nm, .slice P2 x.b.n x.b.n, .slice (some ⟨P3, 0, none⟩) x.n x.n, .slice P4 x.m x.m, .int .i64 x.bd, .bool x.st, .bool no]] W (CopiesP W (ltT res x)) from litterms_any res x no hres hN hz P1 P2 _ P4 W h))
  have hEx := hid (fun (P1 P2 : Option Addr) (P3 : Nat) (P4 : Option Addr) (Q1 Q2 : Option Addr) (Q3 : Nat) (Q4 : Option Addr) W (h1 : AtK W x P1 P2 (some ⟨P3, 0, none⟩) P4) (h2 : AtK W x Q1 Q2 (some ⟨Q3, 0, none⟩) Q4) => (show Calls Try.prog 70 #[.agg #[.int .i64 x.kd, .string x.a.nm, .slice P1 x.a.n x.a.n, .string x.b.nm, .slice P2 x.b.n x.b.n, .slice (some ⟨P3, 0, none⟩) x.n x.n, .slice P4 x.m x.m, .int .i64 x.bd, .bool x.st, .bool no], .agg #[.int .i64 x.kd, .string x.a.nm, .slice Q1 x.a.n x.a.n, .string x.b.nm, .slice Q2 x.b.n x.b.n, .slice (some ⟨Q3, 0, none⟩) x.n x.n, .slice Q4 x.m x.m, .int .i64 x.bd, .bool x.st, .bool no]] W (fun e w' => e = .returned (.bool true) ∧ Below W.heap.size W w') from eqlit_same x no (hN.mono (by decide)) P1 x.a.n P2 x.b.n _ x.n P4 x.m Q1 x.a.n Q2 x.b.n _ x.n Q4 x.m W h1 h2))
  have hMx := hid (fun (lo hi : Nat) (P1 P2 : Option Addr) (P3 : Nat) (P4 : Option Addr) W (hh : hi ≤ W.heap.size) (h : LtS W x lo hi P1 P2 (some ⟨P3, 0, none⟩) P4) => (show Calls Try.prog 73 #[.agg #[.int .i64 x.kd, .string x.a.nm, .slice P1 x.a.n x.a.n, .string x.b.nm, .slice P2 x.b.n x.b.n, .slice (some ⟨P3, 0, none⟩) x.n x.n, .slice P4 x.m x.m, .int .i64 x.bd, .bool x.st, .bool no], .int .i64 ((1 : Nat) : Int)] W (fun e w' => e = .returned (.int .i64 ((mkN3 x 1 + x.m : Nat) : Int)) ∧ LtS w' (mkA x 1) lo hi P1 P2 (some ⟨P3, 0, none⟩) P4 ∧ Wrt lo hi W w') from marklit_S x no lo hi 1 hN (by decide) (by omega) W hh P1 x.a.n P2 x.b.n _ x.n P4 x.m h))
  generalize (mkN3 x 1 + x.m : Nat) = K1 at hMx
  have dK1 : decide ((K1 : Int) < 0) = false := by simp
  obtain ⟨N, kdd, hmk⟩ := ltT_mk res x
  rw [hmk] at hPs hP hfl hzl
  clear hmk hmm hz hF
  obtain ⟨_, hNl, hkF⟩ := hfl
  have hgz : 1 + tSz (.mk ⟨#[]⟩ N kdd) ≤ 1000000000000001 := by omega
  have hE := hid (fun (B1 B2 : Option Addr) (d1 d2 : Nat) W h1 h2 => eqterms_same N kdd (by omega) (fun k hk => (hkF k hk).mono (by omega)) B1 B2 d1 d2 W h1 h2)
  have hMg : ∀ lo hi (B : Option Addr) (d : Nat) W, SepT W (.mk ⟨#[]⟩ N kdd) lo hi B → Calls Try.prog 42 #[.slice B N d, .int .i64 1] W fun e w' => e = .returned (.int .i64 ((1 + tSz (.mk ⟨#[]⟩ N kdd) - 1 : Nat) : Int)) ∧ SepT w' (mkT (.mk ⟨#[]⟩ N kdd) 1) lo hi B ∧ Wrt lo hi W w' :=
    fun lo hi B d W h => markterms_any (.mk ⟨#[]⟩ N kdd) lo hi B d 1 W hNl (by omega) hgz ⟨Nat.zero_le _, hNl, hkF⟩ h
  have hHg : ∀ (B : Option Addr) (d : Nat) W, Kids 0 W (mkT (.mk ⟨#[]⟩ N kdd) 1) B → Calls Try.prog 44 #[.slice B N d, .int .i64 1] W fun e w' => e = .returned (.int .i64 ((1 + tSz (.mk ⟨#[]⟩ N kdd) - 1 : Nat) : Int)) ∧ Below W.heap.size W w' :=
    fun B d W h => heldterms_any (.mk ⟨#[]⟩ N kdd) B d 1 W hNl (by omega) hgz ⟨Nat.zero_le _, hNl, hkF⟩ h
  generalize (1 + tSz (.mk ⟨#[]⟩ N kdd) - 1 : Nat) = K2 at hMg hHg
  have dK2 : decide ((K2 : Int) < 0) = false := by simp
  have dK3 : ((K2 : Int) != (K2 : Int)) = false := by simp
  replace hMg := hid hMg; replace hHg := hid hHg
  clear hkF hgz hNl hzl hN hres
  have HH_ := H; obtain ⟨s0, s1, s2, s3, s4, s5, s6, s7, s8, s9, _⟩ := HH_
  have l0 := cell_lt s0
  go_wp2_with fail
  refine (hT.out _ q0).mono ?_
  rintro e w2 ⟨P1, P2, P3, P4, rfl, S2, hq⟩
  clear s0 s1 s2 s3 s4 s5 s6 s7 s8 s9
  clear l0
  unfold At.lit
  replace H := H.below hq
  replace q0 := btr q0 hq
  clear hq
  go_wp2_with fail
  refine (hPs.out P1 P2 P3 P4 w2 S2.k).mono ?_
  rintro e w3 ⟨e3, ec3, rfl, S3, hq⟩
  clear S2
  have z3 := q0.size
  replace H := H.below hq
  replace q0 := btr q0 hq
  clear hq
  have HH_ := H; obtain ⟨s0, s1, s2, s3, s4, s5, s6, s7, s8, s9, _⟩ := HH_
  have l0 := cell_lt s0
  go_wp2_with fail
  refine (hT.out _ q0).mono ?_
  rintro e w4 ⟨Q1, Q2, Q3, Q4, rfl, S4, hq⟩
  clear s0 s1 s2 s3 s4 s5 s6 s7 s8 s9
  clear l0
  unfold At.lit
  have z4 := hq.size
  have z34 : w.heap.size ≤ w3.heap.size := q0.size
  have zs : w.heap.size < w3.heap.size := cell_lt H.1
  replace S3 := S3.below hq
  replace H := H.below hq
  replace q0 := btr q0 hq
  clear hq
  have HB : KcL [(w4.heap.size, 0, .int .i64 x.kd), (w4.heap.size, 1, .string x.a.nm), (w4.heap.size, 2, .slice Q1 x.a.n x.a.n), (w4.heap.size, 3, .string x.b.nm), (w4.heap.size, 4, .slice Q2 x.b.n x.b.n), (w4.heap.size, 5, .slice (some ⟨Q3, 0, none⟩) x.n x.n), (w4.heap.size, 6, .slice Q4 x.m x.m), (w4.heap.size, 7, .int .i64 x.bd), (w4.heap.size, 8, .bool x.st), (w4.heap.size, 9, .bool no)] (w4.alloc (.cells #[.int .i64 x.kd, .string x.a.nm, .slice Q1 x.a.n x.a.n, .string x.b.nm, .slice Q2 x.b.n x.b.n, .slice (some ⟨Q3, 0, none⟩) x.n x.n, .slice Q4 x.m x.m, .int .i64 x.bd, .bool x.st, .bool no] 104)) := by
    refine ⟨?_, ?_, ?_, ?_, ?_, ?_, ?_, ?_, ?_, ?_, trivial⟩ <;> simp [go_sem]
  have CXB := bal (Below.refl w4.heap.size w4) (.cells #[.int .i64 x.kd, .string x.a.nm, .slice Q1 x.a.n x.a.n, .string x.b.nm, .slice Q2 x.b.n x.b.n, .slice (some ⟨Q3, 0, none⟩) x.n x.n, .slice Q4 x.m x.m, .int .i64 x.bd, .bool x.st, .bool no] 104)
  go_upto_region 7 with fail
  have z5 : w4.heap.size < (w4.alloc (.cells #[.int .i64 x.kd, .string x.a.nm, .slice Q1 x.a.n x.a.n, .string x.b.nm, .slice Q2 x.b.n x.b.n, .slice (some ⟨Q3, 0, none⟩) x.n x.n, .slice Q4 x.m x.m, .int .i64 x.bd, .bool x.st, .bool no] 104)).heap.size := by simp
  replace S3 := S3.below CXB
  replace S4 := S4.below CXB
  replace H := H.below CXB
  replace q0 := btr q0 CXB
  clear CXB
  generalize w4.alloc (.cells #[.int .i64 x.kd, .string x.a.nm, .slice Q1 x.a.n x.a.n, .string x.b.nm, .slice Q2 x.b.n x.b.n, .slice (some ⟨Q3, 0, none⟩) x.n x.n, .slice Q4 x.m x.m, .int .i64 x.bd, .bool x.st, .bool no] 104) = w5 at *
  have hw4 : w4.heap.size ≤ w5.heap.size := Nat.le_of_lt z5
  generalize w4.heap.size = bx at *
  have zc := hw4
  have HH_ := H; obtain ⟨s0, s1, s2, s3, s4, s5, s6, s7, s8, s9, _⟩ := HH_
  have l0 := cell_lt s0
  have HH_ := HB; obtain ⟨b0, b1, b2, b3, b4, b5, b6, b7, b8, b9, _⟩ := HH_
  have lb := cell_lt b0
  go_wp2_with fail
  refine (hP.out Q1 Q2 Q3 Q4 w5 S4.t).mono ?_
  rintro e w6 ⟨a6, c6, rfl, _, _, S6, hq, _⟩
  clear s0 s1 s2 s3 s4 s5 s6 s7 s8 s9
  clear l0
  clear b0 b1 b2 b3 b4 b5 b6 b7 b8 b9
  clear lb
  have z6 := hq.size
  replace S3 := S3.below hq
  replace S4 := S4.below hq
  replace HB := HB.below hq
  replace H := H.below hq
  replace q0 := btr q0 hq
  replace zc := Nat.le_trans zc hq.size
  clear hq
  go_wp2_with fail
  refine (hE.out a6 e3 c6 ec3 w6 S6.kidsB S3.kidsB).mono ?_
  rintro e w7 ⟨rfl, hq⟩
  replace S3 := S3.below hq
  replace S4 := S4.below hq
  replace HB := HB.below hq
  replace S6 := S6.below hq
  replace H := H.below hq
  replace q0 := btr q0 hq
  replace zc := Nat.le_trans zc hq.size
  clear hq
  go_upto_region 10 with fail
  have hd := (Below.refl w7.heap.size w7).drew
  replace S3 := S3.below hd
  replace S4 := S4.below hd
  replace HB := HB.below hd
  replace S6 := S6.below hd
  replace H := H.below hd
  replace q0 := btr q0 hd
  replace zc := Nat.le_trans zc hd.size
  clear hd
  refine region_planC (fun w' => KcL [(bx, 0, .int .i64 x.kd), (bx, 1, .string x.a.nm), (bx, 2, .slice Q1 x.a.n x.a.n), (bx, 3, .string x.b.nm), (bx, 4, .slice Q2 x.b.n x.b.n), (bx, 5, .slice (some ⟨Q3, 0, none⟩) x.n x.n), (bx, 6, .slice Q4 x.m x.m), (bx, 7, .int .i64 x.bd), (bx, 8, .bool x.st), (bx, 9, .bool no)] w' ∧ KcL [(w.heap.size, 0, .int .i64 x.kd), (w.heap.size, 1, .string x.a.nm), (w.heap.size, 2, .slice A1 x.a.n c1), (w.heap.size, 3, .string x.b.nm), (w.heap.size, 4, .slice A2 x.b.n c2), (w.heap.size, 5, .slice A3 x.n c3), (w.heap.size, 6, .slice A4 x.m c4), (w.heap.size, 7, .int .i64 x.bd), (w.heap.size, 8, .bool x.st), (w.heap.size, 9, .bool no)] w') (.takes [0, 1] (.make 2 (.make 3 .fin))) 4 rfl (by kernel_rfl) ⟨HB, H⟩ ?_
  refine plan_takes ?_; simp only [pickOps, List.getElem?_cons_zero, List.getElem?_cons_succ]
  refine quiet_doC rfl (.agg #[.int .i64 x.kd, .string x.a.nm, .slice Q1 x.a.n x.a.n, .string x.b.nm, .slice Q2 x.b.n x.b.n, .slice (some ⟨Q3, 0, none⟩) x.n x.n, .slice Q4 x.m x.m, .int .i64 x.bd, .bool x.st, .bool no]) (fun w' hw' => by obtain ⟨s0, s1, s2, s3, s4, s5, s6, s7, s8, s9, _⟩ := hw'.1; simp [execOp, go_sem, s0, s1, s2, s3, s4, s5, s6, s7, s8, s9]) ?_
  refine quiet_doC rfl (.agg #[.int .i64 x.kd, .string x.a.nm, .slice A1 x.a.n c1, .string x.b.nm, .slice A2 x.b.n c2, .slice A3 x.n c3, .slice A4 x.m c4, .int .i64 x.bd, .bool x.st, .bool no]) (fun w' hw' => by obtain ⟨s0, s1, s2, s3, s4, s5, s6, s7, s8, s9, _⟩ := hw'.2; simp [execOp, go_sem, s0, s1, s2, s3, s4, s5, s6, s7, s8, s9]) ?_
  refine wpQuiet_nil ?_
  generalize w7.drew = u at *
  refine planC_call rfl rfl 68 #[.agg #[.int .i64 x.kd, .string x.a.nm, .slice A1 x.a.n c1, .string x.b.nm, .slice A2 x.b.n c2, .slice A3 x.n c3, .slice A4 x.m c4, .int .i64 x.bd, .bool x.st, .bool no]] (by kernel_rfl) ?_
  refine (hT.out _ q0).mono ?_
  rintro e w8 ⟨R1, R2, R3, R4, rfl, S8, hq⟩
  unfold At.lit
  refine ⟨_, rfl, ⟨HB.below hq, H.below hq⟩, ?_⟩
  replace S3 := S3.below hq
  replace S4 := S4.below hq
  replace HB := HB.below hq
  replace S6 := S6.below hq
  replace H := H.below hq
  replace q0 := btr q0 hq
  replace zc := Nat.le_trans zc hq.size
  clear hq
  refine planC_call rfl rfl 70 #[.agg #[.int .i64 x.kd, .string x.a.nm, .slice Q1 x.a.n x.a.n, .string x.b.nm, .slice Q2 x.b.n x.b.n, .slice (some ⟨Q3, 0, none⟩) x.n x.n, .slice Q4 x.m x.m, .int .i64 x.bd, .bool x.st, .bool no], .agg #[.int .i64 x.kd, .string x.a.nm, .slice R1 x.a.n x.a.n, .string x.b.nm, .slice R2 x.b.n x.b.n, .slice (some ⟨R3, 0, none⟩) x.n x.n, .slice R4 x.m x.m, .int .i64 x.bd, .bool x.st, .bool no]] (by kernel_rfl) ?_
  refine (hEx.out Q1 Q2 Q3 Q4 R1 R2 R3 R4 w8 S4.k S8.k).mono ?_
  rintro e w9 ⟨rfl, hq⟩
  refine ⟨_, rfl, ⟨HB.below hq, H.below hq⟩, ?_⟩
  clear S8
  replace S3 := S3.below hq
  replace S4 := S4.below hq
  replace HB := HB.below hq
  replace S6 := S6.below hq
  replace H := H.below hq
  replace q0 := btr q0 hq
  replace zc := Nat.le_trans zc hq.size
  clear hq
  refine plan_fin ?_
  simp only [List.drop_succ_cons, List.drop_zero, Act.put, List.setIfInBounds_toArray, List.set_cons_succ, List.set_cons_zero]
  have HH_ := HB; obtain ⟨b0, b1, b2, b3, b4, b5, b6, b7, b8, b9, _⟩ := HH_
  have lb := cell_lt b0
  go_wp2_with fail
  refine (hMx.out _ _ Q1 Q2 Q3 Q4 w9 zc S4).mono ?_
  rintro e w10 ⟨rfl, _, p9⟩
  clear b0 b1 b2 b3 b4 b5 b6 b7 b8 b9
  clear lb
  replace H := p9.kc (fun e he => .inl (by simp at he; rcases he with rfl | rfl | rfl | rfl | rfl | rfl | rfl | rfl | rfl | rfl <;> simp only <;> omega)) H
  replace q0 := p9.below q0 z34
  replace S3 := S3.wrt p9 (.inl (Nat.le_refl _))
  replace S6 := S6.wrt p9 (.inr hw4)
  clear p9 S4 HB
  go_wp2_with fail
  refine (hE.out a6 e3 c6 ec3 w10 S6.kidsB S3.kidsB).mono ?_
  rintro e w11 ⟨rfl, hq⟩
  replace S3 := S3.below hq
  replace S6 := S6.below hq
  replace H := H.below hq
  replace q0 := btr q0 hq
  clear hq
  go_wp2_with fail
  refine (hMg.out _ _ a6 c6 w11 S6).mono ?_
  rintro e w12 ⟨rfl, S7, p12⟩
  replace H := p12.kc (fun e he => .inl (by simp at he; rcases he with rfl | rfl | rfl | rfl | rfl | rfl | rfl | rfl | rfl | rfl <;> simp only <;> omega)) H
  replace q0 := p12.below q0 (by omega)
  replace S3 := S3.wrt p12 (.inl (by omega))
  clear p12 S6
  go_wp2_with fail
  refine (hHg.out a6 c6 w12 S7.kidsB).mono ?_
  rintro e w13 ⟨rfl, hq⟩
  replace S3 := S3.below hq
  replace S7 := S7.below hq
  replace H := H.below hq
  replace q0 := btr q0 hq
  clear hq
  have HH_ := H; obtain ⟨s0, s1, s2, s3, s4, s5, s6, s7, s8, s9, _⟩ := HH_
  have l0 := cell_lt s0
  go_wp2_with fail
  refine (hT.out _ q0).mono ?_
  rintro e w14 ⟨R1, R2, R3, R4, rfl, S8, hq⟩
  clear s0 s1 s2 s3 s4 s5 s6 s7 s8 s9
  clear l0
  unfold At.lit
  replace S3 := S3.below hq
  replace S7 := S7.below hq
  replace H := H.below hq
  replace q0 := btr q0 hq
  clear hq
  go_wp2_with fail
  refine (hP.out R1 R2 R3 R4 w14 S8.t).mono ?_
  rintro e w15 ⟨a9, c9, rfl, _, _, S9, hq, _⟩
  clear S8
  replace S3 := S3.below hq
  replace S7 := S7.below hq
  replace H := H.below hq
  replace q0 := btr q0 hq
  clear hq
  go_wp2_with fail
  refine (hE.out a9 e3 c9 ec3 w15 S9.kidsB S3.kidsB).mono ?_
  rintro e w16 ⟨rfl, hq⟩
  clear S9 S3
  replace S7 := S7.below hq
  replace H := H.below hq
  replace q0 := btr q0 hq
  clear hq
  go_wp2_with fail
  refine (hHg.out a6 c6 w16 S7.kidsB).mono ?_
  rintro e w17 ⟨rfl, hq⟩
  replace q0 := btr q0 hq
  go_wp2
  go_ret
  exact ⟨rfl, q0⟩
end Go.Proofs.Ytanfljajafelgaa
