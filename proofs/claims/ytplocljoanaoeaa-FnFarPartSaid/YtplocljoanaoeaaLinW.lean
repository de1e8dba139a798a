/- Contracts of the program's isAssignment, coefRow.at, LinAt. -/
import Derived.Test.YtplocljoanaoeaaBM
import Derived.Test.YtplocljoanaoeaaLinU
import Derived.Test.YtplocljoanaoeaaBL
import Derived.Test.YtplocljoanaoeaaLawK
namespace Go.Proofs.Ytplocljoanaoeaa
set_option linter.unusedVariables false
set_option linter.unusedSimpArgs false
open Go.RowKit
set_option maxHeartbeats 1000000 in
theorem isassign_any (A : Option Addr) (n c : Nat) (N D : Nat → Int) (w : World) (hn : n ≤ 9223372036854775806) (hA : Rats w A n N D) :
    Calls Try.prog 39 #[.slice A n c] w fun e w' => e = .returned (.bool (valsB n N D)) ∧ Below w.heap.size w w' := by
  generalize hr : valsB n N D = res
  have HR := hid hr; clear hr
  by_cases h4 : n = 4
  · subst h4
    have h4 := 4
    go_enter Try.func39, Try.ntmps39
    go_wp2
    go_loopw [10] (fun i wr => ∃ k : Nat, k ≤ 4 ∧ i = .int .i64 k ∧ Below w.heap.size w wr ∧ ∀ j, j < k → okB (N j) (D j) = true) (fun i _ => 4 - (intOf i).toNat)
    case atStart => exact ⟨0, Nat.zero_le _, rfl, Below.refl _ _, fun j hj => by omega⟩
    case round =>
      obtain ⟨k, hk, rfl, hb, he⟩ := hrel
      have HE := hid he; clear he
      by_cases hlt : k < 4
      · rcases hA with h0 | ⟨g, off, rfl, hg, hcA⟩
        · omega
        have gg : g < wr.heap.size := Nat.lt_of_lt_of_le hg hb.size
        have a0 : wr.cell? ⟨g, off + k * 2, none⟩ = some (.int .i64 (N k)) := carry hb (hcA k hlt).1
        have a1 : wr.cell? ⟨g, off + k * 2 + 1, none⟩ = some (.int .i64 (D k)) := carry hb (hcA k hlt).2
        clear hcA
        cases hv : okB (N k) (D k)
        · have HV := hid hv
          have HF := hid (valsB_at (n := 4) hlt hv); clear hv
          go_wp2_with (go_at_call 59; refine (valid_at _ _ _ HV.out).mono ?_; rintro e w1 ⟨rfl, hq⟩)
          go_ret
          exact ⟨ret_bool (HF.out.symm.trans HR.out), btr (bal hb _) hq⟩
        · have HV := hid hv; clear hv
          go_wp2_with (go_at_call 59; refine (valid_at _ _ _ HV.out).mono ?_; rintro e w1 ⟨rfl, hq⟩)
          go_roundw
          case rel =>
            refine ⟨k + 1, by omega, by go_num, btr (bal hb _) hq, fun j hj => ?_⟩
            by_cases e : j = k
            · subst e; exact HV.out
            · exact HE.out j (by omega)
          case measure => simp [intOf]; omega
      · have hke : k = 4 := by omega
        subst hke
        have HT := hid (valsB_iff.2 ⟨rfl, HE.out⟩)
        go_wp2
        go_ret
        exact ⟨ret_bool (HT.out.symm.trans HR.out), hb⟩
  · have HF := hid (valsB_len (N := N) (D := D) h4)
    have hd : ((n : Int) != 4) = true := by simp; omega
    clear h4
    go_enter Try.func39, Try.ntmps39
    go_wp2
    go_ret
    exact ⟨ret_bool (HF.out.symm.trans HR.out), Below.refl _ _⟩
theorem isassign_at {A : Option Addr} {n c : Nat} {N D : Nat → Int} {w : World} (hn : n ≤ 9223372036854775806) (hA : Rats w A n N D) {v : Bool} (h : valsB n N D = v) (W : World) (hb : Below w.heap.size w W) :
    Calls Try.prog 39 #[.slice A n c] W fun e w' => e = .returned (.bool v) ∧ Below W.heap.size W w' := by
  subst h; exact isassign_any A n c N D W hn (hA.below hb)
/-- at the loop's head: the row, the result still empty, the sum -/
def AtS (w : World) (Z N D : Nat → Int) (k : Nat) (wr : World) : Prop :=
  Below w.heap.size w wr ∧ wr.cell? ⟨w.heap.size + 1, 0, none⟩ = some (.int .i64 0) ∧ wr.cell? ⟨w.heap.size + 1, 1, none⟩ = some (.int .i64 0) ∧ wr.frozen? ⟨w.heap.size + 1, 0, none⟩ = false ∧ wr.frozen? ⟨w.heap.size + 1, 1, none⟩ = false ∧
  wr.frozen? ⟨w.heap.size + 1 + 1, 0, none⟩ = false ∧ wr.frozen? ⟨w.heap.size + 1 + 1, 1, none⟩ = false ∧
  ∃ x y, atS Z N D k = (x, y, true) ∧ wr.cell? ⟨w.heap.size + 1 + 1, 0, none⟩ = some (.int .i64 x) ∧ wr.cell? ⟨w.heap.size + 1 + 1, 1, none⟩ = some (.int .i64 y)
/-- what the sum is, said of a call -/
def AtP (w : World) (r : Int × Int × Bool) (e : Ending) (w' : World) : Prop := e = .returned (.tuple #[.agg #[.int .i64 r.1, .int .i64 r.2.1], .bool r.2.2]) ∧ Below w.heap.size w w'
theorem AtP.mk {w w' : World} {r : Int × Int × Bool} {x y : Int} {v : Bool} (h : r = (x, y, v)) (hb : Below w.heap.size w w') : AtP w r (.returned (.tuple #[.agg #[.int .i64 x, .int .i64 y], .bool v])) w' := by subst h; exact ⟨rfl, hb⟩
theorem set2 {w1 : World} {b : Nat} {u0 u1 : Value} (h0 : w1.cell? ⟨b, 0, none⟩ = some u0) (h1 : w1.cell? ⟨b, 1, none⟩ = some u1) (x0 x1 : Value) :
    ((w1.setCell ⟨b, 0, none⟩ x0).setCell ⟨b, 1, none⟩ x1).cell? ⟨b, 0, none⟩ = some x0 ∧ ((w1.setCell ⟨b, 0, none⟩ x0).setCell ⟨b, 1, none⟩ x1).cell? ⟨b, 1, none⟩ = some x1 := by
  refine ⟨?_, ?_⟩
  · rw [World.cell?_setCell_other _ _ _ _ (by simp)]; exact World.cell?_setCell_same _ _ _ h0
  · exact World.cell?_setCell_same _ _ _ (by rw [World.cell?_setCell_other _ _ _ _ (by simp)]; exact h1)
theorem far2 {w : World} {b o p : Nat} {u : Value} (x y : Value) (hp : p ≠ b) (h : w.cell? ⟨b, o, none⟩ = some u) : ((w.setCell ⟨p, 0, none⟩ x).setCell ⟨p, 1, none⟩ y).cell? ⟨b, o, none⟩ = some u := by
  rw [World.cell?_setCell_other _ _ _ _ (by simp <;> omega), World.cell?_setCell_other _ _ _ _ (by simp <;> omega)]; exact h
theorem frz2 {w : World} {a : Addr} {p : Nat} {v : Bool} (x y : Value) (h : w.frozen? a = v) : ((w.setCell ⟨p, 0, none⟩ x).setCell ⟨p, 1, none⟩ y).frozen? a = v := by simpa [go_sem] using h
theorem carryAf2 {w : World} {b o : Nat} {u : Value} {v : Bool} (x : Obj) (hc : w.cell? ⟨b, o, none⟩ = some u) (h : w.frozen? ⟨b, o, none⟩ = v) : (w.alloc x).frozen? ⟨b, o, none⟩ = v := carryf (bal (Below.refl _ _) x) h (cell_lt hc)
set_option maxRecDepth 100000 in
set_option maxHeartbeats 4000000 in
theorem cat_any (z0 z1 z2 z3 : Int) (A : Option Addr) (c : Nat) (Z N D : Nat → Int) (w : World) (e0 : Z 0 = z0) (e1 : Z 1 = z1) (e2 : Z 2 = z2) (e3 : Z 3 = z3) (hA : Rats w A 4 N D) :
    Calls Try.prog 47 #[.agg #[.int .i64 z0, .int .i64 z1, .int .i64 z2, .int .i64 z3], .slice A 4 c] w (AtP w (atS Z N D 4)) := by
  have E0 := hid e0
  have E1 := hid e1
  have E2 := hid e2
  have E3 := hid e3
  clear e0 e1 e2 e3
  have hst : AtS w Z N D 0 (((w.alloc (.cells #[.int .i64 z0, .int .i64 z1, .int .i64 z2, .int .i64 z3] 72)).alloc (.cells #[.int .i64 0, .int .i64 0] 52)).alloc (.cells #[.int .i64 0, .int .i64 1] 52)) := by
    refine ⟨bal (bal (bal (Below.refl _ _) _) _) _, ?_, ?_, ?_, ?_, ?_, ?_, 0, 1, rfl, ?_, ?_⟩ <;> simp [go_sem]
  go_enter Try.func47, Try.ntmps47
  go_wp2
  go_loopw [13] (fun i wr => ∃ k : Nat, k ≤ 4 ∧ i = .int .i64 k ∧ AtS w Z N D k wr) (fun i _ => 4 - (intOf i).toNat)
  case atStart => exact ⟨0, Nat.zero_le _, rfl, hst⟩
  case round =>
    obtain ⟨k, hk, rfl, hb, r0, r1, f0, f1, g0, g1, x, y, hs, s0, s1⟩ := hrel
    clear hst
    have HS := hid hs; clear hs
    by_cases hlt : k < 4
    · have ik : ∀ W, (Instr.index 72 (.agg #[.int .i64 z0, .int .i64 z1, .int .i64 z2, .int .i64 z3]) (.int .i64 (k : Int))).run Try.prog W = .ok (.int .i64 (Z k)) W := by
        intro W
        rcases lt4 hlt with rfl | rfl | rfl | rfl
        · rw [E0.out]; exact idx0 _ _ _ _ W
        · rw [E1.out]; exact idx1 _ _ _ _ W
        · rw [E2.out]; exact idx2 _ _ _ _ W
        · rw [E3.out]; exact idx3 _ _ _ _ W
      rcases hA with h0 | ⟨g, off, rfl, hg, hcA⟩
      · omega
      have gg : g < wr.heap.size := Nat.lt_of_lt_of_le hg hb.size
      have a0 : wr.cell? ⟨g, off + k * 2, none⟩ = some (.int .i64 (N k)) := carry hb (hcA k hlt).1
      have a1 : wr.cell? ⟨g, off + k * 2 + 1, none⟩ = some (.int .i64 (D k)) := carry hb (hcA k hlt).2
      clear hcA
      have hM := fun W => rmul_any (Z k) 1 (N k) (D k) W
      rcases mulR_cases (Z k) 1 (N k) (D k) with hm | ⟨p, q, hm⟩
      · have HF := hid (atS_none (atS_le (Z := Z) (N := N) (D := D) (k := k + 1) (m := 4) (by rw [atS_mulno (by rw [hm])]) (by omega)))
        rw [hm] at hM; clear hm
        simp only at hM
        go_wp2_with (go_at_call 78; refine (hM _).mono ?_; rintro e w1 ⟨rfl, hq⟩; replace f0 := carryf hq f0 (cell_lt r0); replace f1 := carryf hq f1 (cell_lt r1); replace g0 := carryf hq g0 (cell_lt s0); replace g1 := carryf hq g1 (cell_lt s1); replace r0 := carry hq r0; replace r1 := carry hq r1; replace s0 := carry hq s0; replace s1 := carry hq s1; have l0 := cell_lt r0; have l1 := cell_lt s0; replace hb := btr hb hq)
        obtain ⟨t0, t1⟩ := set2 r0 r1 (.int .i64 0) (.int .i64 0)
        replace t0 := carryA (.cells #[.int .i64 0, .int .i64 0] 52) t0
        replace t1 := carryA (.cells #[.int .i64 0, .int .i64 0] 52) t1
        refine bodyPost_ret (v := .tuple #[.agg #[.int .i64 0, .int .i64 0], .bool false]) (by simp [results, Try.results47, go_sem, t0, t1]) rfl (AtP.mk HF.out ?_)
        exact bal (bst (bst hb (by simp <;> omega) _) (by simp <;> omega) _) _
      · rw [hm] at hM
        simp only at hM
        have hS := fun W => radd_any x y p q W
        rcases addR_cases x y p q with ha | ⟨u, v, ha⟩
        · have HF := hid (atS_none (atS_le (Z := Z) (N := N) (D := D) (k := k + 1) (m := 4) (by rw [atS_step HS.out hm, ha]) (by omega)))
          rw [ha] at hS; clear ha hm
          simp only at hS
          go_wp2_with (first | (go_at_call 78; refine (hM _).mono ?_; rintro e w1 ⟨rfl, hq⟩; replace f0 := carryf hq f0 (cell_lt r0); replace f1 := carryf hq f1 (cell_lt r1); replace g0 := carryf hq g0 (cell_lt s0); replace g1 := carryf hq g1 (cell_lt s1); replace r0 := carry hq r0; replace r1 := carry hq r1; replace s0 := carry hq s0; replace s1 := carry hq s1; have l0 := cell_lt r0; have l1 := cell_lt s0; replace hb := btr hb hq) | (go_at_call 79; refine (hS _).mono ?_; rintro e w2 ⟨rfl, hq2⟩; replace f0 := carryf hq2 (carryAf2 _ r0 f0) (cell_lt (carryA _ r0)); replace f1 := carryf hq2 (carryAf2 _ r1 f1) (cell_lt (carryA _ r1)); replace g0 := carryf hq2 (carryAf2 _ s0 g0) (cell_lt (carryA _ s0)); replace g1 := carryf hq2 (carryAf2 _ s1 g1) (cell_lt (carryA _ s1)); replace r0 := carry hq2 (carryA _ r0); replace r1 := carry hq2 (carryA _ r1); replace s0 := carry hq2 (carryA _ s0); replace s1 := carry hq2 (carryA _ s1); replace hb := btr (bal hb _) hq2))
          obtain ⟨t0, t1⟩ := set2 (far2 (.int .i64 0) (.int .i64 0) (p := w.heap.size + 1 + 1) (by omega) r0) (far2 (.int .i64 0) (.int .i64 0) (p := w.heap.size + 1 + 1) (by omega) r1) (.int .i64 0) (.int .i64 0)
          refine bodyPost_ret (v := .tuple #[.agg #[.int .i64 0, .int .i64 0], .bool false]) (by simp [results, Try.results47, go_sem, t0, t1]) rfl (AtP.mk HF.out ?_)
          exact bst (bst (bst (bst hb (by simp <;> omega) _) (by simp <;> omega) _) (by simp <;> omega) _) (by simp <;> omega) _
        · have HS2 := hid ((atS_step HS.out hm).trans ha)
          rw [ha] at hS; clear ha hm
          simp only at hS
          go_wp2_with (first | (go_at_call 78; refine (hM _).mono ?_; rintro e w1 ⟨rfl, hq⟩; replace f0 := carryf hq f0 (cell_lt r0); replace f1 := carryf hq f1 (cell_lt r1); replace g0 := carryf hq g0 (cell_lt s0); replace g1 := carryf hq g1 (cell_lt s1); replace r0 := carry hq r0; replace r1 := carry hq r1; replace s0 := carry hq s0; replace s1 := carry hq s1; have l0 := cell_lt r0; have l1 := cell_lt s0; replace hb := btr hb hq) | (go_at_call 79; refine (hS _).mono ?_; rintro e w2 ⟨rfl, hq2⟩; replace f0 := carryf hq2 (carryAf2 _ r0 f0) (cell_lt (carryA _ r0)); replace f1 := carryf hq2 (carryAf2 _ r1 f1) (cell_lt (carryA _ r1)); replace g0 := carryf hq2 (carryAf2 _ s0 g0) (cell_lt (carryA _ s0)); replace g1 := carryf hq2 (carryAf2 _ s1 g1) (cell_lt (carryA _ s1)); replace r0 := carry hq2 (carryA _ r0); replace r1 := carry hq2 (carryA _ r1); replace s0 := carry hq2 (carryA _ s0); replace s1 := carry hq2 (carryA _ s1); replace hb := btr (bal hb _) hq2))
          go_roundw
          case rel =>
            obtain ⟨t0, t1⟩ := set2 s0 s1 (.int .i64 u) (.int .i64 v)
            exact ⟨k + 1, by omega, by go_num, bst (bst hb (by simp <;> omega) _) (by simp <;> omega) _, far2 _ _ (by omega) r0, far2 _ _ (by omega) r1, frz2 _ _ f0, frz2 _ _ f1, frz2 _ _ g0, frz2 _ _ g1, u, v, HS2.out, t0, t1⟩
          case measure => simp [intOf]; omega
    · have hke : k = 4 := by omega
      subst hke
      go_wp2
      obtain ⟨t0, t1⟩ := set2 r0 r1 (.int .i64 x) (.int .i64 y)
      refine bodyPost_ret (v := .tuple #[.agg #[.int .i64 x, .int .i64 y], .bool true]) (by simp [results, Try.results47, go_sem, t0, t1]) rfl (AtP.mk HS.out ?_)
      exact bst (bst hb (by simp <;> omega) _) (by simp <;> omega) _
end Go.Proofs.Ytplocljoanaoeaa
