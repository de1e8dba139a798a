/- Steps of a plan. -/
import Derived.Test.YtjnngijilkdhbaaBT
import Derived.Test.YtjnngijilkdhbaaMark
import Derived.Deep.MidRow
namespace Go.Proofs.Ytjnngijilkdhbaa
set_option linter.unusedVariables false
set_option linter.unusedSimpArgs false
open Go.RowKit
section
variable {P : Program} {ops : Array Oper} {l : List Oper} {K : Act → World → Prop} {a : Act} {w W : World} {m : Nat} {k : Pl} {om : Oper}
theorem plan_takes {C : World → Prop} {is : List Nat} (h : wpQuiet P ops C (fun a' => ObPl P ops C l K k a' w) (pickOps l is) a) : ObPl P ops C l K (.takes is k) a w := h
theorem plan_fork {C : World → Prop} {m1 m2 : Nat} {k1 k2 : Pl} (h1 : ObPl P ops C l K (.make m1 k1) a w) (h2 : ObPl P ops C l K (.make m2 k2) a w) : ObPl P ops C l K (.fork m1 m2 k1 k2) a w := ⟨h1, h2⟩
theorem plan_fin {C : World → Prop} (h : K a w) : ObPl P ops C l K .fin a w := h
theorem quiet_do {C : World → Prop} {Q : Act → Prop} {o : Oper} {rest : List Oper} (hg : o.guard = none) (v : Value) (h : ∀ w, (execOp a.eval o).run P w = .ok (.value v) w) (hk : wpQuiet P ops C Q rest (a.put o.dst v)) : wpQuiet P ops C Q (o :: rest) a := by
  have hw : Region.wanted o (yielded ops a.tmps) = true := by simp [Region.wanted, hg]
  unfold wpQuiet
  rw [if_pos hw]
  refine ⟨v, fun w hw => ?_, hk⟩
  unfold Oper.quietAt
  rw [h w]
  exact ⟨rfl, rfl⟩
theorem quiet_doG {C : World → Prop} {Q : Act → Prop} {o : Oper} {rest : List Oper} (hw : Region.wanted o (yielded ops a.tmps) = true) (v : Value) (h : ∀ w, C w → (execOp a.eval o).run P w = .ok (.value v) w) (hk : wpQuiet P ops C Q rest (a.put o.dst v)) : wpQuiet P ops C Q (o :: rest) a := by
  unfold wpQuiet
  rw [if_pos hw]
  refine ⟨v, fun w hC => ?_, hk⟩
  unfold Oper.quietAt
  rw [h w hC]
  exact ⟨rfl, rfl⟩
theorem quiet_skip {C : World → Prop} {Q : Act → Prop} {o : Oper} {rest : List Oper} (hw : Region.wanted o (yielded ops a.tmps) = false) (hk : wpQuiet P ops C Q rest (a.put o.dst undef)) : wpQuiet P ops C Q (o :: rest) a := by
  unfold wpQuiet
  rw [if_neg (by rw [hw]; simp)]
  exact hk
theorem plan_callG (hl : l[m]? = some om) (hw : Region.wanted om (yielded ops a.tmps) = true) (f : FuncId) (args : Array Value) (h : (execOp a.eval om).run P w = .ok (.enter f args) w)
    (hc : Calls P f args w fun e w'' => ∃ v, e = .returned v ∧ Below W.heap.size W w'' ∧ ObPl P ops (fun w' => ∃ X, w' = gro W X) l K k (a.put om.dst v) w'') : ObPl P ops (fun w' => ∃ X, w' = gro W X) l K (.make m k) a w := by
  refine ⟨om, hl, .inl ⟨hw, ?_⟩⟩
  rw [h]
  exact Calls.mono hc fun e w'' ⟨v, x, y, z⟩ => ⟨v, x, ⟨⟨w'', y⟩, rfl⟩, z⟩
theorem plan_call (hl : l[m]? = some om) (hg : om.guard = none) (f : FuncId) (args : Array Value) (h : (execOp a.eval om).run P w = .ok (.enter f args) w)
    (hc : Calls P f args w fun e w'' => ∃ v, e = .returned v ∧ Below W.heap.size W w'' ∧ ObPl P ops (fun w' => ∃ X, w' = gro W X) l K k (a.put om.dst v) w'') : ObPl P ops (fun w' => ∃ X, w' = gro W X) l K (.make m k) a w := by
  refine ⟨om, hl, .inl ⟨wanted_none hg, ?_⟩⟩
  rw [h]
  exact Calls.mono hc fun e w'' ⟨v, x, y, z⟩ => ⟨v, x, ⟨⟨w'', y⟩, rfl⟩, z⟩
theorem plan_val (hl : l[m]? = some om) (hg : om.guard = none) (v : Value) {w'' : World} (h : (execOp a.eval om).run P w = .ok (.value v) w'') (hb : Below W.heap.size W w'')
    (hk : ObPl P ops (fun w' => ∃ X, w' = gro W X) l K k (a.put om.dst v) w'') : ObPl P ops (fun w' => ∃ X, w' = gro W X) l K (.make m k) a w := by
  refine ⟨om, hl, .inl ⟨wanted_none hg, ?_⟩⟩
  rw [h]
  exact ⟨⟨⟨w'', hb⟩, rfl⟩, hk⟩
theorem grownBy_setCell3 (w : World) (b : Nat) (x0 x1 x2 : Value) : w.grownBy (((w.setCell ⟨b, 0, none⟩ x0).setCell ⟨b, 1, none⟩ x1).setCell ⟨b, 2, none⟩ x2) (some b) :=
  grow_trans (grow_trans (grow_set w b 0 x0) (grow_set _ b 1 x1)) (grow_set _ b 2 x2)
theorem plan_store (hl : l[m]? = some om) (hg : om.guard = none) (ty : TypeId) (x y : Operand) (ho : om.op = .store ty x y) (b : Nat) (x0 x1 x2 : Value) (hx : a.eval x = .pointer (some ⟨b, 0, none⟩)) (hy : a.eval y = .agg #[x0, x1, x2])
    (ht : w.there b 0 3) (hi : (P.info? ty).map (·.size) = some 3) (h1 : (#[x0, x1, x2] : Array Value).all (·.oneCell') = true) (hB : Below W.heap.size W w) (hb : W.heap.size ≤ b)
    (hk : ∀ w', w.grownBy w' (some b) → Below W.heap.size W w' → KcL [(b, 0, x0), (b, 1, x1), (b, 2, x2)] w' → ObPl P ops (fun w' => ∃ X, w' = gro W X) l K k (a.put om.dst undef) w') : ObPl P ops (fun w' => ∃ X, w' = gro W X) l K (.make m k) a w := by
  refine ⟨om, hl, .inl ⟨wanted_none hg, ?_⟩⟩
  have e : (execOp a.eval om).run P w = .ok .skip (w.setCells b 0 [x0, x1, x2]) := by
    unfold execOp
    simp only [ho, hx, hy, Instr.storeAt, Instr.sureAddr, Sem.run_bind, Sem.run_pure, Result.andThen_ok, run_storeVar_mid w b 0 ty #[x0, x1, x2] ht hi h1]
  rw [e]
  obtain ⟨u0, e0⟩ := Option.isSome_iff_exists.1 (ht 0 (by omega)).1
  obtain ⟨u1, e1⟩ := Option.isSome_iff_exists.1 (ht 1 (by omega)).1
  obtain ⟨u2, e2⟩ := Option.isSome_iff_exists.1 (ht 2 (by omega)).1
  obtain ⟨t0, t1, t2⟩ := set3 e0 e1 e2 x0 x1 x2
  have hBb : Below W.heap.size W (w.setCells b 0 [x0, x1, x2]) := bst (bst (bst hB hb x0) hb x1) hb x2
  exact ⟨⟨⟨_, hBb⟩, rfl⟩, hk _ (grownBy_setCell3 w b x0 x1 x2) hBb ⟨t0, t1, t2, trivial⟩⟩
end
theorem there_new (w : World) (x y z : Value) (t : TypeId) : (w.alloc (.cells #[x, y, z] t)).there w.heap.size 0 3 := by
  intro j hj
  match j, hj with
  | 0, _ => simp [go_sem]
  | 1, _ => simp [go_sem]
  | 2, _ => simp [go_sem]
theorem there_below {w w' : World} {b : Nat} (hq : Below w.heap.size w w') (hb : b < w.heap.size) (h : w.there b 0 3) : w'.there b 0 3 := fun j hj => by
  rw [hq.cell (p := ⟨b, 0 + j, none⟩) hb, hq.frozen (p := ⟨b, 0 + j, none⟩) hb]; exact h j hj
theorem OwnB.wider {lo hi lo' hi' : Nat} {w : World} {A : Option Addr} {n : Nat} {Z : Nat → Int} (h : OwnB lo hi w A n Z) (h1 : lo' ≤ lo) (h2 : hi ≤ hi') : OwnB lo' hi' w A n Z := by
  rcases h with h | ⟨g, ha, hg1, hg2, hg, hc⟩
  · exact .inl h
  · exact .inr ⟨g, ha, by omega, by omega, hg, hc⟩
end Go.Proofs.Ytjnngijilkdhbaa
