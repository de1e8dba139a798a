/- Contracts of the model's l2Vals, l2Sum. -/
import Derived.Test.YtppiaclpholbfaaLinX
import Derived.Test.YtppiaclpholbfaaPlanB
import Derived.Test.YtppiaclpholbfaaBI
namespace Go.Proofs.Ytppiaclpholbfaa
set_option linter.unusedVariables false
set_option linter.unusedSimpArgs false
open Go.RowKit
section
variable {P : Program} {ops : Array Oper} {l : List Oper} {K : Act → World → Prop} {a : Act} {w W : World} {m : Nat} {k : Pl} {om : Oper}
theorem plan_store2 (hl : l[m]? = some om) (hg : om.guard = none) (ty : TypeId) (x y : Operand) (ho : om.op = .store ty x y) (b : Nat) (x0 x1 : Value) (hx : a.eval x = .pointer (some ⟨b, 0, none⟩)) (hy : a.eval y = .agg #[x0, x1])
    (ht : w.there b 0 2) (hi : (P.info? ty).map (·.size) = some 2) (h1 : (#[x0, x1] : Array Value).all (·.oneCell') = true) (hB : Below W.heap.size W w) (hb : W.heap.size ≤ b)
    (hk : ∀ w', w.grownBy w' (some b) → Below W.heap.size W w' → w'.cell? ⟨b, 0, none⟩ = some x0 → w'.cell? ⟨b, 1, none⟩ = some x1 → ObPl P ops (fun w' => ∃ X, w' = gro W X) l K k (a.put om.dst undef) w') : ObPl P ops (fun w' => ∃ X, w' = gro W X) l K (.make m k) a w := by
  refine ⟨om, hl, .inl ⟨wanted_none hg, ?_⟩⟩
  have e : (execOp a.eval om).run P w = .ok .skip (w.setCells b 0 [x0, x1]) := by
    unfold execOp
    simp only [ho, hx, hy, Instr.storeAt, Instr.sureAddr, Sem.run_bind, Sem.run_pure, Result.andThen_ok, run_storeVar_mid w b 0 ty #[x0, x1] ht hi h1]
  rw [e]
  obtain ⟨u0, e0⟩ := Option.isSome_iff_exists.1 (ht 0 (by omega)).1
  obtain ⟨u1, e1⟩ := Option.isSome_iff_exists.1 (ht 1 (by omega)).1
  obtain ⟨t0, t1⟩ := set2 e0 e1 x0 x1
  have hBb : Below W.heap.size W (w.setCells b 0 [x0, x1]) := bst (bst hB hb x0) hb x1
  exact ⟨⟨⟨_, hBb⟩, rfl⟩, hk _ (grow_trans (grow_set w b 0 x0) (grow_set _ b 1 x1)) hBb t0 t1⟩
end
theorem there2_new (w : World) (x y : Value) (t : TypeId) : (w.alloc (.cells #[x, y] t)).there w.heap.size 0 2 := by
  intro j hj
  match j, hj with
  | 0, _ => simp [go_sem]
  | 1, _ => simp [go_sem]
/-- what the model's sum answers: the sum if it can be told -/
def SlP (w : World) (r : Int × Int × Bool) (e : Ending) (w' : World) : Prop := ∃ x y, e = .returned (.tuple #[.agg #[.int .i64 x, .int .i64 y], .bool r.2.2]) ∧ (r.2.2 = true → r = (x, y, true)) ∧ Below w.heap.size w w'
theorem SlP.no {w w' : World} {r : Int × Int × Bool} {x y : Int} (h : r = (0, 0, false)) (hb : Below w.heap.size w w') : SlP w r (.returned (.tuple #[.agg #[.int .i64 x, .int .i64 y], .bool false])) w' := by
  subst h; exact ⟨x, y, rfl, (fun e => by simp at e), hb⟩
theorem SlP.yes {w w' : World} {r : Int × Int × Bool} {x y : Int} (h : r = (x, y, true)) (hb : Below w.heap.size w w') : SlP w r (.returned (.tuple #[.agg #[.int .i64 x, .int .i64 y], .bool true])) w' := by
  subst h; exact ⟨x, y, rfl, fun _ => rfl, hb⟩
end Go.Proofs.Ytppiaclpholbfaa
