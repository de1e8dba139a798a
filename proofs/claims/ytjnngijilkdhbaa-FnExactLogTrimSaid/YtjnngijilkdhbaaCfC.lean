/- Contract of the program's ClauseOf. -/
import Derived.Test.YtjnngijilkdhbaaCfB
import Derived.Deep.MidRow
import Derived.Laws.AppendOwn
import Derived.Laws.OwnMore
import Derived.Maps.AppendAt
import Derived.Test.YtjnngijilkdhbaaBL
namespace Go.Proofs.Ytjnngijilkdhbaa
set_option linter.unusedVariables false
set_option linter.unusedSimpArgs false
open Go.RowKit
def csS (S : Nat → Int) : List Value := (List.range 61).map (fun u => .int .i64 (S u))
theorem csS_len (S : Nat → Int) : (csS S).length = 61 := by unfold csS; rw [List.length_map, List.length_range]
theorem csS_at {S : Nat → Int} {k : Nat} (hk : k < 61) : (csS S)[k]? = some (.int .i64 (S k)) := by
  unfold csS; rw [List.getElem?_map, List.getElem?_range hk]; rfl
theorem run_index61 (S : Nat → Int) (k : Nat) (hk : k < 61) (w : World) : (Instr.index 58 (.agg (csS S).toArray) (.int .i64 (k : Int))).run Try.prog w = .ok (.int .i64 (S k)) w := by
  have h1 := csS_at (S := S) hk
  have h2 : (0 : Int) ≤ k ∧ (k : Int) < 61 := by omega
  generalize csS S = cs at *
  have u3 := Try.underlying52
  have z3 := Try.sizeOf52
  simp [Instr.index, run_underlying Try.underlying58, asIntOf, h2, go_sem, z3, u3, h1, hk]
theorem wpList_val {P : Program} {ops : Array Oper} {rest : List Oper} {o : Oper} {a : Act} {w : World} {Q : Exit → Act → World → Prop} (hgd : o.guard = none) {v : Value} (hr : (execOp a.eval o).run P w = .ok (.value v) w) (h : wpList P ops Q rest (a.put o.dst v) w) : wpList P ops Q (o :: rest) a w := by
  refine wpList_plain hgd fun K hK => ?_
  unfold Oper.wp
  simp only [hr]
  exact hK _ _ h
theorem loaded {P : Program} {o : Oper} {ty : TypeId} {x : Operand} (ho : o.op = .load ty x) {a : Act} {p : Addr} (hx : a.eval x = .pointer (some p)) {v : Value} {w : World} (hl : (loadVar ty p).run P w = .ok v w) : (execOp a.eval o).run P w = .ok (.value v) w := by
  unfold execOp
  simp only [ho, hx, Instr.loadAt, Instr.sureAddr, Sem.run_bind, Sem.run_pure, Result.andThen_ok, hl]
theorem indexed {P : Program} {o : Oper} {ty : TypeId} {x i : Operand} (ho : o.op = .index ty x i) {a : Act} {v : Value} {w : World} (hl : (Instr.index ty (a.eval x) (a.eval i)).run P w = .ok v w) : (execOp a.eval o).run P w = .ok (.value v) w := by
  unfold execOp
  simp only [ho, Sem.run_bind, hl, Result.andThen_ok, Sem.run_pure]
def valsI (l : List Int) : List Value := l.map fun z => Value.int .i64 z
theorem valsI_at {l : List Int} {k : Nat} (h : k < l.length) : (valsI l)[k]? = some (.int .i64 (l.getD k 0)) := by
  unfold valsI; rw [List.getElem?_map, List.getElem?_eq_getElem h, List.getD_eq_getElem?_getD, List.getElem?_eq_getElem h]; rfl
theorem own_intsC {W w : World} {base : Nat} {e : TypeId} {v : Value} {l : List Int} (hB : W.heap.size ≤ base) (h : w.ownsRow base e 1 v l.length (valsI l)) : ∃ A c, v = .slice A l.length c ∧ OwnI W w A l.length (fun k => l.getD k 0) := by
  have h0 := h
  obtain ⟨hl, ⟨rfl, h⟩ | ⟨g, cap, cur, rfl, hg, hh, h1, h2, h3, h4⟩⟩ := h
  · rw [h]; exact ⟨none, 0, rfl, .inl rfl⟩
  · refine ⟨_, cap, rfl, ?_⟩
    by_cases hn : l.length = 0
    · exact .inl hn
    · exact .inr ⟨g, rfl, by omega, World.block_lt_of_cell? w ⟨g, 0, none⟩ (h0.cellAt 0 (by omega) |>.trans (valsI_at (by omega))), fun k hk => ⟨(h0.cellAt k (by omega)).trans (valsI_at hk), h0.frozenAt k⟩⟩
theorem vrC_neg (x : Int) : vrC (-x) = vrC x := by unfold vrC; split <;> split <;> omega
end Go.Proofs.Ytjnngijilkdhbaa
