/- Contract of the draw of two constraints and two numbers. -/
import Derived.Test.YthcabejfmoedfaaDoorLinDC
import Derived.Test.YthcabejfmoedfaaDoorBD
namespace Go.Proofs.YthcabejfmoedfaaDoor
set_option linter.unusedVariables false
set_option linter.unusedSimpArgs false
open Go.RowKit
def zsP : List Int := [1, 2, 0, 3, 1, -1, 1000000, 9223372036854775807]
def zsQ : List Int := [1, 2, 0, 3, 1, -1, 1000000]
theorem row8P (w : World) (t : TypeId) : ∀ k, k < zsP.length → (w.alloc (.cells #[.int .i64 1, .int .i64 2, .int .i64 0, .int .i64 3, .int .i64 1, .int .i64 (-1), .int .i64 1000000, .int .i64 9223372036854775807] t)).cell? ⟨w.heap.size, k, none⟩ = some (.int .i64 (zsP.getD k 0)) := by
  intro k hk
  simp only [zsP, List.length_cons, List.length_nil] at hk
  have hk' : k = 0 ∨ k = 1 ∨ k = 2 ∨ k = 3 ∨ k = 4 ∨ k = 5 ∨ k = 6 ∨ k = 7 := by omega
  rcases hk' with rfl | rfl | rfl | rfl | rfl | rfl | rfl | rfl <;> simp [go_sem, zsP]
theorem row7Q (w : World) (t : TypeId) : ∀ k, k < zsQ.length → (w.alloc (.cells #[.int .i64 1, .int .i64 2, .int .i64 0, .int .i64 3, .int .i64 1, .int .i64 (-1), .int .i64 1000000] t)).cell? ⟨w.heap.size, k, none⟩ = some (.int .i64 (zsQ.getD k 0)) := by
  intro k hk
  simp only [zsQ, List.length_cons, List.length_nil] at hk
  have hk' : k = 0 ∨ k = 1 ∨ k = 2 ∨ k = 3 ∨ k = 4 ∨ k = 5 ∨ k = 6 := by omega
  rcases hk' with rfl | rfl | rfl | rfl | rfl | rfl | rfl <;> simp [go_sem, zsQ]
theorem run_load3 {P : Program} {o : Oper} {ty : TypeId} {x : Operand} (ho : o.op = .load ty x) {a : Act} {b : Nat} (hx : a.eval x = .pointer (some ⟨b, 0, none⟩)) {d : TypeDesc} (hu : P.underlying ty = some d) (hd : d.isRow = true) (hi : (P.info? ty).map (·.size) = some 3) {x0 x1 x2 : Value} {w : World}
    (h0 : w.cell? ⟨b, 0, none⟩ = some x0) (h1 : w.cell? ⟨b, 1, none⟩ = some x1) (h2 : w.cell? ⟨b, 2, none⟩ = some x2) : (execOp a.eval o).run P w = .ok (.value (.agg #[x0, x1, x2])) w := by
  have hc : w.rangeAt b 0 [x0, x1, x2] := fun j v hv => by
    match j, hv with
    | 0, hv => simp at hv; subst hv; simpa using h0
    | 1, hv => simp at hv; subst hv; simpa using h1
    | 2, hv => simp at hv; subst hv; simpa using h2
    | j + 3, hv => simp at hv
  have hl := run_loadVar_mid (P := P) w b 0 ty [x0, x1, x2] d hc hu hd hi
  unfold execOp
  simp only [ho, hx, Instr.loadAt, Instr.sureAddr, Sem.run_bind, Sem.run_pure, Result.andThen_ok, hl]
theorem planC_store {P : Program} {ops : Array Oper} {l : List Oper} {K : Act → World → Prop} {a : Act} {w : World} {m : Nat} {k : Pl} {om : Oper} {C : World → Prop} (hl : l[m]? = some om) (hg : om.guard = none) (ty : TypeId) (x y : Operand) (ho : om.op = .store ty x y) (b : Nat) (x0 x1 x2 : Value) (hx : a.eval x = .pointer (some ⟨b, 0, none⟩)) (hy : a.eval y = .agg #[x0, x1, x2])
    {u0 u1 u2 : Value} (e0 : w.cell? ⟨b, 0, none⟩ = some u0) (e1 : w.cell? ⟨b, 1, none⟩ = some u1) (e2 : w.cell? ⟨b, 2, none⟩ = some u2) (ff : ∀ o, w.frozen? ⟨b, o, none⟩ = false) (hi : (P.info? ty).map (·.size) = some 3) (h1 : (#[x0, x1, x2] : Array Value).all (·.oneCell') = true)
    (hk : ∀ w', w.grownBy w' (some b) → KcL [(b, 0, x0), (b, 1, x1), (b, 2, x2)] w' → C w' ∧ ObPl P ops C l K k (a.put om.dst undef) w') : ObPl P ops C l K (.make m k) a w := by
  refine ⟨om, hl, .inl ⟨wanted_none hg, ?_⟩⟩
  have ht : w.there b 0 3 := fun j hj => by
    match j, hj with
    | 0, _ => exact ⟨by rw [e0]; rfl, ff _⟩
    | 1, _ => exact ⟨by rw [e1]; rfl, ff _⟩
    | 2, _ => exact ⟨by rw [e2]; rfl, ff _⟩
  have e : (execOp a.eval om).run P w = .ok .skip (w.setCells b 0 [x0, x1, x2]) := by
    unfold execOp
    simp only [ho, hx, hy, Instr.storeAt, Instr.sureAddr, Sem.run_bind, Sem.run_pure, Result.andThen_ok, run_storeVar_mid w b 0 ty #[x0, x1, x2] ht hi h1]
  rw [e]
  obtain ⟨t0, t1, t2⟩ := set3 e0 e1 e2 x0 x1 x2
  exact hk _ (grownBy_setCell3 w b x0 x1 x2) ⟨t0, t1, t2, trivial⟩
theorem frz {w w' : World} {b : Nat} {row : Option Nat} (hg : w.grownBy w' row) (hb : b < w.heap.size) (hr : some b ≠ row) (ff : ∀ o, w.frozen? ⟨b, o, none⟩ = false) : ∀ o, w'.frozen? ⟨b, o, none⟩ = false := fun o =>
  (World.frozen?_of_block (w := w) (a := ⟨b, o, none⟩) (hg.block b hb hr)).trans (ff o)
/-- two drawn constraints and two numbers -/
def SumD (w : World) (e : Ending) (w' : World) : Prop :=
  ∃ A n c Z b s m A2 n2 c2 Z2 b2 s2 k, e = .returned (.tuple #[.agg #[.slice A n c, .int .i64 b, .bool s], .int .i64 m, .agg #[.slice A2 n2 c2, .int .i64 b2, .bool s2], .int .i64 k]) ∧ n ≤ 5 ∧ n2 ≤ 5 ∧ Ints w' A n Z ∧ Ints w' A2 n2 Z2 ∧ m ∈ zsP ∧ k ∈ zsQ ∧ Below w.heap.size w w'
end Go.Proofs.YthcabejfmoedfaaDoor
