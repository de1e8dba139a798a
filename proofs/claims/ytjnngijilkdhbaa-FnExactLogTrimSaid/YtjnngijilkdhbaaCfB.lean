/- The program's set of literals: has and add. -/
import Derived.Test.YtjnngijilkdhbaaCfA
import Derived.Test.YtjnngijilkdhbaaPlanB
import Derived.BigQuiet
namespace Go.Proofs.Ytjnngijilkdhbaa
set_option linter.unusedVariables false
set_option linter.unusedSimpArgs false
open Go.RowKit
/-- a set of literals in block b -/
def MSet (w : World) (b : Nat) (S : Nat → Int) : Prop := w.rowIs b 58 61 (fun u => .int .i64 (S u))
set_option maxHeartbeats 2000000 in
theorem has_any (b : Nat) (S : Nat → Int) (x : Int) (v : Nat) (w : World) (hS : MSet w b S) (hx : -9223372036854775807 ≤ x ∧ x ≤ 9223372036854775807) (hv : vrC x = (v : Int)) (hv1 : v ≤ 60) :
    Calls Try.prog 61 #[.pointer (some ⟨b, 0, none⟩), .int .i64 x] w fun e w' => e = .returned (.bool (S v == x)) ∧ Below w.heap.size w w' := by
  have hlt := hS.lt
  have c0 : w.cell? ⟨b, v, none⟩ = some (.int .i64 (S v)) := hS.cell (by omega)
  have hV := fun X : Gro w => (variable_any x (gro w X) hx).mono fun e w' h => (⟨h.1.trans (by rw [hv]), h.2 ▸ Below.refl _ _⟩ : e = .returned (.int .i64 (v : Int)) ∧ Below (gro w X).heap.size (gro w X) w')
  have gc := @gro_cell w
  clear hS
  go_enter Try.func61, Try.ntmps61
  go_upto_region 1 with fail
  refine wp_region_grow_lit (by kernel_rfl) (by kernel_rfl) ?_
  repeat (go_big_quiet_step ((go_at_call 55; exact grow_call _ (hV _))))
  refine wpQuiet_nil ?_
  rintro _ ⟨X, rfl⟩
  clear gc
  go_wp2
  go_ret
  exact ⟨rfl, X.h⟩
set_option maxHeartbeats 2000000 in
theorem add_any (b : Nat) (S : Nat → Int) (x : Int) (v : Nat) (w : World) (hS : MSet w b S) (hx : -9223372036854775807 ≤ x ∧ x ≤ 9223372036854775807) (hv : vrC x = (v : Int)) (hv1 : v ≤ 60) :
    Calls Try.prog 56 #[.pointer (some ⟨b, 0, none⟩), .int .i64 x] w fun e w' => e = .returned (.tuple #[]) ∧ ∃ w1, Below w.heap.size w w1 ∧ w' = w1.setCell ⟨b, v, none⟩ (.int .i64 x) := by
  have hlt := hS.lt
  have c0 : w.cell? ⟨b, v, none⟩ = some (.int .i64 (S v)) := hS.cell (by omega)
  have f0 : w.frozen? ⟨b, v, none⟩ = false := hS.frozen v
  have hV := fun X : Gro w => (variable_any x (gro w X) hx).mono fun e w' h => (⟨h.1.trans (by rw [hv]), h.2 ▸ Below.refl _ _⟩ : e = .returned (.int .i64 (v : Int)) ∧ Below (gro w X).heap.size (gro w X) w')
  have gc := @gro_cell w
  clear hS
  go_enter Try.func56, Try.ntmps56
  go_upto_region 0 with fail
  refine region_grow_tail 6 (by kernel_rfl) (by kernel_rfl) ?_; simp only [List.take_succ_cons, List.take_zero, List.drop_succ_cons, List.drop_zero]; (repeat (go_big_quiet_step ((go_at_call 55; exact grow_call _ (hV _))))); refine wpQuiet_nil ?_
  intro w1 hq
  clear gc
  have d0 := carry hq c0
  have g0 := carryf hq f0 hlt
  go_wp2
  go_end0
  exact ⟨rfl, w1, hq, rfl⟩
theorem zeros61 : (#[.int .i64 0, .int .i64 0, .int .i64 0, .int .i64 0, .int .i64 0, .int .i64 0, .int .i64 0, .int .i64 0, .int .i64 0, .int .i64 0, .int .i64 0, .int .i64 0, .int .i64 0, .int .i64 0, .int .i64 0, .int .i64 0, .int .i64 0, .int .i64 0, .int .i64 0, .int .i64 0, .int .i64 0, .int .i64 0, .int .i64 0, .int .i64 0, .int .i64 0, .int .i64 0, .int .i64 0, .int .i64 0, .int .i64 0, .int .i64 0, .int .i64 0, .int .i64 0, .int .i64 0, .int .i64 0, .int .i64 0, .int .i64 0, .int .i64 0, .int .i64 0, .int .i64 0, .int .i64 0, .int .i64 0, .int .i64 0, .int .i64 0, .int .i64 0, .int .i64 0, .int .i64 0, .int .i64 0, .int .i64 0, .int .i64 0, .int .i64 0, .int .i64 0, .int .i64 0, .int .i64 0, .int .i64 0, .int .i64 0, .int .i64 0, .int .i64 0, .int .i64 0, .int .i64 0, .int .i64 0, .int .i64 0] : Array Value) = (List.replicate 61 (.int .i64 0)).toArray := rfl
theorem rowIs_rep (w : World) (n : Nat) (v : Value) (t : TypeId) : (w.alloc (.cells (List.replicate n v).toArray t)).rowIs w.heap.size t n (fun _ => v) :=
  ⟨_, Deep.blk_alloc_new _ _, by simp, fun i hi => by simp [hi]⟩
theorem mset_new (w : World) : MSet (w.alloc (.cells #[.int .i64 0, .int .i64 0, .int .i64 0, .int .i64 0, .int .i64 0, .int .i64 0, .int .i64 0, .int .i64 0, .int .i64 0, .int .i64 0, .int .i64 0, .int .i64 0, .int .i64 0, .int .i64 0, .int .i64 0, .int .i64 0, .int .i64 0, .int .i64 0, .int .i64 0, .int .i64 0, .int .i64 0, .int .i64 0, .int .i64 0, .int .i64 0, .int .i64 0, .int .i64 0, .int .i64 0, .int .i64 0, .int .i64 0, .int .i64 0, .int .i64 0, .int .i64 0, .int .i64 0, .int .i64 0, .int .i64 0, .int .i64 0, .int .i64 0, .int .i64 0, .int .i64 0, .int .i64 0, .int .i64 0, .int .i64 0, .int .i64 0, .int .i64 0, .int .i64 0, .int .i64 0, .int .i64 0, .int .i64 0, .int .i64 0, .int .i64 0, .int .i64 0, .int .i64 0, .int .i64 0, .int .i64 0, .int .i64 0, .int .i64 0, .int .i64 0, .int .i64 0, .int .i64 0, .int .i64 0, .int .i64 0] 58)) w.heap.size (fun _ => 0) := by
  rw [zeros61]
  exact rowIs_rep w 61 (.int .i64 0) 58
end Go.Proofs.Ytjnngijilkdhbaa
