/- What every law over fractions needs: a cell carried over a call; the cells of two boxed numbers. -/
import Derived.Test.YthhmhdiiffmkkaaRatH
namespace Go.Proofs.Ythhmhdiiffmkkaa
set_option linter.unusedVariables false
set_option linter.unusedSimpArgs false
open Go.RowKit
theorem cell_lt {w : World} {a : Addr} {v : Value} (h : w.cell? a = some v) : a.block < w.heap.size := by
  rcases Nat.lt_or_ge a.block w.heap.size with h' | h'
  · exact h'
  · unfold World.cell? at h; rw [Array.getElem?_eq_none h'] at h; cases h
theorem carry {w w1 : World} {b o : Nat} {v : Value} (hq : Below w.heap.size w w1) (h : w.cell? ⟨b, o, none⟩ = some v) : w1.cell? ⟨b, o, none⟩ = some v :=
  (hq.cell (p := ⟨b, o, none⟩) (cell_lt h)).trans h
theorem carryA {w : World} {b o : Nat} {v : Value} (x : Obj) (h : w.cell? ⟨b, o, none⟩ = some v) : (w.alloc x).cell? ⟨b, o, none⟩ = some v :=
  (World.cell?_alloc_lt _ _ _ (cell_lt h)).trans h
/-- the two cells of a new pair -/
theorem pair_new (w : World) (x y : Value) (t : TypeId) : (w.alloc (.cells #[x, y] t)).cell? ⟨w.heap.size, 0, none⟩ = some x ∧ (w.alloc (.cells #[x, y] t)).cell? ⟨w.heap.size, 1, none⟩ = some y := by
  constructor <;> simp [go_sem]

theorem walk_ExactRatOk (n d : Int) (w : World) :
    Calls Try.prog 11 #[.agg #[.int .i64 n, .int .i64 d]] w fun e w' => e = .returned (.bool true) ∧ Below w.heap.size w w' := by
  obtain ⟨c0, c1⟩ := pair_new w (.int .i64 n) (.int .i64 d) 37
  have hb := Below.refl (w.alloc (.cells #[.int .i64 n, .int .i64 d] 37)).heap.size (w.alloc (.cells #[.int .i64 n, .int .i64 d] 37))
  go_enter Try.func11, Try.ntmps11
  go_wp2_with (first | (go_at_call 35; refine (torat_any _ _ _).mono ?_; rintro e w1 ⟨rfl, hq⟩; replace hb := btr hb hq; replace c0 := carry hq c0; replace c1 := carry hq c1) | (go_at_call 24; refine (sok_any _ _ _).mono ?_; rintro e w1 ⟨rfl, hq⟩; replace hb := btr hb hq; replace c0 := carry hq c0; replace c1 := carry hq c1) | (go_at_call 20; refine (ratok_any _ _ _).mono ?_; rintro e w1 ⟨rfl, hq⟩; replace hb := btr hb hq; replace c0 := carry hq c0; replace c1 := carry hq c1))
  go_ret
  exact ⟨rfl, btr (bal (Below.refl _ _) _) hb⟩

theorem walk_ExactRatOf (n d : Int) (w : World) :
    Calls Try.prog 12 #[.int .i64 n, .int .i64 d] w fun e w' => e = .returned (.bool true) ∧ Below w.heap.size w w' := by
  go_enter Try.func12, Try.ntmps12
  go_wp2_with (first | (go_at_call 19; refine (sof_any _ _ _).mono ?_; rintro e w1 ⟨rfl, hq⟩; obtain ⟨p0, p1⟩ := pair_new w1 (.int .i64 (ofR n d).1) (.int .i64 (ofR n d).2.1) 26) | (go_at_call 18; refine (rof_any _ _ _).mono ?_; rintro e w2 ⟨rfl, hq2⟩; replace p0 := carryA (.cells #[.int .i64 (ofR n d).1, .int .i64 (ofR n d).2.1] 26) (carry hq2 p0); replace p1 := carryA (.cells #[.int .i64 (ofR n d).1, .int .i64 (ofR n d).2.1] 26) (carry hq2 p1)) | (go_at_call 36; refine (eqrat_any _ _ _).mono ?_; rintro e w3 ⟨rfl, hq3⟩))
  go_ret
  exact ⟨rfl, btr (bal (btr (bal hq _) hq2) _) hq3⟩
end Go.Proofs.Ythhmhdiiffmkkaa
