/- Contract of the program's LinRead. -/
import Derived.Test.YtcnlolocppbcjaaDoorLdM
import Derived.Test.YtcnlolocppbcjaaDoorRdB
import Derived.Test.YtcnlolocppbcjaaDoorLinO
namespace Go.Proofs.YtcnlolocppbcjaaDoor
set_option linter.unusedVariables false
set_option linter.unusedSimpArgs false
open Go.Shelf Go.RowKit Go.Joins
set_option maxRecDepth 100000 in
theorem scan_new (s : ByteArray) (w : World) :
    Calls Tryd.prog 24 #[.string s] w fun e w' => e = .returned (.func (.func 35) #[] #[.pointer (some ⟨w.heap.size, 0, none⟩)]) ∧ w' = w.alloc (.cells #[.string s] 9) := by
  go_enter Tryd.func24, Tryd.ntmps24
  go_wp2
  go_ret
  exact ⟨rfl, rfl⟩
set_option maxRecDepth 100000 in
theorem next_any (b : Nat) (t : List UInt8) (w : World) (hz : t.length ≤ 1048576) (hc : w.cell? ⟨b, 0, none⟩ = some (.string ⟨t.toArray⟩)) (hf : w.frozen? ⟨b, 0, none⟩ = false) (hm : MaxAt w) :
    Calls Tryd.prog 35 #[.pointer (some ⟨b, 0, none⟩)] w fun e w' => e = .returned (.string ⟨(Lib.cut t [32]).1.toArray⟩) ∧ ∃ u, Below w.heap.size w u ∧ w' = u.setCell ⟨b, 0, none⟩ (.string ⟨(Lib.cut t [32]).2.1.toArray⟩) := by
  have hC := strcut_at ⟨t.toArray⟩ 32 w hz hm
  have hbl : (⟨t.toArray⟩ : ByteArray).data.toList = t := bytes_list
  rw [hbl] at hC
  generalize Lib.cut t [32] = X at hC ⊢
  obtain ⟨u1, v1, f1⟩ := X
  simp only at hC ⊢
  have hlt := cell_lt hc
  go_enter Tryd.func35, Tryd.ntmps35
  go_wp2_with fail
  refine hC.mono ?_
  rintro e w1 ⟨rfl, hq⟩
  have hc1 := carry hq hc
  have hf1 := carryf hq hf hlt
  go_wp2
  go_ret
  exact ⟨rfl, w1, hq, rfl⟩
/-- the box of the text and the row of the numbers -/
def LSt (X C : Nat) (l : List UInt8) (k m : Nat) (w : World) : Prop :=
  w.cell? ⟨X, 0, none⟩ = some (.string ⟨(restL l m).toArray⟩) ∧ w.frozen? ⟨X, 0, none⟩ = false ∧ ∀ j, j < 4 → w.cell? ⟨C, j, none⟩ = some (.int .i64 (if j < k then numW (wordL l j) else 0)) ∧ w.frozen? ⟨C, j, none⟩ = false
theorem LSt.below {X C : Nat} {l : List UInt8} {k m : Nat} {w w' : World} (h : LSt X C l k m w) (hq : Below w.heap.size w w') : LSt X C l k m w' :=
  ⟨carry hq h.1, carryf hq h.2.1 (cell_lt h.1), fun j hj => ⟨carry hq (h.2.2 j hj).1, carryf hq (h.2.2 j hj).2 (cell_lt (h.2.2 j hj).1)⟩⟩
theorem LSt.next {X C : Nat} {l : List UInt8} {k m : Nat} {w : World} (hX : X ≠ C) (h : LSt X C l k m w) : LSt X C l k (m + 1) (w.setCell ⟨X, 0, none⟩ (.string ⟨(Lib.cut (restL l m) [32]).2.1.toArray⟩)) :=
  ⟨World.cell?_setCell_same _ _ _ h.1, by simpa [go_sem] using h.2.1, fun j hj => ⟨by rw [World.cell?_setCell_other _ _ _ _ (by simp <;> omega)]; exact (h.2.2 j hj).1, by simpa [go_sem] using (h.2.2 j hj).2⟩⟩
theorem LSt.put {X C : Nat} {l : List UInt8} {k m : Nat} {w : World} (hX : X ≠ C) (hk : k < 4) (h : LSt X C l k m w) : LSt X C l (k + 1) m (w.setCell ⟨C, k, none⟩ (.int .i64 (numW (wordL l k)))) := by
  refine ⟨by rw [World.cell?_setCell_other _ _ _ _ (by simp <;> omega)]; exact h.1, by simpa [go_sem] using h.2.1, fun j hj => ⟨?_, by simpa [go_sem] using (h.2.2 j hj).2⟩⟩
  by_cases hjk : j = k
  · subst hjk
    rw [World.cell?_setCell_same _ _ _ (h.2.2 j hj).1, if_pos (by omega)]
  · rw [World.cell?_setCell_other _ _ _ _ (by simp <;> omega), (h.2.2 j hj).1]
    by_cases h1 : j < k
    · rw [if_pos h1, if_pos (by omega)]
    · rw [if_neg h1, if_neg (by omega)]
/-- the result's block -/
def RSt (R : Nat) (w : World) : Prop :=
  w.cell? ⟨R, 0, none⟩ = some (.slice none 0 0) ∧ w.cell? ⟨R, 1, none⟩ = some (.int .i64 0) ∧ w.cell? ⟨R, 2, none⟩ = some (.bool false) ∧ w.frozen? ⟨R, 0, none⟩ = false ∧ w.frozen? ⟨R, 1, none⟩ = false ∧ w.frozen? ⟨R, 2, none⟩ = false
theorem RSt.below {R : Nat} {w w' : World} (h : RSt R w) (hq : Below w.heap.size w w') : RSt R w' :=
  ⟨carry hq h.1, carry hq h.2.1, carry hq h.2.2.1, carryf hq h.2.2.2.1 (cell_lt h.1), carryf hq h.2.2.2.2.1 (cell_lt h.1), carryf hq h.2.2.2.2.2 (cell_lt h.1)⟩
theorem RSt.set {R p o : Nat} {w : World} (v : Value) (hp : p ≠ R) (h : RSt R w) : RSt R (w.setCell ⟨p, o, none⟩ v) :=
  ⟨by rw [World.cell?_setCell_other _ _ _ _ (by simp <;> omega)]; exact h.1, by rw [World.cell?_setCell_other _ _ _ _ (by simp <;> omega)]; exact h.2.1, by rw [World.cell?_setCell_other _ _ _ _ (by simp <;> omega)]; exact h.2.2.1, by simpa [go_sem] using h.2.2.2.1, by simpa [go_sem] using h.2.2.2.2.1, by simpa [go_sem] using h.2.2.2.2.2⟩
theorem str60L (l : List UInt8) : (l == [60]) = decide (l = [60]) := by
  rw [Bool.eq_iff_iff]
  simp only [beq_iff_eq, decide_eq_true_eq]
theorem own_set3 {w w7 : World} {n C X : Nat} {Z : Nat → Int} (hx0 : w.heap.size < X) (hC : X + 1 = C) (h : OwnI w w7 (some ⟨C, 0, none⟩) n Z) (a b c : Value) :
    OwnI w (((w7.setCell ⟨w.heap.size, 0, none⟩ a).setCell ⟨w.heap.size, 1, none⟩ b).setCell ⟨w.heap.size, 2, none⟩ c) (some ⟨C, 0, none⟩) n Z := by
  rcases h with h | ⟨g, e, h1, h2, h3⟩
  · exact .inl h
  · obtain rfl : C = g := by simpa using e
    exact .inr ⟨C, rfl, h1, by simpa using h2, fun k hk => ⟨by rw [World.cell?_setCell_other _ _ _ _ (by simp <;> omega), World.cell?_setCell_other _ _ _ _ (by simp <;> omega), World.cell?_setCell_other _ _ _ _ (by simp <;> omega)]; exact (h3 k hk).1, by simpa [go_sem] using (h3 k hk).2⟩⟩
theorem ld_need {s : ByteArray} {Z : Nat → Int} {b : Int} {st : Bool} (h : LdOk s Z b st) : (∀ k, k < 4 → ∃ v, Lib.atoiAll (wordL s.data.toList k) = .ok v) ∧ (∃ v, Lib.atoiAll (wordL s.data.toList 5) = .ok v) ∧ (∀ k, k < 4 → numW (wordL s.data.toList k) = Z k) ∧ numW (wordL s.data.toList 5) = b ∧ decide (wordL s.data.toList 4 = [60]) = st := by
  obtain ⟨h1, h2, h3⟩ := ld_atoi h
  exact ⟨fun k hk => ⟨_, h1 k hk⟩, ⟨_, h3⟩, fun k hk => numW_ok (h1 k hk), numW_ok h3, h2⟩
theorem ld_none {s : ByteArray} (h : (⟨([] : List UInt8).toArray⟩ : ByteArray) = s) : Lib.atoiAll (wordL s.data.toList 0) ≠ .ok 0 ∧ ∀ v, Lib.atoiAll (wordL s.data.toList 0) ≠ .ok v := by
  subst h
  constructor
  · intro e; cases e
  · intro v e; cases e
end Go.Proofs.YtcnlolocppbcjaaDoor
