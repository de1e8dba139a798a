/- Contracts of the program's RatAdd and RatMul. -/
import Derived.Test.YtbdmofmoegmigaaRatD
import Derived.Deep.RegionHeld3
namespace Go.Proofs.Ytbdmofmoegmigaa
set_option linter.unusedVariables false
set_option linter.unusedSimpArgs false
open Go.RowKit
theorem and9 {p1 p2 p3 p4 p5 p6 p7 p8 p9 q : Prop} (h : p1 ∧ p2 ∧ p3 ∧ p4 ∧ p5 ∧ p6 ∧ p7 ∧ p8 ∧ p9 ∧ q) : q := h.2.2.2.2.2.2.2.2.2
theorem keep2 {a b c d : Int} {w w' : World} (h : Below (((w.alloc (.cells #[.int .i64 a, .int .i64 b] 62)).alloc (.cells #[.int .i64 c, .int .i64 d] 62)).alloc (.cells #[.int .i64 0, .int .i64 0] 62)).heap.size (((w.alloc (.cells #[.int .i64 a, .int .i64 b] 62)).alloc (.cells #[.int .i64 c, .int .i64 d] 62)).alloc (.cells #[.int .i64 0, .int .i64 0] 62)) w') :
    w'.cell? ⟨w.heap.size, 0, none⟩ = some (.int .i64 a) ∧ w'.cell? ⟨w.heap.size, 1, none⟩ = some (.int .i64 b) ∧ w'.cell? ⟨w.heap.size + 1, 0, none⟩ = some (.int .i64 c) ∧ w'.cell? ⟨w.heap.size + 1, 1, none⟩ = some (.int .i64 d)
      ∧ w'.cell? ⟨w.heap.size + 1 + 1, 0, none⟩ = some (.int .i64 0) ∧ w'.cell? ⟨w.heap.size + 1 + 1, 1, none⟩ = some (.int .i64 0) ∧ w'.frozen? ⟨w.heap.size + 1 + 1, 0, none⟩ = false ∧ w'.frozen? ⟨w.heap.size + 1 + 1, 1, none⟩ = false
      ∧ w.heap.size + 2 < w'.heap.size ∧ Below (((w.alloc (.cells #[.int .i64 a, .int .i64 b] 62)).alloc (.cells #[.int .i64 c, .int .i64 d] 62)).alloc (.cells #[.int .i64 0, .int .i64 0] 62)).heap.size (((w.alloc (.cells #[.int .i64 a, .int .i64 b] 62)).alloc (.cells #[.int .i64 c, .int .i64 d] 62)).alloc (.cells #[.int .i64 0, .int .i64 0] 62)) w' := by
  obtain ⟨hc, hf⟩ := bcell h
  refine ⟨?_, ?_, ?_, ?_, ?_, ?_, ?_, ?_, ?_, h⟩
  · rw [hc _ _ (by simp <;> omega)]; simp [go_sem]
  · rw [hc _ _ (by simp <;> omega)]; simp [go_sem]
  · rw [hc _ _ (by simp <;> omega)]; simp [go_sem]
  · rw [hc _ _ (by simp <;> omega)]; simp [go_sem]
  · rw [hc _ _ (by simp <;> omega)]; simp [go_sem]
  · rw [hc _ _ (by simp <;> omega)]; simp [go_sem]
  · rw [hf _ _ (by simp <;> omega)]; simp [go_sem]
  · rw [hf _ _ (by simp <;> omega)]; simp [go_sem]
  · have := h.size; first | omega | (simp at this; omega)

def rd (w : World) (b o : Nat) : Value := (w.cell? ⟨b, o, none⟩).getD undef
theorem rd_some {w : World} {b o : Nat} (h : (w.cell? ⟨b, o, none⟩).isSome = true) : w.cell? ⟨b, o, none⟩ = some (rd w b o) := by
  unfold rd; cases hc : w.cell? ⟨b, o, none⟩ with
  | none => rw [hc] at h; cases h
  | some u => rfl
def S2 (a b c d : Int) (w w' : World) : Prop := w'.cell? ⟨w.heap.size, 0, none⟩ = some (.int .i64 a) ∧ w'.cell? ⟨w.heap.size, 1, none⟩ = some (.int .i64 b) ∧ w'.cell? ⟨w.heap.size + 1, 0, none⟩ = some (.int .i64 c) ∧ w'.cell? ⟨w.heap.size + 1, 1, none⟩ = some (.int .i64 d)
      ∧ w'.cell? ⟨w.heap.size + 1 + 1, 0, none⟩ = some (rd w' (w.heap.size + 1 + 1) 0) ∧ w'.cell? ⟨w.heap.size + 1 + 1, 1, none⟩ = some (rd w' (w.heap.size + 1 + 1) 1) ∧ w'.frozen? ⟨w.heap.size + 1 + 1, 0, none⟩ = false ∧ w'.frozen? ⟨w.heap.size + 1 + 1, 1, none⟩ = false
      ∧ w.heap.size + 2 < w'.heap.size ∧ Below w.heap.size w w'
theorem S2.start {a b c d : Int} {w w' : World} (h : Below (((w.alloc (.cells #[.int .i64 a, .int .i64 b] 62)).alloc (.cells #[.int .i64 c, .int .i64 d] 62)).alloc (.cells #[.int .i64 0, .int .i64 0] 62)).heap.size (((w.alloc (.cells #[.int .i64 a, .int .i64 b] 62)).alloc (.cells #[.int .i64 c, .int .i64 d] 62)).alloc (.cells #[.int .i64 0, .int .i64 0] 62)) w') : S2 a b c d w w' := by
  obtain ⟨k0, k1, k2, k3, k4, k5, k6, k7, k8, _⟩ := keep2 h
  exact ⟨k0, k1, k2, k3, rd_some (by rw [k4]; rfl), rd_some (by rw [k5]; rfl), k6, k7, k8, btr (bal (bal (bal (Below.refl _ _) _) _) _) h⟩
theorem S2.call {a b c d : Int} {w w' w1 : World} (hq : Below w'.heap.size w' w1) (h : S2 a b c d w w') : S2 a b c d w w1 := by
  obtain ⟨k0, k1, k2, k3, k4, k5, k6, k7, k8, k9⟩ := h
  obtain ⟨hc, hf⟩ := bcell hq
  refine ⟨?_, ?_, ?_, ?_, rd_some ?_, rd_some ?_, ?_, ?_, ?_, btr k9 hq⟩
  · rw [hc _ _ (by omega)]; exact k0
  · rw [hc _ _ (by omega)]; exact k1
  · rw [hc _ _ (by omega)]; exact k2
  · rw [hc _ _ (by omega)]; exact k3
  · rw [hc _ _ (by omega), k4]; rfl
  · rw [hc _ _ (by omega), k5]; rfl
  · rw [hf _ _ (by omega)]; exact k6
  · rw [hf _ _ (by omega)]; exact k7
  · have := hq.size; omega
theorem S2.store {a b c d : Int} {w w' : World} (h : S2 a b c d w w') (x y : Value) : S2 a b c d w ((w'.setCell ⟨w.heap.size + 1 + 1, 0, none⟩ x).setCell ⟨w.heap.size + 1 + 1, 1, none⟩ y) := by
  obtain ⟨k0, k1, k2, k3, k4, k5, k6, k7, k8, k9⟩ := h
  obtain ⟨t0, t1⟩ := two_cells k4 k5
  refine ⟨?_, ?_, ?_, ?_, rd_some ?_, rd_some ?_, ?_, ?_, ?_, bst (bst k9 (by simp <;> omega) _) (by simp <;> omega) _⟩
  · rw [World.cell?_setCell_other _ _ _ _ (by simp), World.cell?_setCell_other _ _ _ _ (by simp)]; exact k0
  · rw [World.cell?_setCell_other _ _ _ _ (by simp), World.cell?_setCell_other _ _ _ _ (by simp)]; exact k1
  · rw [World.cell?_setCell_other _ _ _ _ (by simp), World.cell?_setCell_other _ _ _ _ (by simp)]; exact k2
  · rw [World.cell?_setCell_other _ _ _ _ (by simp), World.cell?_setCell_other _ _ _ _ (by simp)]; exact k3
  · rw [t0]; rfl
  · rw [t1]; rfl
  · simpa [go_sem] using k6
  · simpa [go_sem] using k7
  · simpa [World.setCell] using k8

theorem radd_any (a b c d : Int) (w : World) :
    Calls Try.prog 128 #[.agg #[.int .i64 a, .int .i64 b], .agg #[.int .i64 c, .int .i64 d]] w fun e w' => e = .returned (.tuple #[.agg #[.int .i64 (addR a b c d).1, .int .i64 (addR a b c d).2.1], .bool (addR a b c d).2.2]) ∧ Below w.heap.size w w' := by
  cases h1 : okB a b
  · rw [add_no (by simp [h1])]
    go_enter Try.func128, Try.ntmps128
    go_wp2_with (first | (go_at_call 118; refine (valid_any _ _ _).mono ?_; rintro e w1 ⟨rfl, hb⟩; obtain ⟨hc, hf⟩ := bcell hb; have hz : w.heap.size + 2 < w1.heap.size := by have := hb.size; first | omega | (simp at this; omega)))
    obtain ⟨_, _, _, _, e0, e1, _⟩ := keep2 hb
    obtain ⟨t0, t1⟩ := two_cells e0 e1
    refine bodyPost_ret (v := .tuple #[.agg #[.int .i64 0, .int .i64 0], .bool false]) (by simp [results, Try.results128, go_sem, t0, t1]) rfl ⟨rfl, ?_⟩
    exact bst (bst (btr (bal (bal (bal (Below.refl _ _) _) _) _) hb) (by simp <;> omega) _) (by simp <;> omega) _
  · cases h2 : okB c d
    · rw [add_no (by simp [h2])]
      go_enter Try.func128, Try.ntmps128
      go_wp2_with fail
      refine (valid_any _ _ _).mono ?_
      rintro e w1 ⟨rfl, hb⟩
      obtain ⟨hc, hf⟩ := bcell hb
      have hz : w.heap.size + 2 < w1.heap.size := by have := hb.size; first | omega | (simp at this; omega)
      go_wp2_with (first | (go_at_call 118; refine (valid_any _ _ _).mono ?_; rintro e w2 ⟨rfl, hq⟩; have hb2 := btr hb hq; obtain ⟨hc2, hf2⟩ := bcell hb2; have hz2 : w.heap.size + 2 < w2.heap.size := by have := hb2.size; first | omega | (simp at this; omega)))
      obtain ⟨_, _, _, _, e0, e1, _⟩ := keep2 hb2
      obtain ⟨t0, t1⟩ := two_cells e0 e1
      refine bodyPost_ret (v := .tuple #[.agg #[.int .i64 0, .int .i64 0], .bool false]) (by simp [results, Try.results128, go_sem, t0, t1]) rfl ⟨rfl, ?_⟩
      exact bst (bst (btr (bal (bal (bal (Below.refl _ _) _) _) _) hb2) (by simp <;> omega) _) (by simp <;> omega) _
    · rw [add_yes h1 h2]
      obtain ⟨a1, a2, b1, b2, _⟩ := okB_iff.1 h1
      obtain ⟨c1, c2, d1, d2, _⟩ := okB_iff.1 h2
      obtain ⟨p1, p2⟩ := mul_bd9 (x := a) (y := d) (by omega) (by omega)
      obtain ⟨p3, p4⟩ := mul_bd9 (x := c) (y := b) (by omega) (by omega)
      have p7 := mul_pos9 (x := b) (y := d) (by omega) (by omega)
      obtain ⟨p5, p6⟩ := mul_bd9 (x := b) (y := d) (by omega) (by omega)
      go_enter Try.func128, Try.ntmps128
      go_wp2_with fail
      refine (valid_any _ _ _).mono ?_
      rintro e w1 ⟨rfl, hb⟩
      obtain ⟨hc, hf⟩ := bcell hb
      have hz : w.heap.size + 2 < w1.heap.size := by have := hb.size; first | omega | (simp at this; omega)
      go_wp2_with (first | (go_at_call 118; refine (valid_any _ _ _).mono ?_; rintro e w2 ⟨rfl, hq⟩; have hb2 := btr hb hq))
      clear hc hf hz hb hq
      go_region_held3 (fun w' => w'.cell? ⟨w.heap.size, 0, none⟩ = some (.int .i64 a) ∧ w'.cell? ⟨w.heap.size, 1, none⟩ = some (.int .i64 b) ∧ w'.cell? ⟨w.heap.size + 1, 0, none⟩ = some (.int .i64 c) ∧ w'.cell? ⟨w.heap.size + 1, 1, none⟩ = some (.int .i64 d) ∧ w'.cell? ⟨w.heap.size + 1 + 1, 0, none⟩ = some (rd w' (w.heap.size + 1 + 1) 0) ∧ w'.cell? ⟨w.heap.size + 1 + 1, 1, none⟩ = some (rd w' (w.heap.size + 1 + 1) 1) ∧ w'.frozen? ⟨w.heap.size + 1 + 1, 0, none⟩ = false ∧ w'.frozen? ⟨w.heap.size + 1 + 1, 1, none⟩ = false ∧ w.heap.size + 2 < w'.heap.size ∧ Below w.heap.size w w') (first | exact S2.start hb2.drew | exact S2.call hq (by assumption) | exact S2.store (by assumption) _ _) (first | (go_at_call 129; refine (wide_any _ _ _).mono ?_; rintro e w' ⟨rfl, hq⟩) | (go_at_call 153; refine (plus_any _ _ _ _ _ (by omega) (by omega) (by omega) (by omega)).mono ?_; rintro e w' ⟨rfl, hq⟩) | (go_at_call 152; refine (narrow_any _ _ _ (by omega) (by omega)).mono ?_; rintro e w' ⟨rfl, hq⟩; have HH : S2 a b c d w w' := S2.call hq (by assumption)))
      go_wp2
      obtain ⟨_, _, _, _, k4, k5, _, _, _, k9⟩ := HH
      obtain ⟨t0, t1⟩ := two_cells k4 k5
      refine bodyPost_ret (v := .tuple #[.agg #[.int .i64 (leastR (a * d + c * b) (b * d)).1, .int .i64 (leastR (a * d + c * b) (b * d)).2.1], .bool (leastR (a * d + c * b) (b * d)).2.2]) (by simp [results, Try.results128, go_sem, t0, t1]) rfl ⟨rfl, ?_⟩
      exact bst (bst k9 (by simp <;> omega) _) (by simp <;> omega) _

theorem rmul_any (a b c d : Int) (w : World) :
    Calls Try.prog 127 #[.agg #[.int .i64 a, .int .i64 b], .agg #[.int .i64 c, .int .i64 d]] w fun e w' => e = .returned (.tuple #[.agg #[.int .i64 (mulR a b c d).1, .int .i64 (mulR a b c d).2.1], .bool (mulR a b c d).2.2]) ∧ Below w.heap.size w w' := by
  cases h1 : okB a b
  · rw [mul_no (by simp [h1])]
    go_enter Try.func127, Try.ntmps127
    go_wp2_with (first | (go_at_call 118; refine (valid_any _ _ _).mono ?_; rintro e w1 ⟨rfl, hb⟩; obtain ⟨hc, hf⟩ := bcell hb; have hz : w.heap.size + 2 < w1.heap.size := by have := hb.size; first | omega | (simp at this; omega)))
    obtain ⟨_, _, _, _, e0, e1, _⟩ := keep2 hb
    obtain ⟨t0, t1⟩ := two_cells e0 e1
    refine bodyPost_ret (v := .tuple #[.agg #[.int .i64 0, .int .i64 0], .bool false]) (by simp [results, Try.results127, go_sem, t0, t1]) rfl ⟨rfl, ?_⟩
    exact bst (bst (btr (bal (bal (bal (Below.refl _ _) _) _) _) hb) (by simp <;> omega) _) (by simp <;> omega) _
  · cases h2 : okB c d
    · rw [mul_no (by simp [h2])]
      go_enter Try.func127, Try.ntmps127
      go_wp2_with fail
      refine (valid_any _ _ _).mono ?_
      rintro e w1 ⟨rfl, hb⟩
      obtain ⟨hc, hf⟩ := bcell hb
      have hz : w.heap.size + 2 < w1.heap.size := by have := hb.size; first | omega | (simp at this; omega)
      go_wp2_with (first | (go_at_call 118; refine (valid_any _ _ _).mono ?_; rintro e w2 ⟨rfl, hq⟩; have hb2 := btr hb hq; obtain ⟨hc2, hf2⟩ := bcell hb2; have hz2 : w.heap.size + 2 < w2.heap.size := by have := hb2.size; first | omega | (simp at this; omega)))
      obtain ⟨_, _, _, _, e0, e1, _⟩ := keep2 hb2
      obtain ⟨t0, t1⟩ := two_cells e0 e1
      refine bodyPost_ret (v := .tuple #[.agg #[.int .i64 0, .int .i64 0], .bool false]) (by simp [results, Try.results127, go_sem, t0, t1]) rfl ⟨rfl, ?_⟩
      exact bst (bst (btr (bal (bal (bal (Below.refl _ _) _) _) _) hb2) (by simp <;> omega) _) (by simp <;> omega) _
    · rw [mul_yes h1 h2]
      obtain ⟨a1, a2, b1, b2, _⟩ := okB_iff.1 h1
      obtain ⟨c1, c2, d1, d2, _⟩ := okB_iff.1 h2
      obtain ⟨p1, p2⟩ := mul_bd9 (x := a) (y := c) (by omega) (by omega)
      have p7 := mul_pos9 (x := b) (y := d) (by omega) (by omega)
      obtain ⟨p5, p6⟩ := mul_bd9 (x := b) (y := d) (by omega) (by omega)
      go_enter Try.func127, Try.ntmps127
      go_wp2_with fail
      refine (valid_any _ _ _).mono ?_
      rintro e w1 ⟨rfl, hb⟩
      obtain ⟨hc, hf⟩ := bcell hb
      have hz : w.heap.size + 2 < w1.heap.size := by have := hb.size; first | omega | (simp at this; omega)
      go_wp2_with (first | (go_at_call 118; refine (valid_any _ _ _).mono ?_; rintro e w2 ⟨rfl, hq⟩; have hb2 := btr hb hq))
      clear hc hf hz hb hq
      go_region_held3 (fun w' => w'.cell? ⟨w.heap.size, 0, none⟩ = some (.int .i64 a) ∧ w'.cell? ⟨w.heap.size, 1, none⟩ = some (.int .i64 b) ∧ w'.cell? ⟨w.heap.size + 1, 0, none⟩ = some (.int .i64 c) ∧ w'.cell? ⟨w.heap.size + 1, 1, none⟩ = some (.int .i64 d) ∧ w'.cell? ⟨w.heap.size + 1 + 1, 0, none⟩ = some (rd w' (w.heap.size + 1 + 1) 0) ∧ w'.cell? ⟨w.heap.size + 1 + 1, 1, none⟩ = some (rd w' (w.heap.size + 1 + 1) 1) ∧ w'.frozen? ⟨w.heap.size + 1 + 1, 0, none⟩ = false ∧ w'.frozen? ⟨w.heap.size + 1 + 1, 1, none⟩ = false ∧ w.heap.size + 2 < w'.heap.size ∧ Below w.heap.size w w') (first | exact S2.start hb2.drew | exact S2.call hq (by assumption) | exact S2.store (by assumption) _ _) (first | (go_at_call 129; refine (wide_any _ _ _).mono ?_; rintro e w' ⟨rfl, hq⟩) | (go_at_call 151; refine (times_any _ _ _ _ _ (by omega) (by omega) (by omega) (by omega)).mono ?_; rintro e w' ⟨rfl, hq⟩) | (go_at_call 152; refine (narrow_any _ _ _ (by omega) (by omega)).mono ?_; rintro e w' ⟨rfl, hq⟩; have HH : S2 a b c d w w' := S2.call hq (by assumption)))
      go_wp2
      obtain ⟨_, _, _, _, k4, k5, _, _, _, k9⟩ := HH
      obtain ⟨t0, t1⟩ := two_cells k4 k5
      refine bodyPost_ret (v := .tuple #[.agg #[.int .i64 (leastR (a * c) (b * d)).1, .int .i64 (leastR (a * c) (b * d)).2.1], .bool (leastR (a * c) (b * d)).2.2]) (by simp [results, Try.results127, go_sem, t0, t1]) rfl ⟨rfl, ?_⟩
      exact bst (bst k9 (by simp <;> omega) _) (by simp <;> omega) _
end Go.Proofs.Ytbdmofmoegmigaa
