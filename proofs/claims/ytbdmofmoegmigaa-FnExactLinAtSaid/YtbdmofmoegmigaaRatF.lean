/- Contracts of both RatOf, both RatMid and both RatLess. -/
import Derived.Test.YtbdmofmoegmigaaRatE
namespace Go.Proofs.Ytbdmofmoegmigaa
set_option linter.unusedVariables false
set_option linter.unusedSimpArgs false
open Go.RowKit
theorem of_zero {n d : Int} (h : d = 0) : ofR n d = (0, 0, false) := by unfold ofR; rw [if_pos (Or.inl h)]
theorem of_n {n d : Int} (h : ¬ inB n = true) : ofR n d = (0, 0, false) := by unfold ofR; rw [if_pos (Or.inr (fun x => h (inB_iff.2 ⟨x.1, x.2.1⟩)))]
theorem of_d {n d : Int} (h : ¬ inB d = true) : ofR n d = (0, 0, false) := by unfold ofR; rw [if_pos (Or.inr (fun x => h (inB_iff.2 ⟨x.2.2.1, x.2.2.2⟩)))]
theorem of_neg {n d : Int} (h1 : inB n = true) (h2 : inB d = true) (h : d < 0) : ofR n d = leastR (-n) (-d) := by
  have a := inB_iff.1 h1; have b := inB_iff.1 h2
  unfold ofR; rw [if_neg (by omega), if_pos h]
theorem of_pos {n d : Int} (h1 : inB n = true) (h2 : inB d = true) (h : 0 < d) : ofR n d = leastR n d := by
  have a := inB_iff.1 h1; have b := inB_iff.1 h2
  unfold ofR; rw [if_neg (by omega), if_neg (by omega)]
theorem one_block {n : Nat} {w w1 : World} (h : Below (w.alloc (.cells #[.int .i64 0, .int .i64 0] 62)).heap.size (w.alloc (.cells #[.int .i64 0, .int .i64 0] 62)) w1) : 
    (∀ x y, ((w1.setCell ⟨w.heap.size, 0, none⟩ x).setCell ⟨w.heap.size, 1, none⟩ y).cell? ⟨w.heap.size, 0, none⟩ = some x) ∧ (∀ x y, ((w1.setCell ⟨w.heap.size, 0, none⟩ x).setCell ⟨w.heap.size, 1, none⟩ y).cell? ⟨w.heap.size, 1, none⟩ = some y) := by
  obtain ⟨hc, _⟩ := bcell h
  exact two_cells (u := .int .i64 0) (v := .int .i64 0) (by rw [hc _ _ (by simp <;> omega)]; simp [go_sem]) (by rw [hc _ _ (by simp <;> omega)]; simp [go_sem])

theorem rof_any (n d : Int) (w : World) :
    Calls Try.prog 165 #[.int .i64 n, .int .i64 d] w fun e w' => e = .returned (.tuple #[.agg #[.int .i64 (ofR n d).1, .int .i64 (ofR n d).2.1], .bool (ofR n d).2.2]) ∧ Below w.heap.size w w' := by
  by_cases h0 : d = 0
  · rw [of_zero h0]
    have hd : (d == 0) = true := by simpa using h0
    clear h0
    go_enter Try.func165, Try.ntmps165
    go_wp2_with (first | (go_at_call 144; refine (range_any _ _).mono ?_; rintro e w' ⟨rfl, rfl⟩))
    refine bodyPost_ret (v := .tuple #[.agg #[.int .i64 0, .int .i64 0], .bool false]) (by simp [results, Try.results165, go_sem]) rfl ⟨rfl, ?_⟩
    exact bal (Below.refl _ _) _
  · have hd : (d == 0) = false := by simpa using h0
    by_cases h1 : inB n = true
    · by_cases h2 : inB d = true
      · obtain ⟨a1, a2⟩ := inB_iff.1 h1
        obtain ⟨b1, b2⟩ := inB_iff.1 h2
        by_cases h3 : d < 0
        · rw [of_neg h1 h2 h3]
          go_enter Try.func165, Try.ntmps165
          go_wp2_with (first | (go_at_call 144; refine (range_any _ _).mono ?_; rintro e w' ⟨rfl, rfl⟩) | (go_at_call 129; refine (wide_any _ _ _).mono ?_; rintro e w1 ⟨rfl, hq⟩; have hb : Below (w.alloc (.cells #[.int .i64 0, .int .i64 0] 62)).heap.size (w.alloc (.cells #[.int .i64 0, .int .i64 0] 62)) w1 := hq; obtain ⟨hchb, hfhb⟩ := bcell hb; have hzhb : w.heap.size < w1.heap.size := by have := hb.size; first | omega | (simp at this; omega)) | (go_at_call 152; refine (narrow_any _ _ _ (by omega) (by omega)).mono ?_; rintro e w2 ⟨rfl, hq2⟩; have hb2 : Below (w.alloc (.cells #[.int .i64 0, .int .i64 0] 62)).heap.size (w.alloc (.cells #[.int .i64 0, .int .i64 0] 62)) w2 := btr hb hq2; obtain ⟨hchb2, hfhb2⟩ := bcell hb2; have hzhb2 : w.heap.size < w2.heap.size := by have := hb2.size; first | omega | (simp at this; omega)))
          obtain ⟨t0, t1⟩ := one_block (n := 0) hb2
          refine bodyPost_ret (v := .tuple #[.agg #[.int .i64 (leastR (-n) (-d)).1, .int .i64 (leastR (-n) (-d)).2.1], .bool (leastR (-n) (-d)).2.2]) (by simp [results, Try.results165, go_sem, t0, t1]) rfl ⟨rfl, ?_⟩
          exact bst (bst (btr (bal (Below.refl _ _) _) hb2) (by simp <;> omega) _) (by simp <;> omega) _
        · rw [of_pos h1 h2 (by omega)]
          go_enter Try.func165, Try.ntmps165
          go_wp2_with (first | (go_at_call 144; refine (range_any _ _).mono ?_; rintro e w' ⟨rfl, rfl⟩) | (go_at_call 129; refine (wide_any _ _ _).mono ?_; rintro e w1 ⟨rfl, hq⟩; have hb : Below (w.alloc (.cells #[.int .i64 0, .int .i64 0] 62)).heap.size (w.alloc (.cells #[.int .i64 0, .int .i64 0] 62)) w1 := hq; obtain ⟨hchb, hfhb⟩ := bcell hb; have hzhb : w.heap.size < w1.heap.size := by have := hb.size; first | omega | (simp at this; omega)) | (go_at_call 152; refine (narrow_any _ _ _ (by omega) (by omega)).mono ?_; rintro e w2 ⟨rfl, hq2⟩; have hb2 : Below (w.alloc (.cells #[.int .i64 0, .int .i64 0] 62)).heap.size (w.alloc (.cells #[.int .i64 0, .int .i64 0] 62)) w2 := btr hb hq2; obtain ⟨hchb2, hfhb2⟩ := bcell hb2; have hzhb2 : w.heap.size < w2.heap.size := by have := hb2.size; first | omega | (simp at this; omega)))
          obtain ⟨t0, t1⟩ := one_block (n := 0) hb2
          refine bodyPost_ret (v := .tuple #[.agg #[.int .i64 (leastR n d).1, .int .i64 (leastR n d).2.1], .bool (leastR n d).2.2]) (by simp [results, Try.results165, go_sem, t0, t1]) rfl ⟨rfl, ?_⟩
          exact bst (bst (btr (bal (Below.refl _ _) _) hb2) (by simp <;> omega) _) (by simp <;> omega) _
      · rw [of_d h2]
        have h2' : inB d = false := by simpa using h2
        go_enter Try.func165, Try.ntmps165
        go_wp2_with (first | (go_at_call 144; refine (range_any _ _).mono ?_; rintro e w' ⟨rfl, rfl⟩))
        refine bodyPost_ret (v := .tuple #[.agg #[.int .i64 0, .int .i64 0], .bool false]) (by simp [results, Try.results165, go_sem]) rfl ⟨rfl, ?_⟩
        exact bal (Below.refl _ _) _
    · rw [of_n h1]
      have h1' : inB n = false := by simpa using h1
      go_enter Try.func165, Try.ntmps165
      go_wp2_with (first | (go_at_call 144; refine (range_any _ _).mono ?_; rintro e w' ⟨rfl, rfl⟩))
      refine bodyPost_ret (v := .tuple #[.agg #[.int .i64 0, .int .i64 0], .bool false]) (by simp [results, Try.results165, go_sem]) rfl ⟨rfl, ?_⟩
      exact bal (Below.refl _ _) _
theorem sof_any (n d : Int) (w : World) :
    Calls Try.prog 123 #[.int .i64 n, .int .i64 d] w fun e w' => e = .returned (.tuple #[.agg #[.int .i64 (ofR n d).1, .int .i64 (ofR n d).2.1], .bool (ofR n d).2.2]) ∧ Below w.heap.size w w' := by
  by_cases h0 : d = 0
  · rw [of_zero h0]
    have hd : (d == 0) = true := by simpa using h0
    clear h0
    go_enter Try.func123, Try.ntmps123
    go_wp2_with (first | (go_at_call 147; refine (labs_any _ _).mono ?_; rintro e w' ⟨rfl, rfl⟩) | (go_at_call 148; refine (lleast_any _ _ _ (by omega) (by omega)).mono ?_; rintro e w2 ⟨rfl, hb2⟩; obtain ⟨hchb2, hfhb2⟩ := bcell hb2; have hzhb2 : w.heap.size < w2.heap.size := by have := hb2.size; first | omega | (simp at this; omega)))
    refine bodyPost_ret (v := .tuple #[.agg #[.int .i64 0, .int .i64 0], .bool false]) (by simp [results, Try.results123, go_sem]) rfl ⟨rfl, ?_⟩
    exact bal (Below.refl _ _) _
  · have hd : (d == 0) = false := by simpa using h0
    by_cases h1 : inB n = true
    · by_cases h2 : inB d = true
      · obtain ⟨a1, a2⟩ := inB_iff.1 h1
        obtain ⟨b1, b2⟩ := inB_iff.1 h2
        have l1 := labs_le.2 ⟨a1, a2⟩
        have l2 := labs_le.2 ⟨b1, b2⟩
        by_cases h3 : d < 0
        · rw [of_neg h1 h2 h3]
          go_enter Try.func123, Try.ntmps123
          go_wp2_with (first | (go_at_call 147; refine (labs_any _ _).mono ?_; rintro e w' ⟨rfl, rfl⟩) | (go_at_call 148; refine (lleast_any _ _ _ (by omega) (by omega)).mono ?_; rintro e w2 ⟨rfl, hb2⟩; obtain ⟨hchb2, hfhb2⟩ := bcell hb2; have hzhb2 : w.heap.size < w2.heap.size := by have := hb2.size; first | omega | (simp at this; omega)))
          obtain ⟨t0, t1⟩ := one_block (n := 0) hb2
          refine bodyPost_ret (v := .tuple #[.agg #[.int .i64 (leastR (-n) (-d)).1, .int .i64 (leastR (-n) (-d)).2.1], .bool (leastR (-n) (-d)).2.2]) (by simp [results, Try.results123, go_sem, t0, t1]) rfl ⟨rfl, ?_⟩
          exact bst (bst (btr (bal (Below.refl _ _) _) hb2) (by simp <;> omega) _) (by simp <;> omega) _
        · rw [of_pos h1 h2 (by omega)]
          go_enter Try.func123, Try.ntmps123
          go_wp2_with (first | (go_at_call 147; refine (labs_any _ _).mono ?_; rintro e w' ⟨rfl, rfl⟩) | (go_at_call 148; refine (lleast_any _ _ _ (by omega) (by omega)).mono ?_; rintro e w2 ⟨rfl, hb2⟩; obtain ⟨hchb2, hfhb2⟩ := bcell hb2; have hzhb2 : w.heap.size < w2.heap.size := by have := hb2.size; first | omega | (simp at this; omega)))
          obtain ⟨t0, t1⟩ := one_block (n := 0) hb2
          refine bodyPost_ret (v := .tuple #[.agg #[.int .i64 (leastR n d).1, .int .i64 (leastR n d).2.1], .bool (leastR n d).2.2]) (by simp [results, Try.results123, go_sem, t0, t1]) rfl ⟨rfl, ?_⟩
          exact bst (bst (btr (bal (Below.refl _ _) _) hb2) (by simp <;> omega) _) (by simp <;> omega) _
      · rw [of_d h2]
        have l1 := labs_le.2 (inB_iff.1 h1)
        have l2 : 1000000000 < labs d := by have k1 := labs_le (n := d); have k2 := inB_no h2; omega
        go_enter Try.func123, Try.ntmps123
        go_wp2_with (first | (go_at_call 147; refine (labs_any _ _).mono ?_; rintro e w' ⟨rfl, rfl⟩) | (go_at_call 148; refine (lleast_any _ _ _ (by omega) (by omega)).mono ?_; rintro e w2 ⟨rfl, hb2⟩; obtain ⟨hchb2, hfhb2⟩ := bcell hb2; have hzhb2 : w.heap.size < w2.heap.size := by have := hb2.size; first | omega | (simp at this; omega)))
        refine bodyPost_ret (v := .tuple #[.agg #[.int .i64 0, .int .i64 0], .bool false]) (by simp [results, Try.results123, go_sem]) rfl ⟨rfl, ?_⟩
        exact bal (Below.refl _ _) _
    · rw [of_n h1]
      have l1 : 1000000000 < labs n := by have k1 := labs_le (n := n); have k2 := inB_no h1; omega
      go_enter Try.func123, Try.ntmps123
      go_wp2_with (first | (go_at_call 147; refine (labs_any _ _).mono ?_; rintro e w' ⟨rfl, rfl⟩) | (go_at_call 148; refine (lleast_any _ _ _ (by omega) (by omega)).mono ?_; rintro e w2 ⟨rfl, hb2⟩; obtain ⟨hchb2, hfhb2⟩ := bcell hb2; have hzhb2 : w.heap.size < w2.heap.size := by have := hb2.size; first | omega | (simp at this; omega)))
      refine bodyPost_ret (v := .tuple #[.agg #[.int .i64 0, .int .i64 0], .bool false]) (by simp [results, Try.results123, go_sem]) rfl ⟨rfl, ?_⟩
      exact bal (Below.refl _ _) _
end Go.Proofs.Ytbdmofmoegmigaa
