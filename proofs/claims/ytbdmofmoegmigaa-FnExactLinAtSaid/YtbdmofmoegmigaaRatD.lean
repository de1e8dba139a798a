/- Contract of the model's l1Least. -/
import Derived.Test.YtbdmofmoegmigaaRatC
namespace Go.Proofs.Ytbdmofmoegmigaa
set_option linter.unusedVariables false
set_option linter.unusedSimpArgs false
open Go.RowKit
theorem lgcd_neg (n d : Int) (w : World) (hn : n < 0) (ha' : -4000000000000000000 ≤ n) (hb : 0 ≤ d) (hb' : d ≤ 4000000000000000000) :
    Calls Try.prog 154 #[.int .i64 (-n), .int .i64 d] w fun e w' => e = .returned (.int .i64 (Int.gcd n d)) ∧ ∃ k, w' = w.drewN k := by
  have := lgcd_any (-n) d w (by omega) (by omega) hb hb'
  rwa [Int.neg_gcd] at this
theorem two_cells {w1 : World} {b : Nat} {u v : Value} (h0 : w1.cell? ⟨b, 0, none⟩ = some u) (h1 : w1.cell? ⟨b, 1, none⟩ = some v) :
    (∀ x y, ((w1.setCell ⟨b, 0, none⟩ x).setCell ⟨b, 1, none⟩ y).cell? ⟨b, 0, none⟩ = some x) ∧ (∀ x y, ((w1.setCell ⟨b, 0, none⟩ x).setCell ⟨b, 1, none⟩ y).cell? ⟨b, 1, none⟩ = some y) := by
  refine ⟨fun x y => ?_, fun x y => ?_⟩
  · exact (World.cell?_setCell_other _ _ _ _ (by simp)).trans (World.cell?_setCell_same _ _ _ h0)
  · exact World.cell?_setCell_same _ _ _ ((World.cell?_setCell_other _ ⟨b, 0, none⟩ ⟨b, 1, none⟩ _ (by simp)).trans h1)
theorem least_pos {n d : Int} (hd : 1 ≤ d) : 1 ≤ d / (Int.gcd n d : Int) := by
  have g1 := gcd1 (n := n) hd
  have h1 : (Int.gcd n d : Int) ≤ d := Int.gcd_le_right n (by omega)
  have := Int.ediv_pos_of_pos_of_dvd (show 0 < d by omega) (show 0 ≤ (Int.gcd n d : Int) by omega) (Int.gcd_dvd_right n d)
  omega
theorem least_ok {n d : Int} (hd : 1 ≤ d) (h : okB (n.tdiv (Int.gcd n d : Int)) (d / (Int.gcd n d : Int)) = true) :
    leastR n d = (n.tdiv (Int.gcd n d : Int), d / (Int.gcd n d : Int), true) := by
  rw [tdiv_gcd] at *
  have a := okB_iff.1 h
  unfold leastR; rw [if_pos ⟨a.1, a.2.1, a.2.2.2.1⟩]
theorem least_bad {n d : Int} (hd : 1 ≤ d) (h : okB (n.tdiv (Int.gcd n d : Int)) (d / (Int.gcd n d : Int)) = false) :
    leastR n d = (0, 0, false) := by
  rw [tdiv_gcd] at *
  have p := least_pos (n := n) hd
  have g1 := gcd_pos (n := n) (show 0 < d by omega)
  have g2 := Int.gcd_ediv_gcd_ediv_gcd g1
  unfold leastR; rw [if_neg]
  intro hh
  rw [okB_iff.2 ⟨hh.1, hh.2.1, p, hh.2.2, g2⟩] at h
  cases h
theorem lleast_any (n d : Int) (w : World) (hn : -2000000000000000000 ≤ n ∧ n ≤ 2000000000000000000) (hd : 1 ≤ d ∧ d ≤ 1000000000000000000) :
    Calls Try.prog 148 #[.int .i64 n, .int .i64 d] w fun e w' => e = .returned (.tuple #[.agg #[.int .i64 (leastR n d).1, .int .i64 (leastR n d).2.1], .bool (leastR n d).2.2]) ∧ Below w.heap.size w w' := by
  obtain ⟨n1, n2⟩ := hn
  obtain ⟨d1, d2⟩ := hd
  have g1 := gcd1 (n := n) d1
  obtain ⟨q1, q2⟩ := tdiv_bd 2000000000000000000 g1 ⟨n1, n2⟩
  obtain ⟨q3, q4⟩ := ediv_bd g1 (show 0 ≤ d by omega)
  by_cases h0 : n < 0
  · cases h1 : okB (n.tdiv (Int.gcd n d : Int)) (d / (Int.gcd n d : Int))
    · rw [least_bad d1 h1]
      go_enter Try.func148, Try.ntmps148
      go_wp2_with (first | (go_at_call 154; refine (lgcd_neg _ _ _ (by omega) (by omega) (by omega) (by omega)).mono ?_; rintro e w' ⟨rfl, nq, rfl⟩))
      go_region
      go_wp2_with (first | (go_at_call 132; refine (sok_any _ _ _).mono ?_; rintro e w1 ⟨rfl, hb⟩; obtain ⟨hc, hf⟩ := bcell hb; have hz : w.heap.size + 1 < w1.heap.size := by have := hb.size; first | omega | (simp at this; omega)))
      have e0 : w1.cell? ⟨w.heap.size, 0, none⟩ = some (.int .i64 0) := by rw [hc _ _ (by simp <;> omega)]; simp [go_sem]
      have e1 : w1.cell? ⟨w.heap.size, 1, none⟩ = some (.int .i64 0) := by rw [hc _ _ (by simp <;> omega)]; simp [go_sem]
      obtain ⟨t0, t1⟩ := two_cells e0 e1
      refine bodyPost_ret (v := .tuple #[.agg #[.int .i64 0, .int .i64 0], .bool false]) (by simp [results, Try.results148, go_sem, t0, t1]) rfl ⟨rfl, ?_⟩
      exact bst (bst (btr (bal (bdn (bal (Below.refl _ _) _) _) _) hb) (by simp <;> omega) _) (by simp <;> omega) _
    · rw [least_ok d1 h1]
      go_enter Try.func148, Try.ntmps148
      go_wp2_with (first | (go_at_call 154; refine (lgcd_neg _ _ _ (by omega) (by omega) (by omega) (by omega)).mono ?_; rintro e w' ⟨rfl, nq, rfl⟩))
      go_region
      go_wp2_with (first | (go_at_call 132; refine (sok_any _ _ _).mono ?_; rintro e w1 ⟨rfl, hb⟩; obtain ⟨hc, hf⟩ := bcell hb; have hz : w.heap.size + 1 < w1.heap.size := by have := hb.size; first | omega | (simp at this; omega)))
      have e0 : w1.cell? ⟨w.heap.size, 0, none⟩ = some (.int .i64 0) := by rw [hc _ _ (by simp <;> omega)]; simp [go_sem]
      have e1 : w1.cell? ⟨w.heap.size, 1, none⟩ = some (.int .i64 0) := by rw [hc _ _ (by simp <;> omega)]; simp [go_sem]
      obtain ⟨t0, t1⟩ := two_cells e0 e1
      refine bodyPost_ret (v := .tuple #[.agg #[.int .i64 (n.tdiv (Int.gcd n d : Int)), .int .i64 (d / (Int.gcd n d : Int))], .bool true]) (by simp [results, Try.results148, go_sem, t0, t1]) rfl ⟨rfl, ?_⟩
      exact bst (bst (btr (bal (bdn (bal (Below.refl _ _) _) _) _) hb) (by simp <;> omega) _) (by simp <;> omega) _
  · cases h1 : okB (n.tdiv (Int.gcd n d : Int)) (d / (Int.gcd n d : Int))
    · rw [least_bad d1 h1]
      go_enter Try.func148, Try.ntmps148
      go_wp2_with (first | (go_at_call 154; refine (lgcd_any _ _ _ (by omega) (by omega) (by omega) (by omega)).mono ?_; rintro e w' ⟨rfl, nq, rfl⟩))
      go_region
      go_wp2_with (first | (go_at_call 132; refine (sok_any _ _ _).mono ?_; rintro e w1 ⟨rfl, hb⟩; obtain ⟨hc, hf⟩ := bcell hb; have hz : w.heap.size + 1 < w1.heap.size := by have := hb.size; first | omega | (simp at this; omega)))
      have e0 : w1.cell? ⟨w.heap.size, 0, none⟩ = some (.int .i64 0) := by rw [hc _ _ (by simp <;> omega)]; simp [go_sem]
      have e1 : w1.cell? ⟨w.heap.size, 1, none⟩ = some (.int .i64 0) := by rw [hc _ _ (by simp <;> omega)]; simp [go_sem]
      obtain ⟨t0, t1⟩ := two_cells e0 e1
      refine bodyPost_ret (v := .tuple #[.agg #[.int .i64 0, .int .i64 0], .bool false]) (by simp [results, Try.results148, go_sem, t0, t1]) rfl ⟨rfl, ?_⟩
      exact bst (bst (btr (bal (bdn (bal (Below.refl _ _) _) _) _) hb) (by simp <;> omega) _) (by simp <;> omega) _
    · rw [least_ok d1 h1]
      go_enter Try.func148, Try.ntmps148
      go_wp2_with (first | (go_at_call 154; refine (lgcd_any _ _ _ (by omega) (by omega) (by omega) (by omega)).mono ?_; rintro e w' ⟨rfl, nq, rfl⟩))
      go_region
      go_wp2_with (first | (go_at_call 132; refine (sok_any _ _ _).mono ?_; rintro e w1 ⟨rfl, hb⟩; obtain ⟨hc, hf⟩ := bcell hb; have hz : w.heap.size + 1 < w1.heap.size := by have := hb.size; first | omega | (simp at this; omega)))
      have e0 : w1.cell? ⟨w.heap.size, 0, none⟩ = some (.int .i64 0) := by rw [hc _ _ (by simp <;> omega)]; simp [go_sem]
      have e1 : w1.cell? ⟨w.heap.size, 1, none⟩ = some (.int .i64 0) := by rw [hc _ _ (by simp <;> omega)]; simp [go_sem]
      obtain ⟨t0, t1⟩ := two_cells e0 e1
      refine bodyPost_ret (v := .tuple #[.agg #[.int .i64 (n.tdiv (Int.gcd n d : Int)), .int .i64 (d / (Int.gcd n d : Int))], .bool true]) (by simp [results, Try.results148, go_sem, t0, t1]) rfl ⟨rfl, ?_⟩
      exact bst (bst (btr (bal (bdn (bal (Below.refl _ _) _) _) _) hb) (by simp <;> omega) _) (by simp <;> omega) _

theorem add_no {a b c d : Int} (h : ¬ (okB a b = true ∧ okB c d = true)) : addR a b c d = (0, 0, false) := by unfold addR; rw [if_neg h]
theorem add_yes {a b c d : Int} (h : okB a b = true) (h2 : okB c d = true) : addR a b c d = leastR (a * d + c * b) (b * d) := by unfold addR; rw [if_pos ⟨h, h2⟩]
theorem mul_no {a b c d : Int} (h : ¬ (okB a b = true ∧ okB c d = true)) : mulR a b c d = (0, 0, false) := by unfold mulR; rw [if_neg h]
theorem mul_yes {a b c d : Int} (h : okB a b = true) (h2 : okB c d = true) : mulR a b c d = leastR (a * c) (b * d) := by unfold mulR; rw [if_pos ⟨h, h2⟩]

theorem sadd_any (a b c d : Int) (w : World) :
    Calls Try.prog 134 #[.agg #[.int .i64 a, .int .i64 b], .agg #[.int .i64 c, .int .i64 d]] w fun e w' => e = .returned (.tuple #[.agg #[.int .i64 (addR a b c d).1, .int .i64 (addR a b c d).2.1], .bool (addR a b c d).2.2]) ∧ Below w.heap.size w w' := by
  cases h1 : okB a b
  · rw [add_no (by simp [h1])]
    go_enter Try.func134, Try.ntmps134
    go_wp2_with (first | (go_at_call 132; refine (sok_any _ _ _).mono ?_; rintro e w1 ⟨rfl, hb⟩; obtain ⟨hc, hf⟩ := bcell hb; have hz : w.heap.size + 2 < w1.heap.size := by have := hb.size; first | omega | (simp at this; omega)))
    have e0 : w1.cell? ⟨(w.heap.size + 1 + 1), 0, none⟩ = some (.int .i64 0) := by rw [hc _ _ (by simp <;> omega)]; simp [go_sem]
    have e1 : w1.cell? ⟨(w.heap.size + 1 + 1), 1, none⟩ = some (.int .i64 0) := by rw [hc _ _ (by simp <;> omega)]; simp [go_sem]
    obtain ⟨t0, t1⟩ := two_cells e0 e1
    refine bodyPost_ret (v := .tuple #[.agg #[.int .i64 0, .int .i64 0], .bool false]) (by simp [results, Try.results134, go_sem, t0, t1]) rfl ⟨rfl, ?_⟩
    exact bst (bst (btr (bal (bal (bal (Below.refl _ _) _) _) _) hb) (by simp <;> omega) _) (by simp <;> omega) _
  · cases h2 : okB c d
    · rw [add_no (by simp [h2])]
      go_enter Try.func134, Try.ntmps134
      go_wp2_with fail
      refine (sok_any _ _ _).mono ?_
      rintro e w1 ⟨rfl, hb⟩
      obtain ⟨hc, hf⟩ := bcell hb
      have hz : w.heap.size + 2 < w1.heap.size := by have := hb.size; first | omega | (simp at this; omega)
      go_wp2_with (first | (go_at_call 132; refine (sok_any _ _ _).mono ?_; rintro e w2 ⟨rfl, hq⟩; have hb2 := btr hb hq; obtain ⟨hc2, hf2⟩ := bcell hb2; have hz2 : w.heap.size + 2 < w2.heap.size := by have := hb2.size; first | omega | (simp at this; omega)))
      have e0 : w2.cell? ⟨(w.heap.size + 1 + 1), 0, none⟩ = some (.int .i64 0) := by rw [hc2 _ _ (by simp <;> omega)]; simp [go_sem]
      have e1 : w2.cell? ⟨(w.heap.size + 1 + 1), 1, none⟩ = some (.int .i64 0) := by rw [hc2 _ _ (by simp <;> omega)]; simp [go_sem]
      obtain ⟨t0, t1⟩ := two_cells e0 e1
      refine bodyPost_ret (v := .tuple #[.agg #[.int .i64 0, .int .i64 0], .bool false]) (by simp [results, Try.results134, go_sem, t0, t1]) rfl ⟨rfl, ?_⟩
      exact bst (bst (btr (bal (bal (bal (Below.refl _ _) _) _) _) hb2) (by simp <;> omega) _) (by simp <;> omega) _
    · rw [add_yes h1 h2]
      obtain ⟨a1, a2, b1, b2, _⟩ := okB_iff.1 h1
      obtain ⟨c1, c2, d1, d2, _⟩ := okB_iff.1 h2
      obtain ⟨p1, p2⟩ := mul_bd9 (x := a) (y := d) (by omega) (by omega)
      obtain ⟨p3, p4⟩ := mul_bd9 (x := c) (y := b) (by omega) (by omega)
      have p7 := mul_pos9 (x := b) (y := d) (by omega) (by omega)
      obtain ⟨p5, p6⟩ := mul_bd9 (x := b) (y := d) (by omega) (by omega)
      go_enter Try.func134, Try.ntmps134
      go_wp2_with fail
      refine (sok_any _ _ _).mono ?_
      rintro e w1 ⟨rfl, hb⟩
      obtain ⟨hc, hf⟩ := bcell hb
      have hz : w.heap.size + 2 < w1.heap.size := by have := hb.size; first | omega | (simp at this; omega)
      go_wp2_with (first | (go_at_call 132; refine (sok_any _ _ _).mono ?_; rintro e w2 ⟨rfl, hq⟩; have hb2 := btr hb hq; obtain ⟨hc2, hf2⟩ := bcell hb2; have hz2 : w.heap.size + 2 < w2.heap.size := by have := hb2.size; first | omega | (simp at this; omega)) | (go_at_call 148; refine (lleast_any _ _ _ (by omega) (by omega)).mono ?_; rintro e w3 ⟨rfl, hq⟩; have hb3 := btr hb2 hq; obtain ⟨hc3, hf3⟩ := bcell hb3; have hz3 : w.heap.size + 2 < w3.heap.size := by have := hb3.size; first | omega | (simp at this; omega)))
      have e0 : w3.cell? ⟨(w.heap.size + 1 + 1), 0, none⟩ = some (.int .i64 0) := by rw [hc3 _ _ (by simp <;> omega)]; simp [go_sem]
      have e1 : w3.cell? ⟨(w.heap.size + 1 + 1), 1, none⟩ = some (.int .i64 0) := by rw [hc3 _ _ (by simp <;> omega)]; simp [go_sem]
      obtain ⟨t0, t1⟩ := two_cells e0 e1
      refine bodyPost_ret (v := .tuple #[.agg #[.int .i64 (leastR (a * d + c * b) (b * d)).1, .int .i64 (leastR (a * d + c * b) (b * d)).2.1], .bool (leastR (a * d + c * b) (b * d)).2.2]) (by simp [results, Try.results134, go_sem, t0, t1]) rfl ⟨rfl, ?_⟩
      exact bst (bst (btr (bal (bal (bal (Below.refl _ _) _) _) _) hb3) (by simp <;> omega) _) (by simp <;> omega) _

theorem smul_any (a b c d : Int) (w : World) :
    Calls Try.prog 133 #[.agg #[.int .i64 a, .int .i64 b], .agg #[.int .i64 c, .int .i64 d]] w fun e w' => e = .returned (.tuple #[.agg #[.int .i64 (mulR a b c d).1, .int .i64 (mulR a b c d).2.1], .bool (mulR a b c d).2.2]) ∧ Below w.heap.size w w' := by
  cases h1 : okB a b
  · rw [mul_no (by simp [h1])]
    go_enter Try.func133, Try.ntmps133
    go_wp2_with (first | (go_at_call 132; refine (sok_any _ _ _).mono ?_; rintro e w1 ⟨rfl, hb⟩; obtain ⟨hc, hf⟩ := bcell hb; have hz : w.heap.size + 2 < w1.heap.size := by have := hb.size; first | omega | (simp at this; omega)))
    have e0 : w1.cell? ⟨(w.heap.size + 1 + 1), 0, none⟩ = some (.int .i64 0) := by rw [hc _ _ (by simp <;> omega)]; simp [go_sem]
    have e1 : w1.cell? ⟨(w.heap.size + 1 + 1), 1, none⟩ = some (.int .i64 0) := by rw [hc _ _ (by simp <;> omega)]; simp [go_sem]
    obtain ⟨t0, t1⟩ := two_cells e0 e1
    refine bodyPost_ret (v := .tuple #[.agg #[.int .i64 0, .int .i64 0], .bool false]) (by simp [results, Try.results133, go_sem, t0, t1]) rfl ⟨rfl, ?_⟩
    exact bst (bst (btr (bal (bal (bal (Below.refl _ _) _) _) _) hb) (by simp <;> omega) _) (by simp <;> omega) _
  · cases h2 : okB c d
    · rw [mul_no (by simp [h2])]
      go_enter Try.func133, Try.ntmps133
      go_wp2_with fail
      refine (sok_any _ _ _).mono ?_
      rintro e w1 ⟨rfl, hb⟩
      obtain ⟨hc, hf⟩ := bcell hb
      have hz : w.heap.size + 2 < w1.heap.size := by have := hb.size; first | omega | (simp at this; omega)
      go_wp2_with (first | (go_at_call 132; refine (sok_any _ _ _).mono ?_; rintro e w2 ⟨rfl, hq⟩; have hb2 := btr hb hq; obtain ⟨hc2, hf2⟩ := bcell hb2; have hz2 : w.heap.size + 2 < w2.heap.size := by have := hb2.size; first | omega | (simp at this; omega)))
      have e0 : w2.cell? ⟨(w.heap.size + 1 + 1), 0, none⟩ = some (.int .i64 0) := by rw [hc2 _ _ (by simp <;> omega)]; simp [go_sem]
      have e1 : w2.cell? ⟨(w.heap.size + 1 + 1), 1, none⟩ = some (.int .i64 0) := by rw [hc2 _ _ (by simp <;> omega)]; simp [go_sem]
      obtain ⟨t0, t1⟩ := two_cells e0 e1
      refine bodyPost_ret (v := .tuple #[.agg #[.int .i64 0, .int .i64 0], .bool false]) (by simp [results, Try.results133, go_sem, t0, t1]) rfl ⟨rfl, ?_⟩
      exact bst (bst (btr (bal (bal (bal (Below.refl _ _) _) _) _) hb2) (by simp <;> omega) _) (by simp <;> omega) _
    · rw [mul_yes h1 h2]
      obtain ⟨a1, a2, b1, b2, _⟩ := okB_iff.1 h1
      obtain ⟨c1, c2, d1, d2, _⟩ := okB_iff.1 h2
      obtain ⟨p1, p2⟩ := mul_bd9 (x := a) (y := c) (by omega) (by omega)
      have p7 := mul_pos9 (x := b) (y := d) (by omega) (by omega)
      obtain ⟨p5, p6⟩ := mul_bd9 (x := b) (y := d) (by omega) (by omega)
      go_enter Try.func133, Try.ntmps133
      go_wp2_with fail
      refine (sok_any _ _ _).mono ?_
      rintro e w1 ⟨rfl, hb⟩
      obtain ⟨hc, hf⟩ := bcell hb
      have hz : w.heap.size + 2 < w1.heap.size := by have := hb.size; first | omega | (simp at this; omega)
      go_wp2_with (first | (go_at_call 132; refine (sok_any _ _ _).mono ?_; rintro e w2 ⟨rfl, hq⟩; have hb2 := btr hb hq; obtain ⟨hc2, hf2⟩ := bcell hb2; have hz2 : w.heap.size + 2 < w2.heap.size := by have := hb2.size; first | omega | (simp at this; omega)) | (go_at_call 148; refine (lleast_any _ _ _ (by omega) (by omega)).mono ?_; rintro e w3 ⟨rfl, hq⟩; have hb3 := btr hb2 hq; obtain ⟨hc3, hf3⟩ := bcell hb3; have hz3 : w.heap.size + 2 < w3.heap.size := by have := hb3.size; first | omega | (simp at this; omega)))
      have e0 : w3.cell? ⟨(w.heap.size + 1 + 1), 0, none⟩ = some (.int .i64 0) := by rw [hc3 _ _ (by simp <;> omega)]; simp [go_sem]
      have e1 : w3.cell? ⟨(w.heap.size + 1 + 1), 1, none⟩ = some (.int .i64 0) := by rw [hc3 _ _ (by simp <;> omega)]; simp [go_sem]
      obtain ⟨t0, t1⟩ := two_cells e0 e1
      refine bodyPost_ret (v := .tuple #[.agg #[.int .i64 (leastR (a * c) (b * d)).1, .int .i64 (leastR (a * c) (b * d)).2.1], .bool (leastR (a * c) (b * d)).2.2]) (by simp [results, Try.results133, go_sem, t0, t1]) rfl ⟨rfl, ?_⟩
      exact bst (bst (btr (bal (bal (bal (Below.refl _ _) _) _) _) hb3) (by simp <;> omega) _) (by simp <;> omega) _
end Go.Proofs.Ytbdmofmoegmigaa
