/- Contracts of the draws of two fractions. -/
import Derived.Test.YthhmhdiiffmkkaaDrawD
namespace Go.Proofs.Ythhmhdiiffmkkaa
set_option linter.unusedVariables false
set_option linter.unusedSimpArgs false
open Go.RowKit
theorem ST.drew {B : Nat} {w : World} {g A : Nat} {x y : Value} {w' : World} (h : ST B w g A x y w') : ST B w g A x y w'.drew := by
  obtain ⟨h1, h2, h3, h4, h5, h6, h7, h8, h9, h10, h11, q, h12, h13⟩ := h
  exact ⟨h1, h2, h3, h4, h5, h6, h7, h8, h9, h10, h11.drew, q, h12, h13⟩
theorem ST.grow {B : Nat} {w : World} {g A : Nat} {x y : Value} {w' w1 : World} {q' : Nat} (h : ST B w g A x y w') (hA : A ≠ g) (hg : w.heap.size + 1 < g) (hq : w'.grownBy w1 (some g)) (hR : RD B w1 g q') (hq' : q' ≤ 40) : ST B w g A x y w1 := by
  obtain ⟨h1, h2, h3, h4, h5, h6, h7, h8, h9, h10, h11, q, h12, h13⟩ := h
  have z1 := grow_z hq (by omega) ⟨h3, h4, h5, h6⟩
  have z2 := grow_z hq (by omega) ⟨h7, h8, h9, h10⟩
  exact ⟨grow_cell hq hA h1, grow_cell hq hA h2, rd_some (by rw [z1.1]; rfl), rd_some (by rw [z1.2.1]; rfl), z1.2.2.1, z1.2.2.2, rd_some (by rw [z2.1]; rfl), rd_some (by rw [z2.2.1]; rfl), z2.2.2.1, z2.2.2.2, h11.trans (grow_below hq (by omega) h11.size), q', hR, hq'⟩
theorem ST.set2 {B : Nat} {w : World} {g A p : Nat} {x y : Value} {w' : World} (h : ST B w g A x y w') (hA : A ≠ p) (hg : p ≠ g) (hB : B ≤ w.heap.size) (hp : p = w.heap.size ∨ p = w.heap.size + 1) (u v : Value) : ST B w g A x y ((w'.setCell ⟨p, 0, none⟩ u).setCell ⟨p, 1, none⟩ v) := by
  obtain ⟨h1, h2, h3, h4, h5, h6, h7, h8, h9, h10, h11, q, h12, h13⟩ := h
  have hA' : p ≠ A := fun e => hA e.symm
  refine ⟨?_, ?_, ?_, ?_, ?_, ?_, ?_, ?_, ?_, ?_, bst (bst h11 (by simp <;> omega) _) (by simp <;> omega) _, q, (h12.set hg (by omega) 0 u).set hg (by omega) 1 v, h13⟩
  · rw [World.cell?_setCell_other _ _ _ _ (by simp <;> omega), World.cell?_setCell_other _ _ _ _ (by simp <;> omega)]; exact h1
  · rw [World.cell?_setCell_other _ _ _ _ (by simp <;> omega), World.cell?_setCell_other _ _ _ _ (by simp <;> omega)]; exact h2
  all_goals rcases hp with rfl | rfl
  · exact rd_some (by rw [(two_cells h3 h4).1]; rfl)
  · exact rd_some (by rw [(setz (b := w.heap.size) (by omega) 1 v (setz (b := w.heap.size) (by omega) 0 u ⟨h3, h4, h5, h6⟩)).1]; rfl)
  · exact rd_some (by rw [(two_cells h3 h4).2]; rfl)
  · exact rd_some (by rw [(setz (b := w.heap.size) (by omega) 1 v (setz (b := w.heap.size) (by omega) 0 u ⟨h3, h4, h5, h6⟩)).2.1]; rfl)
  · simpa [go_sem] using h5
  · simpa [go_sem] using h5
  · simpa [go_sem] using h6
  · simpa [go_sem] using h6
  · exact rd_some (by rw [(setz (b := w.heap.size + 1) (by omega) 1 v (setz (b := w.heap.size + 1) (by omega) 0 u ⟨h7, h8, h9, h10⟩)).1]; rfl)
  · exact rd_some (by rw [(two_cells h7 h8).1]; rfl)
  · exact rd_some (by rw [(setz (b := w.heap.size + 1) (by omega) 1 v (setz (b := w.heap.size + 1) (by omega) 0 u ⟨h7, h8, h9, h10⟩)).2.1]; rfl)
  · exact rd_some (by rw [(two_cells h7 h8).2]; rfl)
  · simpa [go_sem] using h9
  · simpa [go_sem] using h9
  · simpa [go_sem] using h10
  · simpa [go_sem] using h10

theorem pair_end {w : World} {b q : Nat} {x0 y0 u0 v0 x y u v : Value} (hq : q ≠ b) (h : w.cell? ⟨b, 0, none⟩ = some x0 ∧ w.cell? ⟨b, 1, none⟩ = some y0 ∧ w.frozen? ⟨b, 0, none⟩ = false ∧ w.frozen? ⟨b, 1, none⟩ = false)
    (k : w.cell? ⟨q, 0, none⟩ = some u0 ∧ w.cell? ⟨q, 1, none⟩ = some v0 ∧ w.frozen? ⟨q, 0, none⟩ = false ∧ w.frozen? ⟨q, 1, none⟩ = false) :
    ((((w.setCell ⟨b, 0, none⟩ x).setCell ⟨b, 1, none⟩ y).setCell ⟨q, 0, none⟩ u).setCell ⟨q, 1, none⟩ v).cell? ⟨b, 0, none⟩ = some x ∧ ((((w.setCell ⟨b, 0, none⟩ x).setCell ⟨b, 1, none⟩ y).setCell ⟨q, 0, none⟩ u).setCell ⟨q, 1, none⟩ v).cell? ⟨b, 1, none⟩ = some y ∧
    ((((w.setCell ⟨b, 0, none⟩ x).setCell ⟨b, 1, none⟩ y).setCell ⟨q, 0, none⟩ u).setCell ⟨q, 1, none⟩ v).cell? ⟨q, 0, none⟩ = some u ∧ ((((w.setCell ⟨b, 0, none⟩ x).setCell ⟨b, 1, none⟩ y).setCell ⟨q, 0, none⟩ u).setCell ⟨q, 1, none⟩ v).cell? ⟨q, 1, none⟩ = some v := by
  obtain ⟨t0, t1⟩ := two_cells h.1 h.2.1
  have z := setz hq 1 v (setz hq 0 u ⟨t0 x y, t1 x y, by simpa [go_sem] using h.2.2.1, by simpa [go_sem] using h.2.2.2⟩)
  have zq := setz (q := b) (b := q) (fun e => hq e.symm) 1 y (setz (fun e => hq e.symm) 0 x k)
  obtain ⟨s0, s1⟩ := two_cells zq.1 zq.2.1
  exact ⟨z.1, z.2.1, s0 u v, s1 u v⟩
set_option maxHeartbeats 4000000 in
theorem ltwo_any (B : Nat) (w : World) (a : Option Addr) (len cap : Nat) (hB : B ≤ w.heap.size) (hby : Bytes B w a len) (hlc : len ≤ cap) (hc : cap ≤ 9223372036854775807) :
    Calls Try.prog 45 #[.slice a len cap] w (TwoPost w) := by
  have hO := open_any B ((w.alloc (.cells #[.int .i64 0, .int .i64 0] 26)).alloc (.cells #[.int .i64 0, .int .i64 0] 26)) a len cap (by simp <;> omega) ((hby.alloc _).alloc _) hlc hc
  go_enter Try.func45, Try.ntmps45
  go_wp2_with fail
  refine hO.mono ?_
  rintro e w1 ⟨g, rfl, hb, hR, hg⟩
  clear hO
  have hg' : w.heap.size + 1 < g := by simp at hg; omega
  have hsz := hb.size
  have hsz' : w.heap.size + 1 < w1.heap.size := by simp at hsz; omega
  have pr0 := carryz hb (allocz _ (newz w (.int .i64 0) (.int .i64 0) 26))
  have ps0 := newz (w.alloc (.cells #[.int .i64 0, .int .i64 0] 26)) (.int .i64 0) (.int .i64 0) 26
  rw [World.size_alloc] at ps0
  have ps0 := carryz hb ps0
  have hbb := btr (bal (bal (Below.refl _ _) _) _) hb
  have hQ := rat_any B w1 g 0 hR (by omega) (by omega)
  go_wp2_with fail
  refine hQ.mono ?_
  rintro e w2 ⟨x, y, q, rfl, hg2, hR2, hq⟩
  clear hQ
  have pr2 := grow_z hg2 (by omega) pr0
  have ps2 := grow_z hg2 (by omega) ps0
  have hz := hg2.size
  have hlt2 := hR2.lt
  have hbb2 := hbb.trans (grow_below hg2 (by omega) (by omega))
  clear hb hby pr0 ps0 hbb hg2 hsz
  go_upto_region 3 with fail
  have hS : ST B w g w2.heap.size (.int .i64 x) (.int .i64 y) (w2.alloc (.cells #[.int .i64 x, .int .i64 y] 26)) := ST.mk' (newz w2 _ _ _) (allocz _ pr2) (allocz _ ps2) (bal hbb2 _) (hR2.alloc _) (by omega)
  have hQ := rat_any B (w2.alloc (.cells #[.int .i64 x, .int .i64 y] 26)).drew g q ((hR2.alloc _).drewN 1) (by simp <;> omega) (by omega)
  have a1 : w2.heap.size ≠ w.heap.size := by omega
  have a2 : w2.heap.size ≠ w.heap.size + 1 := by omega
  have g1 : w.heap.size ≠ g := by omega
  have g2 : w.heap.size + 1 ≠ g := by omega
  have a3 : w2.heap.size ≠ g := by omega
  generalize hA : w2.heap.size = A at *
  generalize w2.alloc (.cells #[.int .i64 x, .int .i64 y] 26) = W0 at *
  go_region_held3 (fun w' => w'.cell? ⟨A, 0, none⟩ = some (.int .i64 x) ∧ w'.cell? ⟨A, 1, none⟩ = some (.int .i64 y) ∧ w'.cell? ⟨w.heap.size, 0, none⟩ = some (rd w' w.heap.size 0) ∧ w'.cell? ⟨w.heap.size, 1, none⟩ = some (rd w' w.heap.size 1) ∧ w'.frozen? ⟨w.heap.size, 0, none⟩ = false ∧ w'.frozen? ⟨w.heap.size, 1, none⟩ = false ∧ w'.cell? ⟨w.heap.size + 1, 0, none⟩ = some (rd w' (w.heap.size + 1) 0) ∧ w'.cell? ⟨w.heap.size + 1, 1, none⟩ = some (rd w' (w.heap.size + 1) 1) ∧ w'.frozen? ⟨w.heap.size + 1, 0, none⟩ = false ∧ w'.frozen? ⟨w.heap.size + 1, 1, none⟩ = false ∧ Below w.heap.size w w' ∧ ∃ q, RD B w' g q ∧ q ≤ 40) ((show ST B w g A (.int .i64 x) (.int .i64 y) _; first | with_reducible exact hS.drew | with_reducible exact HH | with_reducible exact ST.set2 HH a1 g1 hB (Or.inl rfl) _ _ | with_reducible exact ST.set2 HH a2 g2 hB (Or.inr rfl) _ _ | with_reducible exact ST.set2 (ST.set2 HH a1 g1 hB (Or.inl rfl) _ _) a2 g2 hB (Or.inr rfl) _ _ | with_reducible exact ST.set2 (ST.set2 HH a2 g2 hB (Or.inr rfl) _ _) a1 g1 hB (Or.inl rfl) _ _)) (first | (go_at_call 48; refine hQ.mono ?_; rintro e w' ⟨u, v, q2, rfl, hg3, hR3, hq3⟩; have HH : ST B w g A (.int .i64 x) (.int .i64 y) w' := ST.grow hS.drew a3 hg' hg3 hR3 (by omega)))
  go_wp2_with fail
  obtain ⟨h1, h2, h3, h4, h5, h6, h7, h8, h9, h10, h11, _⟩ := HH
  obtain ⟨t0, t1, t2, t3⟩ := pair_end (x := .int .i64 x) (y := .int .i64 y) (u := .int .i64 u) (v := .int .i64 v) (show w.heap.size + 1 ≠ w.heap.size by omega) ⟨h3, h4, h5, h6⟩ ⟨h7, h8, h9, h10⟩
  refine bodyPost_ret (v := .tuple #[.agg #[.int .i64 x, .int .i64 y], .agg #[.int .i64 u, .int .i64 v]]) (by simp [results, Try.results45, go_sem, t0, t1, t2, t3]) rfl ?_
  exact two_post x y u v rfl (bst (bst (bst (bst h11 (Nat.le_refl _) _) (Nat.le_refl _) _) (by simp <;> omega) _) (by simp <;> omega) _)
theorem drawRatAdd_any (B : Nat) (w : World) (a : Option Addr) (len cap : Nat) (hB : B ≤ w.heap.size) (hby : Bytes B w a len) (hlc : len ≤ cap) (hc : cap ≤ 9223372036854775807) :
    Calls Try.prog 21 #[.slice a len cap] w (TwoPost w) := by
  have hO := ltwo_any B ((w.alloc (.cells #[.int .i64 0, .int .i64 0] 26)).alloc (.cells #[.int .i64 0, .int .i64 0] 26)) a len cap (by simp <;> omega) ((hby.alloc _).alloc _) hlc hc
  go_enter Try.func21, Try.ntmps21
  go_wp2_with fail
  refine hO.mono ?_
  rintro e w1 ⟨x, y, u, v, rfl, hb⟩
  clear hO
  have hsz := hb.size
  have hsz' : w.heap.size + 1 < w1.heap.size := by simp at hsz; omega
  have pr0 := carryz hb (allocz _ (newz w (.int .i64 0) (.int .i64 0) 26))
  have ps0 := newz (w.alloc (.cells #[.int .i64 0, .int .i64 0] 26)) (.int .i64 0) (.int .i64 0) 26
  rw [World.size_alloc] at ps0
  replace ps0 := carryz hb ps0
  have hbb := btr (bal (bal (Below.refl _ _) _) _) hb
  clear hb hby
  go_wp2_with fail
  obtain ⟨t0, t1, t2, t3⟩ := pair_end (x := .int .i64 x) (y := .int .i64 y) (u := .int .i64 u) (v := .int .i64 v) (show w.heap.size + 1 ≠ w.heap.size by omega) pr0 ps0
  refine bodyPost_ret (v := .tuple #[.agg #[.int .i64 x, .int .i64 y], .agg #[.int .i64 u, .int .i64 v]]) (by simp [results, Try.results21, go_sem, t0, t1, t2, t3]) rfl ?_
  exact two_post x y u v rfl (bst (bst (bst (bst hbb (Nat.le_refl _) _) (Nat.le_refl _) _) (by simp <;> omega) _) (by simp <;> omega) _)
theorem drawRatMul_any (B : Nat) (w : World) (a : Option Addr) (len cap : Nat) (hB : B ≤ w.heap.size) (hby : Bytes B w a len) (hlc : len ≤ cap) (hc : cap ≤ 9223372036854775807) :
    Calls Try.prog 25 #[.slice a len cap] w (TwoPost w) := by
  have hO := ltwo_any B ((w.alloc (.cells #[.int .i64 0, .int .i64 0] 26)).alloc (.cells #[.int .i64 0, .int .i64 0] 26)) a len cap (by simp <;> omega) ((hby.alloc _).alloc _) hlc hc
  go_enter Try.func25, Try.ntmps25
  go_wp2_with fail
  refine hO.mono ?_
  rintro e w1 ⟨x, y, u, v, rfl, hb⟩
  clear hO
  have hsz := hb.size
  have hsz' : w.heap.size + 1 < w1.heap.size := by simp at hsz; omega
  have pr0 := carryz hb (allocz _ (newz w (.int .i64 0) (.int .i64 0) 26))
  have ps0 := newz (w.alloc (.cells #[.int .i64 0, .int .i64 0] 26)) (.int .i64 0) (.int .i64 0) 26
  rw [World.size_alloc] at ps0
  replace ps0 := carryz hb ps0
  have hbb := btr (bal (bal (Below.refl _ _) _) _) hb
  clear hb hby
  go_wp2_with fail
  obtain ⟨t0, t1, t2, t3⟩ := pair_end (x := .int .i64 x) (y := .int .i64 y) (u := .int .i64 u) (v := .int .i64 v) (show w.heap.size + 1 ≠ w.heap.size by omega) pr0 ps0
  refine bodyPost_ret (v := .tuple #[.agg #[.int .i64 x, .int .i64 y], .agg #[.int .i64 u, .int .i64 v]]) (by simp [results, Try.results25, go_sem, t0, t1, t2, t3]) rfl ?_
  exact two_post x y u v rfl (bst (bst (bst (bst hbb (Nat.le_refl _) _) (Nat.le_refl _) _) (by simp <;> omega) _) (by simp <;> omega) _)
theorem drawRatLess_any (B : Nat) (w : World) (a : Option Addr) (len cap : Nat) (hB : B ≤ w.heap.size) (hby : Bytes B w a len) (hlc : len ≤ cap) (hc : cap ≤ 9223372036854775807) :
    Calls Try.prog 29 #[.slice a len cap] w (TwoPost w) := by
  have hO := ltwo_any B ((w.alloc (.cells #[.int .i64 0, .int .i64 0] 26)).alloc (.cells #[.int .i64 0, .int .i64 0] 26)) a len cap (by simp <;> omega) ((hby.alloc _).alloc _) hlc hc
  go_enter Try.func29, Try.ntmps29
  go_wp2_with fail
  refine hO.mono ?_
  rintro e w1 ⟨x, y, u, v, rfl, hb⟩
  clear hO
  have hsz := hb.size
  have hsz' : w.heap.size + 1 < w1.heap.size := by simp at hsz; omega
  have pr0 := carryz hb (allocz _ (newz w (.int .i64 0) (.int .i64 0) 26))
  have ps0 := newz (w.alloc (.cells #[.int .i64 0, .int .i64 0] 26)) (.int .i64 0) (.int .i64 0) 26
  rw [World.size_alloc] at ps0
  replace ps0 := carryz hb ps0
  have hbb := btr (bal (bal (Below.refl _ _) _) _) hb
  clear hb hby
  go_wp2_with fail
  obtain ⟨t0, t1, t2, t3⟩ := pair_end (x := .int .i64 x) (y := .int .i64 y) (u := .int .i64 u) (v := .int .i64 v) (show w.heap.size + 1 ≠ w.heap.size by omega) pr0 ps0
  refine bodyPost_ret (v := .tuple #[.agg #[.int .i64 x, .int .i64 y], .agg #[.int .i64 u, .int .i64 v]]) (by simp [results, Try.results29, go_sem, t0, t1, t2, t3]) rfl ?_
  exact two_post x y u v rfl (bst (bst (bst (bst hbb (Nat.le_refl _) _) (Nat.le_refl _) _) (by simp <;> omega) _) (by simp <;> omega) _)
theorem drawRatMid_any (B : Nat) (w : World) (a : Option Addr) (len cap : Nat) (hB : B ≤ w.heap.size) (hby : Bytes B w a len) (hlc : len ≤ cap) (hc : cap ≤ 9223372036854775807) :
    Calls Try.prog 32 #[.slice a len cap] w (TwoPost w) := by
  have hO := ltwo_any B ((w.alloc (.cells #[.int .i64 0, .int .i64 0] 26)).alloc (.cells #[.int .i64 0, .int .i64 0] 26)) a len cap (by simp <;> omega) ((hby.alloc _).alloc _) hlc hc
  go_enter Try.func32, Try.ntmps32
  go_wp2_with fail
  refine hO.mono ?_
  rintro e w1 ⟨x, y, u, v, rfl, hb⟩
  clear hO
  have hsz := hb.size
  have hsz' : w.heap.size + 1 < w1.heap.size := by simp at hsz; omega
  have pr0 := carryz hb (allocz _ (newz w (.int .i64 0) (.int .i64 0) 26))
  have ps0 := newz (w.alloc (.cells #[.int .i64 0, .int .i64 0] 26)) (.int .i64 0) (.int .i64 0) 26
  rw [World.size_alloc] at ps0
  replace ps0 := carryz hb ps0
  have hbb := btr (bal (bal (Below.refl _ _) _) _) hb
  clear hb hby
  go_wp2_with fail
  obtain ⟨t0, t1, t2, t3⟩ := pair_end (x := .int .i64 x) (y := .int .i64 y) (u := .int .i64 u) (v := .int .i64 v) (show w.heap.size + 1 ≠ w.heap.size by omega) pr0 ps0
  refine bodyPost_ret (v := .tuple #[.agg #[.int .i64 x, .int .i64 y], .agg #[.int .i64 u, .int .i64 v]]) (by simp [results, Try.results32, go_sem, t0, t1, t2, t3]) rfl ?_
  exact two_post x y u v rfl (bst (bst (bst (bst hbb (Nat.le_refl _) _) (Nat.le_refl _) _) (by simp <;> omega) _) (by simp <;> omega) _)
end Go.Proofs.Ythhmhdiiffmkkaa
