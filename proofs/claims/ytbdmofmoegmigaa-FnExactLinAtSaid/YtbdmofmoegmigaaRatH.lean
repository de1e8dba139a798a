/- Contracts of both RatLess, and of the laws' toRat and eqRat. -/
import Derived.Test.YtbdmofmoegmigaaRatG
namespace Go.Proofs.Ytbdmofmoegmigaa
set_option linter.unusedVariables false
set_option linter.unusedSimpArgs false
open Go.RowKit
theorem less_no {a b c d : Int} (h : ¬ (okB a b = true ∧ okB c d = true)) : lessB a b c d = false := by
  unfold lessB; simp; intro h1 h2; exact absurd ⟨h1, h2⟩ h
theorem less_yes {a b c d : Int} (h1 : okB a b = true) (h2 : okB c d = true) : lessB a b c d = decide (a * d < c * b) := by
  unfold lessB; simp [h1, h2]

def SL (a b c d : Int) (w w' : World) : Prop := w'.cell? ⟨w.heap.size, 0, none⟩ = some (.int .i64 a) ∧ w'.cell? ⟨w.heap.size, 1, none⟩ = some (.int .i64 b) ∧ w'.cell? ⟨w.heap.size + 1, 0, none⟩ = some (.int .i64 c) ∧ w'.cell? ⟨w.heap.size + 1, 1, none⟩ = some (.int .i64 d)
      ∧ w.heap.size + 1 < w'.heap.size ∧ Below w.heap.size w w'
theorem SL.start {a b c d : Int} {w w' : World} (h : Below ((w.alloc (.cells #[.int .i64 a, .int .i64 b] 62)).alloc (.cells #[.int .i64 c, .int .i64 d] 62)).heap.size ((w.alloc (.cells #[.int .i64 a, .int .i64 b] 62)).alloc (.cells #[.int .i64 c, .int .i64 d] 62)) w') : SL a b c d w w' := by
  obtain ⟨hc, hf⟩ := bcell h
  refine ⟨?_, ?_, ?_, ?_, ?_, btr (bal (bal (Below.refl _ _) _) _) h⟩
  · rw [hc _ _ (by simp <;> omega)]; simp [go_sem]
  · rw [hc _ _ (by simp <;> omega)]; simp [go_sem]
  · rw [hc _ _ (by simp <;> omega)]; simp [go_sem]
  · rw [hc _ _ (by simp <;> omega)]; simp [go_sem]
  · have := h.size; first | omega | (simp at this; omega)
theorem SL.call {a b c d : Int} {w w' w1 : World} (hq : Below w'.heap.size w' w1) (h : SL a b c d w w') : SL a b c d w w1 := by
  obtain ⟨k0, k1, k2, k3, k8, k9⟩ := h
  obtain ⟨hc, hf⟩ := bcell hq
  refine ⟨?_, ?_, ?_, ?_, ?_, btr k9 hq⟩
  · rw [hc _ _ (by omega)]; exact k0
  · rw [hc _ _ (by omega)]; exact k1
  · rw [hc _ _ (by omega)]; exact k2
  · rw [hc _ _ (by omega)]; exact k3
  · have := hq.size; omega

theorem sless_any (a b c d : Int) (w : World) :
    Calls Try.prog 104 #[.agg #[.int .i64 a, .int .i64 b], .agg #[.int .i64 c, .int .i64 d]] w fun e w' => e = .returned (.bool (lessB a b c d)) ∧ Below w.heap.size w w' := by
  cases h1 : okB a b
  · rw [less_no (by simp [h1])]
    go_enter Try.func104, Try.ntmps104
    go_wp2_with (first | (go_at_call 132; refine (sok_any _ _ _).mono ?_; rintro e w1 ⟨rfl, hb⟩))
    go_ret
    exact ⟨rfl, btr (bal (bal (Below.refl _ _) _) _) hb⟩
  · cases h2 : okB c d
    · rw [less_no (by simp [h2])]
      go_enter Try.func104, Try.ntmps104
      go_wp2_with fail
      refine (sok_any _ _ _).mono ?_
      rintro e w1 ⟨rfl, hb⟩
      obtain ⟨k0, k1, k2, k3, k8, _⟩ := SL.start hb
      go_wp2_with (first | (go_at_call 132; refine (sok_any _ _ _).mono ?_; rintro e w2 ⟨rfl, hq⟩))
      go_ret
      exact ⟨rfl, btr (btr (bal (bal (Below.refl _ _) _) _) hb) hq⟩
    · rw [less_yes h1 h2]
      obtain ⟨a1, a2, b1, b2, _⟩ := okB_iff.1 h1
      obtain ⟨c1, c2, d1, d2, _⟩ := okB_iff.1 h2
      obtain ⟨p1, p2⟩ := mul_bd9 (x := a) (y := d) (by omega) (by omega)
      obtain ⟨p3, p4⟩ := mul_bd9 (x := c) (y := b) (by omega) (by omega)
      go_enter Try.func104, Try.ntmps104
      go_wp2_with fail
      refine (sok_any _ _ _).mono ?_
      rintro e w1 ⟨rfl, hb⟩
      obtain ⟨k0, k1, k2, k3, k8, _⟩ := SL.start hb
      go_wp2_with (first | (go_at_call 132; refine (sok_any _ _ _).mono ?_; rintro e w2 ⟨rfl, hq⟩; obtain ⟨i0, i1, i2, i3, i8, _⟩ := SL.start (btr hb hq)))
      go_ret
      exact ⟨rfl, btr (btr (bal (bal (Below.refl _ _) _) _) hb) hq⟩

theorem valid_at (n d : Int) (w : World) {v : Bool} (h : okB n d = v) :
    Calls Try.prog 118 #[.agg #[.int .i64 n, .int .i64 d]] w fun e w' => e = .returned (.bool v) ∧ Below w.heap.size w w' := by
  subst h; exact valid_any n d w
theorem rless_any (a b c d : Int) (w : World) :
    Calls Try.prog 91 #[.agg #[.int .i64 a, .int .i64 b], .agg #[.int .i64 c, .int .i64 d]] w fun e w' => e = .returned (.bool (lessB a b c d)) ∧ Below w.heap.size w w' := by
  cases h1 : okB a b
  · rw [less_no (by simp [h1])]
    go_enter Try.func91, Try.ntmps91
    go_wp2
    have gc := @gro_cell ((w.alloc (.cells #[.int .i64 a, .int .i64 b] 62)).alloc (.cells #[.int .i64 c, .int .i64 d] 62))
    refine wp_region_grow_lit (by kernel_rfl) (by kernel_rfl) ?_
    repeat (go_big_quiet_step ((first | (go_at_call 118; exact grow_call _ (valid_at _ _ _ h1)) | (go_at_call 129; exact grow_call _ (wide_any _ _ _)) | (go_at_call 130; exact grow_call _ (wless_any _ _ _ _ _ (by omega) (by omega) (by omega) (by omega))))))
    refine wpQuiet_nil ?_
    rintro _ ⟨X, rfl⟩
    go_wp2
    go_ret
    exact ⟨rfl, btr (bal (bal (Below.refl _ _) _) _) X.h⟩
  · cases h2 : okB c d
    · rw [less_no (by simp [h2])]
      go_enter Try.func91, Try.ntmps91
      go_wp2
      have gc := @gro_cell ((w.alloc (.cells #[.int .i64 a, .int .i64 b] 62)).alloc (.cells #[.int .i64 c, .int .i64 d] 62))
      refine wp_region_grow_lit (by kernel_rfl) (by kernel_rfl) ?_
      repeat (go_big_quiet_step ((first | (go_at_call 118; exact grow_call _ (valid_at _ _ _ h1)) | (go_at_call 118; exact grow_call _ (valid_at _ _ _ h2)) | (go_at_call 129; exact grow_call _ (wide_any _ _ _)) | (go_at_call 130; exact grow_call _ (wless_any _ _ _ _ _ (by omega) (by omega) (by omega) (by omega))))))
      refine wpQuiet_nil ?_
      rintro _ ⟨X, rfl⟩
      go_wp2
      go_ret
      exact ⟨rfl, btr (bal (bal (Below.refl _ _) _) _) X.h⟩
    · rw [less_yes h1 h2]
      obtain ⟨a1, a2, b1, b2, _⟩ := okB_iff.1 h1
      obtain ⟨c1, c2, d1, d2, _⟩ := okB_iff.1 h2
      go_enter Try.func91, Try.ntmps91
      go_wp2
      have gc := @gro_cell ((w.alloc (.cells #[.int .i64 a, .int .i64 b] 62)).alloc (.cells #[.int .i64 c, .int .i64 d] 62))
      refine wp_region_grow_lit (by kernel_rfl) (by kernel_rfl) ?_
      repeat (go_big_quiet_step ((first | (go_at_call 118; exact grow_call _ (valid_at _ _ _ h1)) | (go_at_call 118; exact grow_call _ (valid_at _ _ _ h2)) | (go_at_call 129; exact grow_call _ (wide_any _ _ _)) | (go_at_call 130; exact grow_call _ (wless_any _ _ _ _ _ (by omega) (by omega) (by omega) (by omega))))))
      refine wpQuiet_nil ?_
      rintro _ ⟨X, rfl⟩
      go_wp2
      go_ret
      exact ⟨rfl, btr (bal (bal (Below.refl _ _) _) _) X.h⟩

theorem torat_any (n d : Int) (w : World) :
    Calls Try.prog 120 #[.agg #[.int .i64 n, .int .i64 d]] w fun e w' => e = .returned (.agg #[.int .i64 n, .int .i64 d]) ∧ Below w.heap.size w w' := by
  go_enter Try.func120, Try.ntmps120
  go_wp2
  refine bodyPost_ret (v := .agg #[.int .i64 n, .int .i64 d]) (by simp [results, Try.results120, go_sem]) rfl ⟨rfl, ?_⟩
  exact bal (bal (bal (Below.refl _ _) _) _) _

theorem eqrat_any (n d : Int) (w : World) :
    Calls Try.prog 121 #[.agg #[.int .i64 n, .int .i64 d], .agg #[.int .i64 n, .int .i64 d]] w fun e w' => e = .returned (.bool true) ∧ Below w.heap.size w w' := by
  go_enter Try.func121, Try.ntmps121
  go_wp2
  go_ret
  exact ⟨rfl, bal (bal (Below.refl _ _) _) _⟩
end Go.Proofs.Ytbdmofmoegmigaa
