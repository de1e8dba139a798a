/- The law FnLinBent: the walk. -/
import Derived.Test.YthcabejfmoedfaaDoorLinNW
import Derived.Test.YthcabejfmoedfaaDoorLinAM
import Derived.Test.YthcabejfmoedfaaDoorLinSE
import Derived.Test.YthcabejfmoedfaaDoorBR
namespace Go.Proofs.YthcabejfmoedfaaDoor
set_option linter.unusedVariables false
set_option linter.unusedSimpArgs false
open Go.RowKit
set_option maxRecDepth 100000 in
set_option maxHeartbeats 1000000 in
theorem linnot_bad {A : Option Addr} {n c : Nat} {Z : Nat → Int} {b : Int} {s : Bool} {w : World} (hn : n ≤ 9223372036854775807) (hA : Ints w A n Z) (hv : okL n Z b = false) :
    Calls Tryd.prog 36 #[.agg #[.slice A n c, .int .i64 b, .bool s]] w fun e w' => e = .returned (.agg #[.slice none 0 0, .int .i64 0, .bool false]) ∧ Below w.heap.size w w' := by
  obtain ⟨x0, x1, x2, x3, x4, u, hx⟩ := wideV_six n Z b s
  have hW := wide_far (c := c) hn hA hv hx
  clear hv hx hA hn
  go_enter Tryd.func36, Tryd.ntmps36
  go_wp2_with (go_at_call 62; refine (hW _ (bal (bal (Below.refl _ _) _) _)).mono ?_; rintro e w1 ⟨rfl, hq⟩; obtain ⟨hc, hf⟩ := bcell hq; have hz := hq.size; have hz1 : w.heap.size + 1 < w1.heap.size := (by simp at hz; omega); clear hz; have ca := (fun (x : Obj) (b o : Nat) (h : b < w1.heap.size) => World.cell?_alloc_lt w1 x ⟨b, o, none⟩ h))
  clear ca hW
  have e0 : w1.cell? ⟨w.heap.size + 1, 0, none⟩ = some (.slice none 0 0) := by rw [hc _ _ (by simp <;> omega)]; simp [go_sem]
  have e1 : w1.cell? ⟨w.heap.size + 1, 1, none⟩ = some (.int .i64 0) := by rw [hc _ _ (by simp <;> omega)]; simp [go_sem]
  have e2 : w1.cell? ⟨w.heap.size + 1, 2, none⟩ = some (.bool false) := by rw [hc _ _ (by simp <;> omega)]; simp [go_sem]
  obtain ⟨t0, t1, t2⟩ := set3 e0 e1 e2 (.slice none 0 0) (.int .i64 0) (.bool false)
  clear hc hf
  replace t0 := carryA (.cells #[.int .i64 x0, .int .i64 x1, .int .i64 x2, .int .i64 x3, .int .i64 x4, .bool u] 91) t0
  replace t1 := carryA (.cells #[.int .i64 x0, .int .i64 x1, .int .i64 x2, .int .i64 x3, .int .i64 x4, .bool u] 91) t1
  replace t2 := carryA (.cells #[.int .i64 x0, .int .i64 x1, .int .i64 x2, .int .i64 x3, .int .i64 x4, .bool u] 91) t2
  refine bodyPost_ret (v := .agg #[.slice none 0 0, .int .i64 0, .bool false]) (by simp [results, Tryd.results36, go_sem, t0, t1, t2]) rfl ⟨rfl, ?_⟩
  (repeat first | with_reducible exact Below.refl _ _ | with_reducible assumption | with_reducible refine Below.drew ?_ | with_reducible refine bdn ?_ _ | with_reducible refine bal ?_ _ | (with_reducible refine bst ?_ ?_ _; rotate_left; (simp <;> omega)) | (with_reducible refine btr ?_ (by with_reducible assumption)))
set_option maxRecDepth 100000 in
set_option maxHeartbeats 1000000 in
theorem lintext_bad {A : Option Addr} {n c : Nat} {Z : Nat → Int} {b : Int} {s : Bool} {w : World} (hn : n ≤ 9223372036854775807) (hA : Ints w A n Z) (hv : okL n Z b = false) :
    Calls Tryd.prog 22 #[.agg #[.slice A n c, .int .i64 b, .bool s]] w fun e w' => e = .returned (.string ⟨#[]⟩) ∧ Below w.heap.size w w' := by
  obtain ⟨x0, x1, x2, x3, x4, u, hx⟩ := wideV_six n Z b s
  have hW := wide_far (c := c) hn hA hv hx
  clear hv hx hA hn
  go_enter Tryd.func22, Tryd.ntmps22
  go_wp2_with fail
  refine (hW _ (bal (Below.refl _ _) _)).mono ?_
  rintro e w1 ⟨rfl, hq⟩
  go_wp2
  go_ret
  refine ⟨rfl, ?_⟩
  (repeat first | with_reducible exact Below.refl _ _ | with_reducible assumption | with_reducible refine Below.drew ?_ | with_reducible refine bdn ?_ _ | with_reducible refine bal ?_ _ | (with_reducible refine bst ?_ ?_ _; rotate_left; (simp <;> omega)) | (with_reducible refine btr ?_ (by with_reducible assumption)))
theorem KcL.two3V (w : World) (x0 x1 x2 y0 y1 y2 : Value) (t : TypeId) : KcL [(w.heap.size, 0, x0), (w.heap.size, 1, x1), (w.heap.size, 2, x2), (w.heap.size + 1, 0, y0), (w.heap.size + 1, 1, y1), (w.heap.size + 1, 2, y2)] ((w.alloc (.cells #[x0, x1, x2] t)).alloc (.cells #[y0, y1, y2] t)) :=
  (KcL.alloc (KcL.new3 w x0 x1 x2 t rfl) _).app (KcL.new3 (w.alloc (.cells #[x0, x1, x2] t)) y0 y1 y2 t (by simp))
theorem at_bad {n m : Nat} {Z N D : Nat → Int} {b : Int} {s : Bool} (h : okL n Z b = false) : atB n Z b s m N D = (false, false) := by
  unfold atB; rw [if_neg (by simp [h])]
theorem sum_bad {na nb : Nat} {Z Y : Nat → Int} {b m d n : Int} {s u : Bool} (h : okL na Z b = false) : sumR na Z b s m nb Y d u n = (zeroL, false) := by
  unfold sumR; rw [if_neg (by simp [h])]
set_option maxRecDepth 100000 in
set_option maxHeartbeats 8000000 in
theorem walk_LinBent (a0 : Option Addr) (len0 cap0 : Nat) (w : World) (hby : Bytes w.heap.size w a0 len0) (hlc : len0 ≤ cap0) (hc : cap0 ≤ 9223372036854775807) :
    Calls Tryd.prog 8 #[.slice a0 len0 cap0] w fun e w' => e = .returned (.bool true) ∧ Below w.heap.size w w' := by
  by_cases hbig : 1048576 < len0
  · go_enter Tryd.func8, Tryd.ntmps8
    go_wp2
    go_ret
    exact ⟨rfl, Below.refl _ _⟩
  go_enter Tryd.func8, Tryd.ntmps8
  go_wp2_with fail
  refine (drawlinat_any w.heap.size w a0 len0 cap0 (Nat.le_refl _) hby hlc hc).mono ?_
  rintro e w1 ⟨A, n, c, Z, b, s, D, m, d, N, M, rfl, hn, hA, hm, hD, hq⟩
  clear hby hlc hc hbig
  have al := bal (Below.refl w1.heap.size w1) (.cells #[.slice A n c, .int .i64 b, .bool s] 39)
  have H := KcL.new3 w1 (.slice A n c) (.int .i64 b) (.bool s) 39 rfl
  have I1 := hA.below al
  replace hD := hD.below al
  have q0 := btr hq al
  clear hA hq al
  have HH := H; obtain ⟨c0, c1, cc2, _⟩ := HH
  cases hv : okL n Z b
  · go_wp2_with fail
    refine (linok_at (by omega) I1 hv _ (Below.refl _ _)).mono ?_
    rintro e w2 ⟨rfl, hq⟩
    clear c0 c1 cc2
    replace H := H.below hq
    replace I1 := I1.below hq
    replace hD := hD.below hq
    replace q0 := btr q0 hq
    clear hq
    have HH := H; obtain ⟨c0, c1, cc2, _⟩ := HH
    go_wp2_with fail
    refine (slinok_at (by omega) I1 hv _ (Below.refl _ _)).mono ?_
    rintro e w3 ⟨rfl, hq⟩
    clear c0 c1 cc2
    replace H := H.below hq
    replace I1 := I1.below hq
    replace hD := hD.below hq
    replace q0 := btr q0 hq
    clear hq
    have HH := H; obtain ⟨c0, c1, cc2, _⟩ := HH
    go_wp2_with fail
    refine (linat_atN (by omega) I1 (by omega) hD (at_bad hv)).mono ?_
    rintro e w4 ⟨rfl, hq⟩
    clear c0 c1 cc2
    replace H := H.below hq
    replace I1 := I1.below hq
    replace hD := hD.below hq
    replace q0 := btr q0 hq
    clear hq
    have HH := H; obtain ⟨c0, c1, cc2, _⟩ := HH
    go_wp2_with fail
    refine (linsum_any A n c Z b 1 s A n c Z b 0 s _ (by omega) I1 (by omega) I1).mono ?_
    rintro e w5 ⟨v, rfl, ⟨A3, c3, rfl, _, _, O3⟩, hq⟩
    rw [sum_bad hv] at O3 ⊢
    simp only [zeroL] at O3 ⊢
    have I3 := O3.ints
    clear c0 c1 cc2
    replace H := H.below hq
    replace I1 := I1.below hq
    replace hD := hD.below hq
    replace q0 := btr q0 hq
    clear hq
    have HH := H; obtain ⟨c0, c1, cc2, _⟩ := HH
    have al := bal (bal (Below.refl w5.heap.size w5) (.cells #[.slice A3 0 c3, .int .i64 0, .bool false] 39)) (.cells #[.slice none 0 0, .int .i64 0, .bool false] 39)
    replace H := (H.below al).app (KcL.two3V w5 (.slice A3 0 c3) (.int .i64 0) (.bool false) (.slice none 0 0) (.int .i64 0) (.bool false) 39)
    replace I1 := I1.below al
    replace I3 := I3.below al
    replace q0 := btr q0 al
    have I0 : ∀ W, Ints W none 0 (fun _ => 0) := fun W => .inl rfl
    clear c0 c1 cc2 hD O3
    go_upto_region 10 with fail
    generalize (w5.alloc (.cells #[.slice A3 0 c3, .int .i64 0, .bool false] 39)).alloc (.cells #[.slice none 0 0, .int .i64 0, .bool false] 39) = w6 at *
    have hbf : badB n Z b s = false := by unfold badB; rw [hv]; rfl
    have hff : freeB n Z b s = false := by unfold freeB; rw [hv]; rfl
    have hS := fun (X : Gro w6) => linsame_at (w := gro w6 X) (c := c3) (d := 0) (by omega) (by omega) (I3.below X.h) (I0 _) (eqL_self 0 (fun _ => 0) 0 false)
    have hS2 := fun (X : Gro w6) => linsame_at (w := gro w6 X) (c := 0) (d := 0) (by omega) (by omega) (I0 (gro w6 X)) (I0 (gro w6 X)) (eqL_self 0 (fun _ => 0) 0 false)
    have hN := fun (X : Gro w6) => linnot_bad (w := gro w6 X) (c := c) (s := s) (by omega) (I1.below X.h) hv
    have hB := fun (X : Gro w6) => linbad_any A n c Z b s (gro w6 X) (by omega) (I1.below X.h)
    have hF := fun (X : Gro w6) => linfree_any A n c Z b s (gro w6 X) (by omega) (I1.below X.h)
    have hT := fun (X : Gro w6) => lintext_bad (w := gro w6 X) (c := c) (s := s) (by omega) (I1.below X.h) hv
    rw [hbf] at hB
    rw [hff] at hF
    have gc := @gro_cell w6
    have HH := H; obtain ⟨c0, c1, cc2, d0, d1, d2, e0, e1, e2, _⟩ := HH
    simp only at c0 c1 cc2 d0 d1 d2 e0 e1 e2
    have l1 := cell_lt c0
    have l5 := cell_lt d0
    have l6 := cell_lt e0
    clear H I1 I3 I0 hv hbf hff
    refine wp_region_grow_lit (by kernel_rfl) (by kernel_rfl) ?_
    repeat (go_big_quiet_step (first | (go_at_call 30; first | with_reducible exact grow_call _ (hS _) | with_reducible exact grow_call _ (hS2 _)) | (go_at_call 36; exact grow_call _ (hN _)) | (go_at_call 37; exact grow_call _ (hB _)) | (go_at_call 38; exact grow_call _ (hF _)) | (go_at_call 22; exact grow_call _ (hT _))))
    refine wpQuiet_nil ?_
    rintro _ ⟨X, rfl⟩
    go_wp2
    go_ret
    exact ⟨rfl, btr q0 X.h⟩
  · have d1 : ((true : Bool) != true) = false := rfl
    go_wp2_with fail
    refine (linok_at (by omega) I1 hv _ (Below.refl _ _)).mono ?_
    rintro e w2 ⟨rfl, hq⟩
    clear c0 c1 cc2
    replace H := H.below hq
    replace I1 := I1.below hq
    replace hD := hD.below hq
    replace q0 := btr q0 hq
    clear hq
    have HH := H; obtain ⟨c0, c1, cc2, _⟩ := HH
    go_wp2_with fail
    refine (slinok_at (by omega) I1 hv _ (Below.refl _ _)).mono ?_
    rintro e w3 ⟨rfl, hq⟩
    clear c0 c1 cc2
    replace H := H.below hq
    replace I1 := I1.below hq
    replace hD := hD.below hq
    replace q0 := btr q0 hq
    clear hq
    have HH := H; obtain ⟨c0, c1, cc2, _⟩ := HH
    go_wp2_with fail
    refine (slinok_at (by omega) I1 hv _ (Below.refl _ _)).mono ?_
    rintro e w4 ⟨rfl, hq⟩
    go_wp2
    go_ret
    exact ⟨rfl, btr q0 hq⟩
end Go.Proofs.YthcabejfmoedfaaDoor
