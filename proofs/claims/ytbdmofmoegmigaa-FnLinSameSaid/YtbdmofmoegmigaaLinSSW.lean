/- The law FnLinSame: the walk. -/
import Derived.Test.YtbdmofmoegmigaaLinSD2
import Derived.Test.YtbdmofmoegmigaaLinP
import Derived.Test.YtbdmofmoegmigaaBI
import Derived.Test.YtbdmofmoegmigaaByt
namespace Go.Proofs.Ytbdmofmoegmigaa
set_option linter.unusedVariables false
set_option linter.unusedSimpArgs false
open Go.RowKit
theorem eqL_symm (n : Nat) (Z : Nat → Int) (b : Int) (s : Bool) (m : Nat) (Y : Nat → Int) (d : Int) (u : Bool) : eqL m Y d u n Z b s = eqL n Z b s m Y d u := by
  have e1 : eqI m Y n Z = eqI n Z m Y := by
    rw [Bool.eq_iff_iff, eqI_iff, eqI_iff]
    constructor
    · rintro ⟨rfl, h⟩; exact ⟨rfl, fun k hk => (h k hk).symm⟩
    · rintro ⟨rfl, h⟩; exact ⟨rfl, fun k hk => (h k hk).symm⟩
  unfold eqL
  rw [e1, show decide (d = b) = decide (b = d) from decide_eq_decide.2 eq_comm, show decide (u = s) = decide (s = u) from decide_eq_decide.2 eq_comm]
theorem eqL_flip (n : Nat) (Z : Nat → Int) (b : Int) (s : Bool) : eqL n Z b s n Z b (!s) = false := by
  unfold eqL; cases s <;> simp
theorem eqL_longer (n : Nat) (Z Y : Nat → Int) (b : Int) (s : Bool) : eqL n Z b s (n + 1) Y b s = false := by
  unfold eqL; rw [eqI_len (by omega)]; rfl
theorem same_at {A B : Option Addr} {n m c d : Nat} {Z Y : Nat → Int} {b b2 : Int} {s s2 : Bool} {w : World} (hn : n ≤ 9223372036854775806) (hm : m ≤ 9223372036854775806) (hA : Ints w A n Z) (hB : Ints w B m Y) {v : Bool} (h : eqL n Z b s m Y b2 s2 = v) (W : World) (hb : Below w.heap.size w W) :
    Calls Try.prog 28 #[.agg #[.slice A n c, .int .i64 b, .bool s], .agg #[.slice B m d, .int .i64 b2, .bool s2]] W fun e w' => e = .returned (.bool v) ∧ Below W.heap.size W w' := by
  subst h; exact linsame_any A B n m c d Z Y b b2 s s2 W hn hm (hA.below hb) (hB.below hb)
theorem ssame_at {A B : Option Addr} {n m c d : Nat} {Z Y : Nat → Int} {b b2 : Int} {s s2 : Bool} {w : World} (hn : n ≤ 9223372036854775806) (hm : m ≤ 9223372036854775806) (hA : Ints w A n Z) (hB : Ints w B m Y) {v : Bool} (h : eqL n Z b s m Y b2 s2 = v) (W : World) (hb : Below w.heap.size w W) :
    Calls Try.prog 43 #[.agg #[.slice A n c, .int .i64 b, .bool s], .agg #[.slice B m d, .int .i64 b2, .bool s2]] W fun e w' => e = .returned (.bool v) ∧ Below W.heap.size W w' := by
  subst h; exact slinsame_any A B n m c d Z Y b b2 s s2 W hn hm (hA.below hb) (hB.below hb)
theorem KcL.two3S (w : World) (x0 x1 x2 y0 y1 y2 : Value) (t : TypeId) : KcL [(w.heap.size, 0, x0), (w.heap.size, 1, x1), (w.heap.size, 2, x2), (w.heap.size + 1, 0, y0), (w.heap.size + 1, 1, y1), (w.heap.size + 1, 2, y2)] ((w.alloc (.cells #[x0, x1, x2] t)).alloc (.cells #[y0, y1, y2] t)) :=
  (KcL.alloc (KcL.new3 w x0 x1 x2 t rfl) _).app (KcL.new3 (w.alloc (.cells #[x0, x1, x2] t)) y0 y1 y2 t (by simp))
set_option maxRecDepth 100000 in
set_option maxHeartbeats 16000000 in
theorem walk_LinSame (a0 : Option Addr) (len0 cap0 : Nat) (w : World) (hby : Bytes w.heap.size w a0 len0) (hlc : len0 ≤ cap0) (hc : cap0 ≤ 9223372036854775807) :
    Calls Try.prog 7 #[.slice a0 len0 cap0] w fun e w' => e = .returned (.bool true) ∧ Below w.heap.size w w' := by
  by_cases hbig : 1048576 < len0
  · go_enter Try.func7, Try.ntmps7
    go_wp2
    go_ret
    exact ⟨rfl, Below.refl _ _⟩
  go_enter Try.func7, Try.ntmps7
  go_wp2_with fail
  refine (drawlinsame_any w.heap.size w a0 len0 cap0 (Nat.le_refl _) hby hlc hc).mono ?_
  rintro e w1 ⟨A, n, c, Z, b, s, A2, n2, cB, Z2, b2, s2, rfl, ⟨hn1, hn⟩, hn2, hA, hA2, hq⟩
  have al := bal (bal (Below.refl w1.heap.size w1) (.cells #[.slice A n c, .int .i64 b, .bool s] 25)) (.cells #[.slice A2 n2 cB, .int .i64 b2, .bool s2] 25)
  have H := KcL.two3S w1 (.slice A n c) (.int .i64 b) (.bool s) (.slice A2 n2 cB) (.int .i64 b2) (.bool s2) 25
  have q0 := btr hq al
  have I1 := hA.below al
  have I2 := hA2.below al
  clear hA hA2 hq al hby hlc hc hbig
  go_upto_region 4 with fail
  generalize (w1.alloc (.cells #[.slice A n c, .int .i64 b, .bool s] 25)).alloc (.cells #[.slice A2 n2 cB, .int .i64 b2, .bool s2] 25) = w2 at *
  obtain ⟨i0, hi, hz0, hz1, hz2⟩ := info_parts infoI
  have hsy := eqL_symm n Z b s n2 Z2 b2 s2
  rcases hv : eqL n Z b s n2 Z2 b2 s2 with _ | _
  · skip
    rw [hv] at hsy
    have HH := H; obtain ⟨c0, c1, cc2, d0, d1, d2, _⟩ := HH
    simp only at c0 c1 cc2 d0 d1 d2
    have y0 := cell_lt c0
    have y1 := cell_lt d0
    have gc := @gro_cell w2
    have s1 := fun X : Gro w2 => same_at (c := c) (d := cB) (by omega) (by omega) I1 I2 hv (gro w2 X) X.h
    have s2' := fun X : Gro w2 => ssame_at (c := c) (d := cB) (by omega) (by omega) I1 I2 hv (gro w2 X) X.h
    have s3 := fun X : Gro w2 => same_at (c := cB) (d := c) (by omega) (by omega) I2 I1 hsy (gro w2 X) X.h
    have s4 := fun X : Gro w2 => same_at (c := c) (d := c) (by omega) (by omega) I1 I1 (eqL_self n Z b s) (gro w2 X) X.h
    refine wp_region_grow_lit (by kernel_rfl) (by kernel_rfl) ?_
    repeat (go_big_quiet_step ((first | (go_at_call 28; first | with_reducible exact grow_call _ (s1 _) | with_reducible exact grow_call _ (s3 _) | with_reducible exact grow_call _ (s4 _)) | (go_at_call 43; with_reducible exact grow_call _ (s2' _)))))
    refine wpQuiet_nil ?_
    rintro _ ⟨X, rfl⟩
    have hX : Below w2.heap.size w2 (gro w2 X) := X.h
    clear s1 s2' s3 s4 gc c0 c1 cc2 d0 d1 d2 y0 y1 hv hsy I2
    replace H := H.below hX
    replace I1 := I1.below hX
    replace q0 := btr q0 hX
    generalize gro w2 X = w3 at *
    have HH := H; obtain ⟨c0, c1, cc2, d0, d1, d2, _⟩ := HH
    simp only at c0 c1 cc2 d0 d1 d2
    have y0 := cell_lt c0
    rcases I1 with h | ⟨gA, off, rfl, hgA, hcA⟩
    · omega
    have HC := hid hcA
    have hl3 : w1.heap.size < w3.heap.size := y0
    clear hcA H
    go_upto_region 9 with fail
    have hb6 := bal (bal (Below.refl w3.heap.size w3) (.cells #[.slice (some ⟨gA, off, none⟩) n c, .int .i64 b, .bool (!s)] 25)) (.cells #[.slice (some ⟨gA, off, none⟩) n c, .int .i64 b, .bool s] 25)
    have H6 : KcL [(w1.heap.size, 0, .slice (some ⟨gA, off, none⟩) n c), (w1.heap.size, 1, .int .i64 b), (w1.heap.size, 2, .bool s), (w3.heap.size, 0, .slice (some ⟨gA, off, none⟩) n c), (w3.heap.size, 1, .int .i64 b), (w3.heap.size, 2, .bool (!s)), (w3.heap.size + 1, 0, .slice (some ⟨gA, off, none⟩) n c), (w3.heap.size + 1, 1, .int .i64 b), (w3.heap.size + 1, 2, .bool s)] ((w3.alloc (.cells #[.slice (some ⟨gA, off, none⟩) n c, .int .i64 b, .bool (!s)] 25)).alloc (.cells #[.slice (some ⟨gA, off, none⟩) n c, .int .i64 b, .bool s] 25)) :=
      KcL.app (L := [(w1.heap.size, 0, .slice (some ⟨gA, off, none⟩) n c), (w1.heap.size, 1, .int .i64 b), (w1.heap.size, 2, .bool s)]) ⟨carryA _ (carryA _ c0), carryA _ (carryA _ c1), carryA _ (carryA _ cc2), trivial⟩ (KcL.two3S w3 _ _ _ _ _ _ _)
    have f6 : ∀ o, ((w3.alloc (.cells #[.slice (some ⟨gA, off, none⟩) n c, .int .i64 b, .bool (!s)] 25)).alloc (.cells #[.slice (some ⟨gA, off, none⟩) n c, .int .i64 b, .bool s] 25)).frozen? ⟨w3.heap.size + 1, o, none⟩ = false := fun o => by have := fr_new (w3.alloc (.cells #[.slice (some ⟨gA, off, none⟩) n c, .int .i64 b, .bool (!s)] 25)) #[.slice (some ⟨gA, off, none⟩) n c, .int .i64 b, .bool s] 25 o; rwa [World.size_alloc] at this
    have hz6 : ((w3.alloc (.cells #[.slice (some ⟨gA, off, none⟩) n c, .int .i64 b, .bool (!s)] 25)).alloc (.cells #[.slice (some ⟨gA, off, none⟩) n c, .int .i64 b, .bool s] 25)).heap.size = w3.heap.size + 2 := by simp
    generalize (w3.alloc (.cells #[.slice (some ⟨gA, off, none⟩) n c, .int .i64 b, .bool (!s)] 25)).alloc (.cells #[.slice (some ⟨gA, off, none⟩) n c, .int .i64 b, .bool s] 25) = w6 at *
    clear c0 c1 cc2 d0 d1 d2
    have hown0 := own_empty1 w6 3 1
    have HH := H6; obtain ⟨c0, c1, cc2, d0, d1, d2, e0, e1, e2, _⟩ := HH
    simp only at c0 c1 cc2 d0 d1 d2 e0 e1 e2
    have b0 := carryA (.cells #[] 3) c0
    have hl6 : w1.heap.size < w6.heap.size := by omega
    have hm6 : w3.heap.size + 1 < w6.heap.size := by omega
    clear hz6
    have hB6 : Below w3.heap.size w3 (w6.alloc (.cells #[] 3)) := bal hb6 _
    have hnw : ∀ (j : Nat) (u : Value), (vals n Z)[j]? = some u → (w6.alloc (.cells #[] 3)).cell? ((⟨gA, off, none⟩ : Addr).add j) = some u := by
      intro j u hj
      have hjn : j < n := by
        have := (List.getElem?_eq_some_iff.1 hj).1
        simpa [vals] using this
      rw [vals_at hjn] at hj
      rw [Addr.add_mid, ← hj]
      exact carry hB6 (HC.out j hjn)
    have hone : ∀ u ∈ vals n Z, u.oneCell' = true := by
      intro u hu
      unfold vals at hu
      obtain ⟨j, _, rfl⟩ := List.mem_map.1 hu
      rfl
    go_upto_region 10 with (first
      | (at_builtin; refine wpList_append_own _ rfl _ _ 23 rfl w6.heap.size 3 i0 (.int .i64 0) 1 8 Try.underlying23 hi hz0 hz1 hz2 rfl (by decide) _ _ _ rfl (ho1.alloc _) ⟨w7.heap.size, 0, none⟩ 1 1 [.int .i64 0] rfl rfl (new_one _ _ _) (fun u hu => by simp at hu; subst hu; rfl) (by unfold maxLen; omega) (by omega) (by simp; omega) ?_; intro v2 w8 ho2 hg2 _; obtain ⟨A8, c8, rfl⟩ := own_slice ho2; have hB8 := (bal hB7 (.cells #[.int .i64 0] 3)).grown hg2 (bal hB7 _).size (fun r hr => by have := (ho1.lt r hr).1; omega); have H8 := (H7.alloc (.cells #[.int .i64 0] 3)).keep hg2 (fun e he r hr => by have := (ho1.lt r hr).1; simp at he; rcases he with rfl | rfl | rfl | rfl | rfl | rfl | rfl | rfl | rfl <;> (simp only; omega)); have z8 : w7.heap.size + 1 ≤ w8.heap.size := (by have := hg2.size; simpa using this); have f8 := frz hg2 (by simp; omega) (fun e => by have := (ho1.lt _ e.symm).1; omega) (fun o => carryAf _ (f7 o) (by omega)); obtain ⟨x0, x1, x2, y0, y1, y2, z0, z1, z2, _⟩ := H8; simp only at x0 x1 x2 y0 y1 y2 z0 z1 z2; have g8 := f8 0)
      | (at_builtin; refine wpList_append_own _ rfl _ _ 23 rfl w6.heap.size 3 i0 (.int .i64 0) 1 8 Try.underlying23 hi hz0 hz1 hz2 rfl (by decide) _ _ _ rfl hown0 ⟨gA, off, none⟩ n c (vals n Z) rfl (by simp [vals]) hnw hone (by unfold maxLen; omega) (by omega) (by simp) ?_; intro v1 w7 ho1 hg1 _; simp only [Nat.zero_add, List.nil_append] at ho1; have hB7 := hB6.grown hg1 hB6.size (fun r hr => by have := (hown0.lt r hr).1; omega); have H7 := (H6.alloc (.cells #[] 3)).keep hg1 (fun e he r hr => by have := (hown0.lt r hr).1; simp at he; rcases he with rfl | rfl | rfl | rfl | rfl | rfl | rfl | rfl | rfl <;> (simp only; omega)); have z7 : w6.heap.size + 1 ≤ w7.heap.size := (by have := hg1.size; simpa using this); have f7 := frz hg1 (by simp; omega) (fun e => by have := (hown0.lt _ e.symm).1; omega) (fun o => carryAf _ (f6 o) (by omega))))
    rw [← vals_put n Z 0] at ho2
    obtain ⟨A9, c9, e9, _, _, hO⟩ := own_new (W := w6) (by omega) (Nat.le_refl _) ho2
    obtain ⟨rfl, rfl⟩ : A8 = A9 ∧ c8 = c9 := by simpa using e9
    have I8 := (hO.set (p := w3.heap.size + 1) (o := 0) (.slice A8 (n + 1) c8) hm6).ints
    have q8 : Below w3.heap.size w3 (w8.setCell ⟨w3.heap.size + 1, 0, none⟩ (.slice A8 (n + 1) c8)) := bst hB8 (by simp) _
    have IA := (Ints.below (w := w3) (A := some ⟨gA, off, none⟩) (n := n) (Z := Z) (.inr ⟨gA, off, rfl, hgA, HC.out⟩) q8)
    have gz : w8.grownBy (w8.setCell ⟨w3.heap.size + 1, 0, none⟩ (.slice A8 (n + 1) c8)) (some (w3.heap.size + 1)) := grow_set w8 _ 0 _
    replace x0 := grow_cell gz (by omega) x0
    replace x1 := grow_cell gz (by omega) x1
    replace x2 := grow_cell gz (by omega) x2
    replace y0 := grow_cell gz (by omega) y0
    replace y1 := grow_cell gz (by omega) y1
    replace y2 := grow_cell gz (by omega) y2
    have zz0 := World.cell?_setCell_same w8 ⟨w3.heap.size + 1, 0, none⟩ (.slice A8 (n + 1) c8) z0
    replace z1 : (w8.setCell ⟨w3.heap.size + 1, 0, none⟩ (.slice A8 (n + 1) c8)).cell? ⟨w3.heap.size + 1, 1, none⟩ = some (.int .i64 b) := by rw [World.cell?_setCell_other _ _ _ _ (by simp)]; exact z1
    replace z2 : (w8.setCell ⟨w3.heap.size + 1, 0, none⟩ (.slice A8 (n + 1) c8)).cell? ⟨w3.heap.size + 1, 2, none⟩ = some (.bool s) := by rw [World.cell?_setCell_other _ _ _ _ (by simp)]; exact z2
    replace q0 := btr q0 q8
    clear gz z0 g8 f8 hB8 hO ho2 hg2 e9 hB7 H7 f7 ho1 hg1 hnw hone hB6 hb6 H6 f6 hown0 b0 c0 c1 cc2 d0 d1 d2 e0 e1 e2 q8
    generalize w8.setCell ⟨w3.heap.size + 1, 0, none⟩ (.slice A8 (n + 1) c8) = w9 at *
    go_wp2_with fail
    refine (same_at (by omega) (by omega) IA IA (eqL_flip n Z b s) _ (Below.refl _ _)).mono ?_
    rintro e wa ⟨rfl, hq⟩
    replace x0 := carry hq x0
    replace x1 := carry hq x1
    replace x2 := carry hq x2
    replace zz0 := carry hq zz0
    replace z1 := carry hq z1
    replace z2 := carry hq z2
    replace IA := IA.below hq
    replace I8 := I8.below hq
    replace q0 := btr q0 hq
    clear hq y0 y1 y2
    go_wp2_with fail
    refine (same_at (by omega) (by omega) IA I8 (eqL_longer n Z _ b s) _ (Below.refl _ _)).mono ?_
    rintro e wb ⟨rfl, hq⟩
    go_wp2
    go_ret
    exact ⟨rfl, btr q0 hq⟩
  · skip
    rw [hv] at hsy
    have HH := H; obtain ⟨c0, c1, cc2, d0, d1, d2, _⟩ := HH
    simp only at c0 c1 cc2 d0 d1 d2
    have y0 := cell_lt c0
    have y1 := cell_lt d0
    have gc := @gro_cell w2
    have s1 := fun X : Gro w2 => same_at (c := c) (d := cB) (by omega) (by omega) I1 I2 hv (gro w2 X) X.h
    have s2' := fun X : Gro w2 => ssame_at (c := c) (d := cB) (by omega) (by omega) I1 I2 hv (gro w2 X) X.h
    have s3 := fun X : Gro w2 => same_at (c := cB) (d := c) (by omega) (by omega) I2 I1 hsy (gro w2 X) X.h
    have s4 := fun X : Gro w2 => same_at (c := c) (d := c) (by omega) (by omega) I1 I1 (eqL_self n Z b s) (gro w2 X) X.h
    refine wp_region_grow_lit (by kernel_rfl) (by kernel_rfl) ?_
    repeat (go_big_quiet_step ((first | (go_at_call 28; first | with_reducible exact grow_call _ (s1 _) | with_reducible exact grow_call _ (s3 _) | with_reducible exact grow_call _ (s4 _)) | (go_at_call 43; with_reducible exact grow_call _ (s2' _)))))
    refine wpQuiet_nil ?_
    rintro _ ⟨X, rfl⟩
    have hX : Below w2.heap.size w2 (gro w2 X) := X.h
    clear s1 s2' s3 s4 gc c0 c1 cc2 d0 d1 d2 y0 y1 hv hsy I2
    replace H := H.below hX
    replace I1 := I1.below hX
    replace q0 := btr q0 hX
    generalize gro w2 X = w3 at *
    have HH := H; obtain ⟨c0, c1, cc2, d0, d1, d2, _⟩ := HH
    simp only at c0 c1 cc2 d0 d1 d2
    have y0 := cell_lt c0
    rcases I1 with h | ⟨gA, off, rfl, hgA, hcA⟩
    · omega
    have HC := hid hcA
    have hl3 : w1.heap.size < w3.heap.size := y0
    clear hcA H
    go_upto_region 9 with fail
    have hb6 := bal (bal (Below.refl w3.heap.size w3) (.cells #[.slice (some ⟨gA, off, none⟩) n c, .int .i64 b, .bool (!s)] 25)) (.cells #[.slice (some ⟨gA, off, none⟩) n c, .int .i64 b, .bool s] 25)
    have H6 : KcL [(w1.heap.size, 0, .slice (some ⟨gA, off, none⟩) n c), (w1.heap.size, 1, .int .i64 b), (w1.heap.size, 2, .bool s), (w3.heap.size, 0, .slice (some ⟨gA, off, none⟩) n c), (w3.heap.size, 1, .int .i64 b), (w3.heap.size, 2, .bool (!s)), (w3.heap.size + 1, 0, .slice (some ⟨gA, off, none⟩) n c), (w3.heap.size + 1, 1, .int .i64 b), (w3.heap.size + 1, 2, .bool s)] ((w3.alloc (.cells #[.slice (some ⟨gA, off, none⟩) n c, .int .i64 b, .bool (!s)] 25)).alloc (.cells #[.slice (some ⟨gA, off, none⟩) n c, .int .i64 b, .bool s] 25)) :=
      KcL.app (L := [(w1.heap.size, 0, .slice (some ⟨gA, off, none⟩) n c), (w1.heap.size, 1, .int .i64 b), (w1.heap.size, 2, .bool s)]) ⟨carryA _ (carryA _ c0), carryA _ (carryA _ c1), carryA _ (carryA _ cc2), trivial⟩ (KcL.two3S w3 _ _ _ _ _ _ _)
    have f6 : ∀ o, ((w3.alloc (.cells #[.slice (some ⟨gA, off, none⟩) n c, .int .i64 b, .bool (!s)] 25)).alloc (.cells #[.slice (some ⟨gA, off, none⟩) n c, .int .i64 b, .bool s] 25)).frozen? ⟨w3.heap.size + 1, o, none⟩ = false := fun o => by have := fr_new (w3.alloc (.cells #[.slice (some ⟨gA, off, none⟩) n c, .int .i64 b, .bool (!s)] 25)) #[.slice (some ⟨gA, off, none⟩) n c, .int .i64 b, .bool s] 25 o; rwa [World.size_alloc] at this
    have hz6 : ((w3.alloc (.cells #[.slice (some ⟨gA, off, none⟩) n c, .int .i64 b, .bool (!s)] 25)).alloc (.cells #[.slice (some ⟨gA, off, none⟩) n c, .int .i64 b, .bool s] 25)).heap.size = w3.heap.size + 2 := by simp
    generalize (w3.alloc (.cells #[.slice (some ⟨gA, off, none⟩) n c, .int .i64 b, .bool (!s)] 25)).alloc (.cells #[.slice (some ⟨gA, off, none⟩) n c, .int .i64 b, .bool s] 25) = w6 at *
    clear c0 c1 cc2 d0 d1 d2
    have hown0 := own_empty1 w6 3 1
    have HH := H6; obtain ⟨c0, c1, cc2, d0, d1, d2, e0, e1, e2, _⟩ := HH
    simp only at c0 c1 cc2 d0 d1 d2 e0 e1 e2
    have b0 := carryA (.cells #[] 3) c0
    have hl6 : w1.heap.size < w6.heap.size := by omega
    have hm6 : w3.heap.size + 1 < w6.heap.size := by omega
    clear hz6
    have hB6 : Below w3.heap.size w3 (w6.alloc (.cells #[] 3)) := bal hb6 _
    have hnw : ∀ (j : Nat) (u : Value), (vals n Z)[j]? = some u → (w6.alloc (.cells #[] 3)).cell? ((⟨gA, off, none⟩ : Addr).add j) = some u := by
      intro j u hj
      have hjn : j < n := by
        have := (List.getElem?_eq_some_iff.1 hj).1
        simpa [vals] using this
      rw [vals_at hjn] at hj
      rw [Addr.add_mid, ← hj]
      exact carry hB6 (HC.out j hjn)
    have hone : ∀ u ∈ vals n Z, u.oneCell' = true := by
      intro u hu
      unfold vals at hu
      obtain ⟨j, _, rfl⟩ := List.mem_map.1 hu
      rfl
    go_upto_region 10 with (first
      | (at_builtin; refine wpList_append_own _ rfl _ _ 23 rfl w6.heap.size 3 i0 (.int .i64 0) 1 8 Try.underlying23 hi hz0 hz1 hz2 rfl (by decide) _ _ _ rfl (ho1.alloc _) ⟨w7.heap.size, 0, none⟩ 1 1 [.int .i64 0] rfl rfl (new_one _ _ _) (fun u hu => by simp at hu; subst hu; rfl) (by unfold maxLen; omega) (by omega) (by simp; omega) ?_; intro v2 w8 ho2 hg2 _; obtain ⟨A8, c8, rfl⟩ := own_slice ho2; have hB8 := (bal hB7 (.cells #[.int .i64 0] 3)).grown hg2 (bal hB7 _).size (fun r hr => by have := (ho1.lt r hr).1; omega); have H8 := (H7.alloc (.cells #[.int .i64 0] 3)).keep hg2 (fun e he r hr => by have := (ho1.lt r hr).1; simp at he; rcases he with rfl | rfl | rfl | rfl | rfl | rfl | rfl | rfl | rfl <;> (simp only; omega)); have z8 : w7.heap.size + 1 ≤ w8.heap.size := (by have := hg2.size; simpa using this); have f8 := frz hg2 (by simp; omega) (fun e => by have := (ho1.lt _ e.symm).1; omega) (fun o => carryAf _ (f7 o) (by omega)); obtain ⟨x0, x1, x2, y0, y1, y2, z0, z1, z2, _⟩ := H8; simp only at x0 x1 x2 y0 y1 y2 z0 z1 z2; have g8 := f8 0)
      | (at_builtin; refine wpList_append_own _ rfl _ _ 23 rfl w6.heap.size 3 i0 (.int .i64 0) 1 8 Try.underlying23 hi hz0 hz1 hz2 rfl (by decide) _ _ _ rfl hown0 ⟨gA, off, none⟩ n c (vals n Z) rfl (by simp [vals]) hnw hone (by unfold maxLen; omega) (by omega) (by simp) ?_; intro v1 w7 ho1 hg1 _; simp only [Nat.zero_add, List.nil_append] at ho1; have hB7 := hB6.grown hg1 hB6.size (fun r hr => by have := (hown0.lt r hr).1; omega); have H7 := (H6.alloc (.cells #[] 3)).keep hg1 (fun e he r hr => by have := (hown0.lt r hr).1; simp at he; rcases he with rfl | rfl | rfl | rfl | rfl | rfl | rfl | rfl | rfl <;> (simp only; omega)); have z7 : w6.heap.size + 1 ≤ w7.heap.size := (by have := hg1.size; simpa using this); have f7 := frz hg1 (by simp; omega) (fun e => by have := (hown0.lt _ e.symm).1; omega) (fun o => carryAf _ (f6 o) (by omega))))
    rw [← vals_put n Z 0] at ho2
    obtain ⟨A9, c9, e9, _, _, hO⟩ := own_new (W := w6) (by omega) (Nat.le_refl _) ho2
    obtain ⟨rfl, rfl⟩ : A8 = A9 ∧ c8 = c9 := by simpa using e9
    have I8 := (hO.set (p := w3.heap.size + 1) (o := 0) (.slice A8 (n + 1) c8) hm6).ints
    have q8 : Below w3.heap.size w3 (w8.setCell ⟨w3.heap.size + 1, 0, none⟩ (.slice A8 (n + 1) c8)) := bst hB8 (by simp) _
    have IA := (Ints.below (w := w3) (A := some ⟨gA, off, none⟩) (n := n) (Z := Z) (.inr ⟨gA, off, rfl, hgA, HC.out⟩) q8)
    have gz : w8.grownBy (w8.setCell ⟨w3.heap.size + 1, 0, none⟩ (.slice A8 (n + 1) c8)) (some (w3.heap.size + 1)) := grow_set w8 _ 0 _
    replace x0 := grow_cell gz (by omega) x0
    replace x1 := grow_cell gz (by omega) x1
    replace x2 := grow_cell gz (by omega) x2
    replace y0 := grow_cell gz (by omega) y0
    replace y1 := grow_cell gz (by omega) y1
    replace y2 := grow_cell gz (by omega) y2
    have zz0 := World.cell?_setCell_same w8 ⟨w3.heap.size + 1, 0, none⟩ (.slice A8 (n + 1) c8) z0
    replace z1 : (w8.setCell ⟨w3.heap.size + 1, 0, none⟩ (.slice A8 (n + 1) c8)).cell? ⟨w3.heap.size + 1, 1, none⟩ = some (.int .i64 b) := by rw [World.cell?_setCell_other _ _ _ _ (by simp)]; exact z1
    replace z2 : (w8.setCell ⟨w3.heap.size + 1, 0, none⟩ (.slice A8 (n + 1) c8)).cell? ⟨w3.heap.size + 1, 2, none⟩ = some (.bool s) := by rw [World.cell?_setCell_other _ _ _ _ (by simp)]; exact z2
    replace q0 := btr q0 q8
    clear gz z0 g8 f8 hB8 hO ho2 hg2 e9 hB7 H7 f7 ho1 hg1 hnw hone hB6 hb6 H6 f6 hown0 b0 c0 c1 cc2 d0 d1 d2 e0 e1 e2 q8
    generalize w8.setCell ⟨w3.heap.size + 1, 0, none⟩ (.slice A8 (n + 1) c8) = w9 at *
    go_wp2_with fail
    refine (same_at (by omega) (by omega) IA IA (eqL_flip n Z b s) _ (Below.refl _ _)).mono ?_
    rintro e wa ⟨rfl, hq⟩
    replace x0 := carry hq x0
    replace x1 := carry hq x1
    replace x2 := carry hq x2
    replace zz0 := carry hq zz0
    replace z1 := carry hq z1
    replace z2 := carry hq z2
    replace IA := IA.below hq
    replace I8 := I8.below hq
    replace q0 := btr q0 hq
    clear hq y0 y1 y2
    go_wp2_with fail
    refine (same_at (by omega) (by omega) IA I8 (eqL_longer n Z _ b s) _ (Below.refl _ _)).mono ?_
    rintro e wb ⟨rfl, hq⟩
    go_wp2
    go_ret
    exact ⟨rfl, btr q0 hq⟩
end Go.Proofs.Ytbdmofmoegmigaa
