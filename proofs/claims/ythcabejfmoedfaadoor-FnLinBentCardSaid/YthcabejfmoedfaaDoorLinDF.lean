/- Contract of the draw of numbers (l2Numbers). -/
import Derived.Test.YthcabejfmoedfaaDoorLinDB
import Derived.Test.YthcabejfmoedfaaDoorLinU
import Derived.Test.YthcabejfmoedfaaDoorBR
namespace Go.Proofs.YthcabejfmoedfaaDoor
set_option linter.unusedVariables false
set_option linter.unusedSimpArgs false
open Go.RowKit
/-- the cells of k fractions -/
def rl (k : Nat) (N D : Nat → Int) : List Value := (List.range (k * 2)).map (ratV N D)
theorem rl_snoc (k : Nat) (N D : Nat → Int) : rl (k + 1) N D = rl k N D ++ [.int .i64 (N k), .int .i64 (D k)] := by
  unfold rl
  rw [show (k + 1) * 2 = k * 2 + 1 + 1 by omega, List.range_succ, List.range_succ, List.map_append, List.map_append, List.append_assoc]
  simp [ratV_even, ratV_odd]
theorem rl_put (k : Nat) (N D : Nat → Int) (x y : Int) : rl (k + 1) (fun j => if j = k then x else N j) (fun j => if j = k then y else D j) = rl k N D ++ [.int .i64 x, .int .i64 y] := by
  rw [rl_snoc]
  congr 1
  · unfold rl
    refine List.map_congr_left fun j hj => ?_
    have hj' := List.mem_range.1 hj
    have : j / 2 ≠ k := by omega
    unfold ratV
    simp [this]
  · simp
/-- a slice of n fractions in a block from lo on -/
def NewRats (lo : Nat) (w : World) (A : Option Addr) (n : Nat) (N D : Nat → Int) : Prop :=
  n = 0 ∨ ∃ h off, A = some ⟨h, off, none⟩ ∧ lo ≤ h ∧ h < w.heap.size ∧ ∀ k, k < n → w.cell? ⟨h, off + k * 2, none⟩ = some (.int .i64 (N k)) ∧ w.cell? ⟨h, off + k * 2 + 1, none⟩ = some (.int .i64 (D k))
theorem NewRats.rats {lo : Nat} {w : World} {A : Option Addr} {n : Nat} {N D : Nat → Int} (h : NewRats lo w A n N D) : Rats w A n N D := by
  rcases h with h | ⟨g, off, ha, _, hg, hc⟩
  · exact .inl h
  · exact .inr ⟨g, off, ha, hg, hc⟩
theorem NewRats.grow {lo : Nat} {w w' : World} {A : Option Addr} {n : Nat} {N D : Nat → Int} {row : Option Nat} (h : NewRats lo w A n N D) (hg : w.grownBy w' row) (hr : ∀ r, row = some r → r < lo) : NewRats lo w' A n N D := by
  rcases h with h | ⟨g, off, ha, h1, h2, hc⟩
  · exact .inl h
  · have ng : some g ≠ row := fun e => by have := hr g e.symm; omega
    exact .inr ⟨g, off, ha, h1, Nat.lt_of_lt_of_le h2 hg.size, fun k hk => ⟨hg.cell (hc k hk).1 ng, hg.cell (hc k hk).2 ng⟩⟩
/-- an owned row of n fractions, read -/
theorem own_rats {w : World} {base n : Nat} {v : Value} {N D : Nat → Int} (hn : 0 < n) (h : w.ownsRow base 23 2 v n (rl n N D)) :
    ∃ g c, v = .slice (some ⟨g, 0, none⟩) n c ∧ base ≤ g ∧ n ≤ c ∧ g < w.heap.size ∧ (∀ o, w.frozen? ⟨g, o, none⟩ = false) ∧ ∀ k, k < n → w.cell? ⟨g, k * 2, none⟩ = some (.int .i64 (N k)) ∧ w.cell? ⟨g, k * 2 + 1, none⟩ = some (.int .i64 (D k)) := by
  obtain ⟨hl, ⟨rfl, h⟩ | ⟨g, cap, cur, rfl, hg, hh, h1, h2, h3, h4⟩⟩ := h
  · omega
  have at_ : ∀ j, j < n * 2 → w.cell? ⟨g, j, none⟩ = some (ratV N D j) := by
    intro j hj
    have e : (cur.toList.take (n * 2))[j]? = some (ratV N D j) := by rw [h4]; unfold rl; simp [hj]
    rw [List.getElem?_take_of_lt hj, Array.getElem?_toList] at e
    simp [World.cell?, hh, e]
  refine ⟨g, cap, rfl, hg, h1, (Array.getElem?_eq_some_iff.1 hh).1, fun o => by simp [World.frozen?, hh], fun k hk => ⟨?_, ?_⟩⟩
  · rw [at_ _ (by omega), ratV_even]
  · rw [at_ _ (by omega), ratV_odd]
/-- the state of the loop -/
structure RBld (Bd lo : Nat) (w0 : World) (g k p : Nat) (v : Value) (N D : Nat → Int) (wr : World) : Prop where
  grown : w0.grownBy wr (some g)
  own : wr.ownsRow lo 23 2 v k (rl k N D)
  rd : ∃ q, q ≤ p ∧ RD Bd wr g q
theorem RBld.grow {Bd lo : Nat} {w0 : World} {g k p p' : Nat} {v : Value} {N D : Nat → Int} {wr w2 : World} (h : RBld Bd lo w0 g k p v N D wr) (hg : wr.grownBy w2 (some g)) (hlo : g < lo) (hR : ∃ q, q ≤ p' ∧ RD Bd w2 g q) : RBld Bd lo w0 g k p' v N D w2 where
  grown := grow_trans h.grown hg
  own := h.own.kept hg (by
    cases hv : v.ownBlock with
    | none => exact .inl rfl
    | some x => have := (h.own.lt x hv).1; exact .inr (by simp; omega))
  rd := hR
theorem RBld.step {Bd lo : Nat} {w0 : World} {g k p : Nat} {v v' : Value} {N D : Nat → Int} {x y : Int} {w2 w3 : World} {o : Obj} (h : RBld Bd lo w0 g k p v N D w2) (hlo : g < lo) (hBd : Bd ≤ lo) (hw0 : w0.heap.size ≤ lo)
    (hown : w3.ownsRow lo 23 2 v' (k + 1) (rl k N D ++ [.int .i64 x, .int .i64 y])) (hg : (w2.alloc o).grownBy w3 v.ownBlock) :
    RBld Bd lo w0 g (k + 1) p v' (fun j => if j = k then x else N j) (fun j => if j = k then y else D j) w3 := by
  have hne : ∀ r, r < lo → v.ownBlock ≠ some r := by
    intro r hr he
    have := (h.own.lt r he).1
    omega
  obtain ⟨q, hq, hR⟩ := h.rd
  have hR3 : RD Bd w3 g q := (hR.alloc _).grow hg fun r hr => by
    have := (h.own.lt r hr).1
    omega
  refine ⟨⟨hg.os.trans h.grown.os, hg.tape.trans h.grown.tape, hg.output.trans h.grown.output, Nat.le_trans h.grown.size (Nat.le_trans (by simp) hg.size), fun i hi hr => ?_⟩, ?_, q, hq, hR3⟩
  · have hi2 := Nat.lt_of_lt_of_le hi h.grown.size
    rw [hg.block i (by simp; omega) (Ne.symm (hne i (by omega)))]
    exact (World.grownBy_alloc w2 _ none).block i hi2 (by simp) |>.trans (h.grown.block i hi hr)
  · rw [rl_put]; exact hown
theorem new_two (w : World) (x y : Value) (t : TypeId) : ∀ (j : Nat) (u : Value), ([x, y] : List Value)[j]? = some u → (w.alloc (.cells #[x, y] t)).cell? ((⟨w.heap.size, 0, none⟩ : Addr).add j) = some u := by
  intro j u h
  match j with
  | 0 => simp at h; subst h; simp [go_sem, Addr.add]
  | 1 => simp at h; subst h; simp [go_sem, Addr.add]
  | j + 2 => simp at h
theorem set2R {w1 : World} {b : Nat} {u0 u1 : Value} (h0 : w1.cell? ⟨b, 0, none⟩ = some u0) (h1 : w1.cell? ⟨b, 1, none⟩ = some u1) (x0 x1 : Value) :
    ((w1.setCell ⟨b, 0, none⟩ x0).setCell ⟨b, 1, none⟩ x1).cell? ⟨b, 0, none⟩ = some x0 ∧ ((w1.setCell ⟨b, 0, none⟩ x0).setCell ⟨b, 1, none⟩ x1).cell? ⟨b, 1, none⟩ = some x1 := by
  refine ⟨?_, ?_⟩
  · rw [World.cell?_setCell_other _ _ _ _ (by simp)]; exact World.cell?_setCell_same _ _ _ h0
  · exact World.cell?_setCell_same _ _ _ (by rw [World.cell?_setCell_other _ _ _ _ (by simp)]; exact h1)
theorem frzR {w w' : World} {b : Nat} {row : Option Nat} (hg : w.grownBy w' row) (hb : b < w.heap.size) (hr : some b ≠ row) (ff : ∀ o, w.frozen? ⟨b, o, none⟩ = false) : ∀ o, w'.frozen? ⟨b, o, none⟩ = false := fun o =>
  (World.frozen?_of_block (w := w) (a := ⟨b, o, none⟩) (hg.block b hb hr)).trans (ff o)
/-- numbers, drawn -/
def NumsP (Bd : Nat) (w : World) (g p : Nat) (e : Ending) (w' : World) : Prop :=
  ∃ A m c N D q, e = .returned (.slice A m c) ∧ m ≤ 4 ∧ NewRats w.heap.size w' A m N D ∧ w.grownBy w' (some g) ∧ RD Bd w' g q ∧ q ≤ p + 20
def zsU : List Int := [0, 1, -1, 2, 3, -5, 7]
def zsV : List Int := [1, 1, 2, 3]
theorem row7U (w : World) (t : TypeId) : ∀ k, k < zsU.length → (w.alloc (.cells #[.int .i64 0, .int .i64 1, .int .i64 (-1), .int .i64 2, .int .i64 3, .int .i64 (-5), .int .i64 7] t)).cell? ⟨w.heap.size, k, none⟩ = some (.int .i64 (zsU.getD k 0)) := by
  intro k hk
  simp only [zsU, List.length_cons, List.length_nil] at hk
  have hk' : k = 0 ∨ k = 1 ∨ k = 2 ∨ k = 3 ∨ k = 4 ∨ k = 5 ∨ k = 6 := by omega
  rcases hk' with rfl | rfl | rfl | rfl | rfl | rfl | rfl <;> simp [go_sem, zsU]
theorem row4V (w : World) (t : TypeId) : ∀ k, k < zsV.length → (w.alloc (.cells #[.int .i64 1, .int .i64 1, .int .i64 2, .int .i64 3] t)).cell? ⟨w.heap.size, k, none⟩ = some (.int .i64 (zsV.getD k 0)) := by
  intro k hk
  simp only [zsV, List.length_cons, List.length_nil] at hk
  have hk' : k = 0 ∨ k = 1 ∨ k = 2 ∨ k = 3 := by omega
  rcases hk' with rfl | rfl | rfl | rfl <;> simp [go_sem, zsV]
theorem own_empty (w : World) (t : TypeId) (size : Nat) : (w.alloc (.cells #[] t)).ownsRow w.heap.size t size (.slice (some ⟨w.heap.size, 0, none⟩) 0 0) 0 [] :=
  ⟨by simp, .inr ⟨w.heap.size, 0, #[], rfl, Nat.le_refl _, Deep.blk_alloc_new _ _, Nat.le_refl _, by unfold maxLen; omega, by simp, by simp⟩⟩
set_option maxRecDepth 100000 in
set_option maxHeartbeats 4000000 in
theorem l2numbers_any (Bd : Nat) (w : World) (g p : Nat) (hR : RD Bd w g p) (hp : p ≤ 100000) :
    Calls Tryd.prog 74 #[.pointer (some ⟨g, 0, none⟩)] w (NumsP Bd w g p) := by
  have hlt := hR.lt
  have hle := hR.le
  have h0 : RBld Bd w.heap.size w g 0 p (.slice (some ⟨w.heap.size, 0, none⟩) 0 0) (fun _ => 0) (fun _ => 0) (w.alloc (.cells #[] 23)) :=
    ⟨grow_alloc (grow_refl _ _) _, own_empty w 23 2, p, Nat.le_refl _, hR.alloc _⟩
  obtain ⟨i0, hi, hz0, hz1, hz2⟩ := info_parts infoR
  go_enter Tryd.func74, Tryd.ntmps74
  go_wp2_with fail
  go_loopw [3, 4] (fun v i wr => ∃ (k : Nat) (N D : Nat → Int), k ≤ 4 ∧ i = .int .i64 k ∧ RBld Bd w.heap.size w g k (p + 2 * k) v N D wr) (fun _ i _ => 4 - (intOf i).toNat)
  case atStart => exact ⟨0, _, _, Nat.zero_le _, rfl, h0⟩
  case round =>
    clear h0
    obtain ⟨k, N, D, hk, rfl, h⟩ := hrel
    by_cases hlt4 : k < 4
    · obtain ⟨q, hq, hRq⟩ := h.rd
      go_wp2_with fail
      refine (num_any Bd _ g q wr.heap.size 7 7 zsU (hRq.alloc _) (by omega) rfl (by decide) (by decide) (by have := hRq.lt; omega) (row7U wr 3)).mono ?_
      rintro e w1 ⟨x1, _, rfl, hg1, hR1⟩
      have h1 := h.grow (p' := p + 2 * k + 1) (grow_trans (grow_alloc (grow_refl _ _) _) hg1) hlt ⟨_, by omega, hR1⟩
      clear hg1 h
      go_wp2_with fail
      refine (num_any Bd _ g (q + 1) w1.heap.size 4 4 zsV (hR1.alloc _) (by omega) rfl (by decide) (by decide) (by have := hR1.lt; omega) (row4V w1 3)).mono ?_
      rintro e w2 ⟨x2, _, rfl, hg2, hR2⟩
      have h2 := h1.grow (p' := p + 2 * (k + 1)) (grow_trans (grow_alloc (grow_refl _ _) _) hg2) hlt ⟨_, by omega, hR2⟩
      clear hg2 h1 hR1
      go_wp2_with fail
      refine (sof_any x1 x2 _).mono ?_
      rintro e w3 ⟨rfl, hq3⟩
      have h3 := h2.grow (p' := p + 2 * (k + 1)) (grow_of_below hq3 _) hlt (let ⟨q', a, b⟩ := h2.rd; ⟨q', a, b.below hq3⟩)
      clear hq3 h2
      generalize ofR x1 x2 = r
      obtain ⟨X, Y, ok⟩ := r
      simp only
      have hsz3 : w.heap.size ≤ w3.heap.size := h3.grown.size
      clear hq hRq hR2
      cases ok
      · skip
        have h4 := h3.grow (p' := p + 2 * (k + 1)) (grow_alloc (grow_refl w3 (some g)) (.cells #[.int .i64 0, .int .i64 1] 23)) hlt (let ⟨q', a, b⟩ := h3.rd; ⟨q', a, b.alloc _⟩)
        have hnw : ∀ (j : Nat) (u : Value), ([.int .i64 0, .int .i64 1] : List Value)[j]? = some u → ((w3.alloc (.cells #[.int .i64 0, .int .i64 1] 23)).alloc (.cells #[.int .i64 0, .int .i64 1] 23)).cell? ((⟨w3.heap.size + 1, 0, none⟩ : Addr).add j) = some u := by
          have := new_two (w3.alloc (.cells #[.int .i64 0, .int .i64 1] 23)) (.int .i64 0) (.int .i64 1) 23
          rwa [World.size_alloc] at this
        clear h3
        go_wp2_with ((at_builtin; refine wpList_append_own _ rfl _ _ 48 rfl w.heap.size 23 i0 (.agg #[.int .i64 0, .int .i64 0]) 2 16 Tryd.underlying48 hi hz0 hz1 hz2 rfl (by decide) _ _ _ rfl (h4.own.alloc _) ⟨w3.heap.size + 1, 0, none⟩ 1 1 [.int .i64 0, .int .i64 1] rfl rfl hnw (fun u hu => by simp at hu; first | (rcases hu with rfl | rfl <;> rfl) | (subst hu; rfl)) (by unfold maxLen; omega) (by omega) (by simp; omega) ?_; intro v' w5 hown hgrow _; have H5 := hid (h4.step hlt (by omega) (Nat.le_refl _) hown hgrow)))
        exact ⟨⟨k + 1, _, _, by omega, by go_num, H5.out⟩, by simp [intOf]; omega⟩
      · skip
        have h4 := h3.grow (p' := p + 2 * (k + 1)) (grow_alloc (grow_refl w3 (some g)) (.cells #[.int .i64 X, .int .i64 Y] 23)) hlt (let ⟨q', a, b⟩ := h3.rd; ⟨q', a, b.alloc _⟩)
        have hnw : ∀ (j : Nat) (u : Value), ([.int .i64 X, .int .i64 Y] : List Value)[j]? = some u → ((w3.alloc (.cells #[.int .i64 X, .int .i64 Y] 23)).alloc (.cells #[.int .i64 X, .int .i64 Y] 23)).cell? ((⟨w3.heap.size + 1, 0, none⟩ : Addr).add j) = some u := by
          have := new_two (w3.alloc (.cells #[.int .i64 X, .int .i64 Y] 23)) (.int .i64 X) (.int .i64 Y) 23
          rwa [World.size_alloc] at this
        clear h3
        go_wp2_with ((at_builtin; refine wpList_append_own _ rfl _ _ 48 rfl w.heap.size 23 i0 (.agg #[.int .i64 0, .int .i64 0]) 2 16 Tryd.underlying48 hi hz0 hz1 hz2 rfl (by decide) _ _ _ rfl (h4.own.alloc _) ⟨w3.heap.size + 1, 0, none⟩ 1 1 [.int .i64 X, .int .i64 Y] rfl rfl hnw (fun u hu => by simp at hu; first | (rcases hu with rfl | rfl <;> rfl) | (subst hu; rfl)) (by unfold maxLen; omega) (by omega) (by simp; omega) ?_; intro v' w5 hown hgrow _; have H5 := hid (h4.step hlt (by omega) (Nat.le_refl _) hown hgrow)))
        exact ⟨⟨k + 1, _, _, by omega, by go_num, H5.out⟩, by simp [intOf]; omega⟩
    · have hk4 : k = 4 := by omega
      subst hk4
      obtain ⟨q, hq, hRq⟩ := h.rd
      go_wp2_with fail
      refine (pick_any Bd _ g q 40 hRq (by omega) (by omega)).mono ?_
      rintro e w1 ⟨x, _, _, rfl, hg1, hR1⟩
      have h1 := h.grow (p' := p + 9) hg1 hlt ⟨_, by omega, hR1⟩
      clear h hg1 hRq
      obtain ⟨hh, c, rfl, hh1, hc1, hh2, hf, hcell⟩ := own_rats (by omega) h1.own
      have hgr := h1.grown
      clear h1
      by_cases e0 : x = 0
      · subst e0
        go_wp2
        go_ret
        exact ⟨some ⟨hh, 2, none⟩, 3, c - 1, fun k => N (k + 1), fun k => D (k + 1), _, rfl, by omega, .inr ⟨hh, 2, rfl, hh1, hh2, fun k hk => ⟨by rw [show 2 + k * 2 = (k + 1) * 2 by omega]; exact (hcell (k + 1) (by omega)).1, by rw [show 2 + k * 2 + 1 = (k + 1) * 2 + 1 by omega]; exact (hcell (k + 1) (by omega)).2⟩⟩, hgr, hR1, by omega⟩
      have d0 : (x == 0) = false := by simpa using e0
      clear e0
      by_cases e1 : x = 1
      · subst e1
        go_wp2_with fail
        refine (rat_any Bd w1 g (q + 1) hR1 (by have := hR1.le; have := hR1.lt; omega) (by omega)).mono ?_
        rintro e w2 ⟨X, Y, q2, rfl, hg2, hR2, hq2⟩
        have hne : hh ≠ g := by omega
        have c0 : w2.cell? ⟨hh, 0, none⟩ = some (.int .i64 (N 0)) := grow_cell hg2 hne (by simpa using (hcell 0 (by omega)).1)
        have c1 : w2.cell? ⟨hh, 1, none⟩ = some (.int .i64 (D 0)) := grow_cell hg2 hne (by simpa using (hcell 0 (by omega)).2)
        have ff := frzR hg2 hh2 (by simp; omega) hf
        have f0 := ff 0
        have f1 := ff 1
        have hcc : ∀ k, k < 4 → w2.cell? ⟨hh, k * 2, none⟩ = some (.int .i64 (N k)) ∧ w2.cell? ⟨hh, k * 2 + 1, none⟩ = some (.int .i64 (D k)) := fun k hk => ⟨grow_cell hg2 hne (hcell k hk).1, grow_cell hg2 hne (hcell k hk).2⟩
        have HC := hid hcc
        clear hcc hcell ff hf
        have hh3 : hh < w2.heap.size := cell_lt c0
        obtain ⟨t0, t1⟩ := set2R c0 c1 (.int .i64 X) (.int .i64 Y)
        go_wp2
        go_ret
        refine ⟨some ⟨hh, 0, none⟩, 4, c, fun k => if k = 0 then X else N k, fun k => if k = 0 then Y else D k, _, rfl, by omega, .inr ⟨hh, 0, rfl, hh1, by simpa [World.setCell] using hh3, fun k hk => ?_⟩, grow_setNew (grow_setNew (grow_trans hgr hg2) hh1 0 _) hh1 1 _, (hR2.set hne (by omega) 0 _).set hne (by omega) 1 _, by omega⟩
        rw [Nat.zero_add]
        by_cases e : k = 0
        · subst e; exact ⟨t0, t1⟩
        · simp only [if_neg e]
          refine ⟨?_, ?_⟩
          · rw [World.cell?_setCell_other _ _ _ _ (by simp <;> omega), World.cell?_setCell_other _ _ _ _ (by simp <;> omega)]; exact (HC.out k hk).1
          · rw [World.cell?_setCell_other _ _ _ _ (by simp <;> omega), World.cell?_setCell_other _ _ _ _ (by simp <;> omega)]; exact (HC.out k hk).2
      · have d1 : (x == 1) = false := by simpa using e1
        clear e1
        go_wp2
        go_ret
        exact ⟨some ⟨hh, 0, none⟩, 4, c, N, D, _, rfl, by omega, .inr ⟨hh, 0, rfl, hh1, hh2, fun k hk => by rw [Nat.zero_add]; exact hcell k hk⟩, hgr, hR1, by omega⟩
end Go.Proofs.YthcabejfmoedfaaDoor
