/- The model's l10Put: one literal more in an ascending list. -/
import Derived.Test.YtoechhdahokoiaaCfC
import Derived.Test.YtoechhdahokoiaaCcA
namespace Go.Proofs.Ytoechhdahokoiaa
set_option linter.unusedVariables false
set_option linter.unusedSimpArgs false
open Go.RowKit
/-- a list handed back, and a truth value -/
def PutP (w : World) (g0 : Nat) (r : List Int) (b : Bool) (e : Ending) (w' : World) : Prop :=
  ∃ g off c, e = .returned (.tuple #[.slice (some ⟨g, off, none⟩) r.length c, .bool b]) ∧ r.length ≤ c ∧ c ≤ 9223372036854775807 ∧ Ints w' (some ⟨g, off, none⟩) r.length (fun k => r.getD k 0) ∧ Below w.heap.size w w' ∧ (g = g0 ∨ w.heap.size ≤ g)
theorem hi_ints {o : Oper} {x y : Operand} (ho : o.op = .slice 32 x none (some y) none) {a : Act} {g p n c k : Nat} (hx : a.eval x = .slice (some ⟨g, p, none⟩) n c) (hy : a.eval y = .int .i64 k) (hk : k ≤ c) (w : World) :
    (execOp a.eval o).run Try.prog w = .ok (.value (.slice (some ⟨g, p, none⟩) k c)) w := by
  unfold execOp
  rw [ho]
  simp only [Option.map_some, Option.map_none, hx, hy]
  simp [go_sem, Addr.add]
  try omega
theorem lo_ints {o : Oper} {x y : Operand} (ho : o.op = .slice 32 x (some y) none none) {a : Act} {g p n c k : Nat} (hx : a.eval x = .slice (some ⟨g, p, none⟩) n c) (hy : a.eval y = .int .i64 k) (hk : k ≤ n) (hn : n ≤ c) (w : World) :
    ∃ o2 c2, (execOp a.eval o).run Try.prog w = .ok (.value (.slice (some ⟨g, o2, none⟩) (n - k) c2)) w ∧ (o2 = p + k ∨ n - k = 0) := by
  by_cases e : c = k
  · refine ⟨p, c - k, ?_, .inr (by omega)⟩
    unfold execOp
    rw [ho]
    simp only [Option.map_some, Option.map_none, hx, hy]
    simp [go_sem, Addr.add, e]
    try omega
  · refine ⟨p + k, c - k, ?_, .inl rfl⟩
    unfold execOp
    rw [ho]
    simp only [Option.map_some, Option.map_none, hx, hy]
    simp [go_sem, Addr.add, e, hk]
    try (intro h0; omega)
theorem own_emptyC (w : World) (t : TypeId) (size : Nat) : (w.alloc (.cells #[] t)).ownsRow w.heap.size t size (.slice (some ⟨w.heap.size, 0, none⟩) 0 0) 0 [] :=
  ⟨by simp, .inr ⟨w.heap.size, 0, #[], rfl, Nat.le_refl _, Deep.blk_alloc_new _ _, Nat.le_refl _, by unfold maxLen; omega, by simp, by simp⟩⟩
theorem own_someC {w : World} {base n : Nat} {e : TypeId} {v : Value} {xs : List Value} (h : w.ownsRow base e 1 v n xs) (hne : ¬ (v = .slice none 0 0)) :
    ∃ g cap, v = .slice (some ⟨g, 0, none⟩) n cap ∧ n ≤ cap ∧ cap ≤ 9223372036854775807 ∧ base ≤ g ∧ g < w.heap.size ∧ ∀ j u, xs[j]? = some u → w.cell? ((⟨g, 0, none⟩ : Addr).add j) = some u := by
  have h0 := h
  obtain ⟨hl, ⟨rfl, h⟩ | ⟨g, cap, cur, rfl, hg, hh, h1, h2, h3, h4⟩⟩ := h
  · exact absurd rfl hne
  · unfold maxLen at h2
    exact ⟨g, cap, rfl, h1, by omega, hg, (Array.getElem?_eq_some_iff.1 hh).1, h0.cells (g := g) rfl⟩
theorem own_relen {w : World} {base n : Nat} {e : TypeId} {v : Value} {xs : List Value} {L : List Int} (h : w.ownsRow base e 1 v n xs) (hx : xs = valsI L) : w.ownsRow base e 1 v L.length (valsI L) := by
  subst hx
  have := h.1
  have hn : L.length = n := by simpa [valsI] using this
  rw [hn]
  exact h
theorem below_app {B base n : Nat} {w wr w5 : World} {t : TypeId} {v : Value} {xs : List Value} {size : Nat} (hb : Below B w wr) (hB : B ≤ w.heap.size) (ho : wr.ownsRow base t size v n xs) (hbs : B ≤ base) (hg : wr.grownBy w5 v.ownBlock) : Below B w w5 :=
  hb.grown hg (Nat.le_trans hB hb.size) (fun j hj => by have := (ho.lt j hj).1; omega)
set_option maxHeartbeats 4000000 in
theorem sput_some (g off c : Nat) (P C : List Int) (y x : Int) (w : World) (hl : (P ++ y :: C).length ≤ 61) (hc : (P ++ y :: C).length ≤ c) (hc2 : c ≤ 9223372036854775807) (hA : Ints w (some ⟨g, off, none⟩) (P ++ y :: C).length (fun k => (P ++ y :: C).getD k 0))
    (hP : ∀ z ∈ P, ab6 z < ab6 x) (hy : ab6 y = ab6 x) :
    Calls Try.prog 67 #[.slice (some ⟨g, off, none⟩) (P ++ y :: C).length c, .int .i64 x] w (PutP w g (P ++ y :: C) (y == x)) := by
  have hp : P.length < (P ++ y :: C).length := by simp
  have h1 : ∀ k, k < P.length → ab6 ((P ++ y :: C).getD k 0) < ab6 x := fun k hk => hP _ (by
    rw [List.getD_eq_getElem?_getD, List.getElem?_append_left hk, List.getElem?_eq_getElem hk]; exact List.getElem_mem hk)
  have h2 : (P ++ y :: C).getD P.length 0 = y := by
    rw [List.getD_eq_getElem?_getD, List.getElem?_append_right (Nat.le_refl _)]; simp
  have hI := hid hA
  generalize (P ++ y :: C) = l at *
  rcases hA with h0 | ⟨g', off', e, hg, hcell⟩
  · omega
  injection e with e
  injection e with e1 e2 _
  subst e1
  subst e2
  have HC := hid hcell
  clear hcell hP
  go_enter Try.func67, Try.ntmps67
  go_wp2
  go_loop [6] (fun i => ∃ k : Nat, k ≤ P.length ∧ i = .int .i64 k) (fun i => P.length - (intOf i).toNat)
  case atStart => exact ⟨0, Nat.zero_le _, rfl⟩
  case round =>
    obtain ⟨k, hk, rfl⟩ := hrel
    have hkl : k < l.length := by omega
    have c1 := HC.out k hkl
    by_cases hlt : k < P.length
    · have d1 : decide (ab6 (l.getD k 0) < ab6 x) = true := decide_eq_true (h1 k hlt)
      generalize l.getD k 0 = z at *
      go_wp2_with (go_at_call 53; refine (sabs_any _ _).mono ?_; rintro e w1 ⟨rfl, rfl⟩)
      go_round
      case rel => exact ⟨k + 1, by omega, by go_num⟩
      case measure => simp [intOf]; omega
    · have hke : k = P.length := by omega
      subst hke
      rw [h2] at c1
      have d1 : decide (ab6 y < ab6 x) = false := decide_eq_false (by omega)
      have d2 : (ab6 y == ab6 x) = true := by simpa using hy
      have lg := cell_lt c1
      go_upto_region 5 with (go_at_call 53; refine (sabs_any _ _).mono ?_; rintro e w1 ⟨rfl, rfl⟩)
      have gc := @gro_cell w
      refine wp_region_grow_lit (by kernel_rfl) (by kernel_rfl) ?_
      repeat (go_big_quiet_step (fail))
      refine wpQuiet_nil ?_
      rintro _ ⟨X, rfl⟩
      clear gc
      go_wp2
      go_ret2
      exact ⟨g, off, c, rfl, hc, hc2, hI.out.below X.h, X.h, .inl rfl⟩
set_option maxHeartbeats 4000000 in
theorem sput_none (g off c : Nat) (P C : List Int) (x : Int) (w : World) (hl : (P ++ C).length ≤ 61) (hc : (P ++ C).length ≤ c) (hc2 : c ≤ 9223372036854775807) (hA : Ints w (some ⟨g, off, none⟩) (P ++ C).length (fun k => (P ++ C).getD k 0))
    (hP : ∀ z ∈ P, ab6 z < ab6 x) (hC : ∀ z ∈ C, ab6 x < ab6 z) :
    Calls Try.prog 67 #[.slice (some ⟨g, off, none⟩) (P ++ C).length c, .int .i64 x] w (PutP w g (P ++ x :: C) true) := by
  have hp : P.length ≤ (P ++ C).length := by simp
  have h1 : ∀ k, k < P.length → ab6 ((P ++ C).getD k 0) < ab6 x := fun k hk => hP _ (by
    rw [List.getD_eq_getElem?_getD, List.getElem?_append_left hk, List.getElem?_eq_getElem hk]; exact List.getElem_mem hk)
  have h2 : P.length < (P ++ C).length → ab6 x < ab6 ((P ++ C).getD P.length 0) := fun h => hC _ (by
    have h3 : 0 < C.length := by simp at h; exact h
    rw [List.getD_eq_getElem?_getD, List.getElem?_append_right (Nat.le_refl _), Nat.sub_self, List.getElem?_eq_getElem h3]; exact List.getElem_mem h3)
  have hPl : ∀ k, k < P.length → (P ++ C).getD k 0 = P.getD k 0 := fun k hk => by
    rw [List.getD_eq_getElem?_getD, List.getElem?_append_left hk, ← List.getD_eq_getElem?_getD]
  have hCl : ∀ k, k < C.length → (P ++ C).getD (P.length + k) 0 = C.getD k 0 := fun k hk => by
    rw [List.getD_eq_getElem?_getD, List.getElem?_append_right (by omega), Nat.add_sub_cancel_left, ← List.getD_eq_getElem?_getD]
  have hlen : (P ++ C).length = P.length + C.length := List.length_append
  generalize (P ++ C) = l at *
  have hPC := hid (And.intro hPl hCl)
  clear hP hC hPl hCl
  have hcell : ∀ k, k < l.length → w.cell? ⟨g, off + k, none⟩ = some (.int .i64 (l.getD k 0)) := by
    rcases hA with h0 | ⟨g', off', e, hg, hcell⟩
    · intro k hk; omega
    · injection e with e
      injection e with e1 e2 _
      subst e1
      subst e2
      exact hcell
  clear hA
  have hTail : ∀ (W : World), Below w.heap.size w W → ∀ o2, (o2 = off + P.length ∨ C.length = 0) → ∀ (j : Nat) (u : Value), (valsI C)[j]? = some u → W.cell? ((⟨g, o2, none⟩ : Addr).add j) = some u := fun W hW o2 ho j u hu => by
    have hj : j < C.length := by
      have := (List.getElem?_eq_some_iff.1 hu).1
      simpa [valsI] using this
    have ho2 : o2 = off + P.length := by omega
    rw [valsI_at hj] at hu
    have hx := hcell (P.length + j) (by omega)
    rw [hPC.out.2 j hj] at hx
    rw [ho2, ← Option.some.inj hu, show (⟨g, off + P.length, none⟩ : Addr).add j = ⟨g, off + (P.length + j), none⟩ by unfold Addr.add; split <;> simp_all [Nat.add_assoc]]
    exact carry hW hx
  have hHead : ∀ (W : World), Below w.heap.size w W → ∀ (j : Nat) (u : Value), (valsI P)[j]? = some u → W.cell? ((⟨g, off, none⟩ : Addr).add j) = some u := fun W hW j u hu => by
    have hj : j < P.length := by
      have := (List.getElem?_eq_some_iff.1 hu).1
      simpa [valsI] using this
    rw [valsI_at hj] at hu
    have hx := hcell j (by omega)
    rw [hPC.out.1 j hj] at hx
    rw [← Option.some.inj hu, show (⟨g, off, none⟩ : Addr).add j = ⟨g, off + j, none⟩ by unfold Addr.add; split <;> simp_all]
    exact carry hW hx
  have hone : ∀ (Y : List Int), ∀ u ∈ valsI Y, u.oneCell' = true := fun Y u hu => by
    obtain ⟨z, _, rfl⟩ := List.mem_map.1 hu
    rfl
  have hCL : (valsI C).length = (l.length - P.length) * 1 := by rw [hlen]; simp [valsI]
  have hPL : (valsI P).length = P.length * 1 := by simp [valsI]
  obtain ⟨i0, hi, hz0, hz1, hz2⟩ := info_parts infoI
  have HC := hid hcell
  have HL := hid hlen
  have HP := hid hp
  clear hcell hlen
  go_enter Try.func67, Try.ntmps67
  go_wp2
  go_loop [6] (fun i => ∃ k : Nat, k ≤ P.length ∧ i = .int .i64 k) (fun i => P.length - (intOf i).toNat)
  case atStart => exact ⟨0, Nat.zero_le _, rfl⟩
  case round =>
    obtain ⟨k, hk, rfl⟩ := hrel
    by_cases hlt : k < P.length
    · have hkl : k < l.length := by omega
      have c1 := HC.out k hkl
      have d1 : decide (ab6 (l.getD k 0) < ab6 x) = true := decide_eq_true (h1 k hlt)
      generalize l.getD k 0 = z at *
      go_wp2_with (go_at_call 53; refine (sabs_any _ _).mono ?_; rintro e w1 ⟨rfl, rfl⟩)
      go_round
      case rel => exact ⟨k + 1, by omega, by go_num⟩
      case measure => simp [intOf]; omega
    · have hke : k = P.length := by omega
      subst hke
      by_cases hlast : P.length < l.length
      · have c1 := HC.out P.length hlast
        have h3 := h2 hlast
        have d1 : decide (ab6 (l.getD P.length 0) < ab6 x) = false := decide_eq_false (by omega)
        have d2 : (ab6 (l.getD P.length 0) == ab6 x) = false := beq_eq_false_iff_ne.2 (by omega)
        generalize l.getD P.length 0 = z at *
        go_upto_region 6 with (go_at_call 53; refine (sabs_any _ _).mono ?_; rintro e w1 ⟨rfl, rfl⟩)
        go_upto_region 7 with ((at_builtin; refine wpList_append_own_at _ rfl _ _ 32 rfl w.heap.size 3 i0 (.int .i64 0) 1 8 Try.underlying32 hi hz0 hz1 hz2 rfl (by decide) (.slice (some ⟨w.heap.size, 0, none⟩) 0 0) 0 [] rfl (own_emptyC w 3 1) _ _ _ (valsI C) rfl (by first | exact hCL | (have := HL.out; have h9 : (valsI C).length = C.length := by { simp [valsI] }; rw [h9]; omega)) (hTail _ (bal (Below.refl _ _) _) _ (by first | exact .inl rfl | (right; omega))) (hone _) (by unfold maxLen; omega) (by omega) (by simp) ?_; intro v1 w5 hown1 hgrow1 hnil1 hat1; obtain ⟨gt, ct, rfl, hct1, hct2, hgt1, hgt2, hT1⟩ := own_someC hown1 (fun e => by simpa using hnil1.1 e)))
        all_goals
          have b5 := below_app (bal (Below.refl w.heap.size w) (.cells #[] 3)) (Nat.le_refl _) (own_emptyC w 3 1) (Nat.le_refl _) hgrow1
          have z5 := b5.size
          go_wp2_with (first | (at_builtin; refine wpList_append_own_at _ rfl _ _ 32 rfl w5.heap.size 3 i0 (.int .i64 0) 1 8 Try.underlying32 hi hz0 hz1 hz2 rfl (by decide) v3 (0 + P.length + 1) ([] ++ valsI P ++ [.int .i64 x]) rfl hown3 ⟨gt, 0, none⟩ _ _ ([] ++ valsI C) rfl (by have := HL.out; have h9 : ([] ++ valsI C).length = C.length := by { simp [valsI] }; rw [h9]; omega) (fun j u hu => by have hj : j < C.length := by { have := (List.getElem?_eq_some_iff.1 hu).1; simpa [valsI] using this }; rw [show (⟨gt, 0, none⟩ : Addr).add j = ⟨gt, j, none⟩ by unfold Addr.add; split <;> simp_all]; have := hT1 j u hu; rw [show (⟨gt, 0, none⟩ : Addr).add j = ⟨gt, j, none⟩ by unfold Addr.add; split <;> simp_all] at this; exact carry b7 this) (fun u hu => hone C u (by simpa using hu)) (by unfold maxLen; omega) (by omega) (by omega) ?_; intro v4 w8 hown4 hgrow4 hnil4 hat4; have b8 := below_app b7 (Nat.le_refl _) hown3 (Nat.le_refl _) hgrow4) | (at_builtin; refine wpList_append_own_at _ rfl _ _ 32 rfl w5.heap.size 3 i0 (.int .i64 0) 1 8 Try.underlying32 hi hz0 hz1 hz2 rfl (by decide) v2 (0 + P.length) ([] ++ valsI P) rfl (hown2.alloc _) ⟨w6.heap.size, 0, none⟩ 1 _ [.int .i64 x] rfl rfl (cell_one_new _ _ _) (fun u hu => by simp at hu; subst hu; rfl) (by unfold maxLen; omega) (by omega) (by simp; omega) ?_; intro v3 w7 hown3 hgrow3 hnil3 hat3; have b7 := below_app (bal b6 (.cells #[.int .i64 x] 3)) (Nat.le_refl _) (hown2.alloc _) (Nat.le_refl _) hgrow3; have z7 := b7.size) | (at_builtin; refine wpList_append_own_at _ rfl _ _ 32 rfl w5.heap.size 3 i0 (.int .i64 0) 1 8 Try.underlying32 hi hz0 hz1 hz2 rfl (by decide) (.slice (some ⟨w5.heap.size, 0, none⟩) 0 0) 0 [] rfl (own_emptyC w5 3 1) ⟨g, off, none⟩ P.length _ (valsI P) rfl hPL (hHead _ (bal b5 _)) (hone _) (by unfold maxLen; omega) (by omega) (by simp) ?_; intro v2 w6 hown2 hgrow2 hnil2 hat2; have b6 := below_app (bal (Below.refl w5.heap.size w5) (.cells #[] 3)) (Nat.le_refl _) (own_emptyC w5 3 1) (Nat.le_refl _) hgrow2; have z6 := b6.size))
          have hne : ¬ (v4 = .slice none 0 0) := fun e => by exact absurd (hnil3.1 (hnil4.1 e).1).2 (by omega)
          have e8 : [] ++ valsI P ++ [.int .i64 x] ++ ([] ++ valsI C) = valsI (P ++ x :: C) := by simp [valsI]
          replace hown4 := own_relen hown4 e8
          obtain ⟨g8, c8, rfl, hc81, hc82, h8g, _, _⟩ := own_someC hown4 hne
          obtain ⟨a9, c9, e9, hO⟩ := own_intsC (W := w) b5.size hown4
          injection e9 with e10 e11 e12
          subst e10
          go_ret2
          exact ⟨g8, 0, c8, rfl, hc81, hc82, hO.ints', ⟨b8.os.trans b5.os, b8.tape.trans b5.tape, b8.output.trans b5.output, Nat.le_trans b5.size b8.size, fun j hj => (b8.block j (Nat.lt_of_lt_of_le hj b5.size)).trans (b5.block j hj)⟩, .inr (Nat.le_trans b5.size h8g)⟩
      · rcases Nat.lt_or_ge P.length c with hcP | hcP
        · have hcN : ¬ c = P.length := by omega
          go_upto_region 6 with (go_at_call 53; refine (sabs_any _ _).mono ?_; rintro e w1 ⟨rfl, rfl⟩)
          clear hlast
          go_upto_region 7 with ((at_builtin; refine wpList_append_own_at _ rfl _ _ 32 rfl w.heap.size 3 i0 (.int .i64 0) 1 8 Try.underlying32 hi hz0 hz1 hz2 rfl (by decide) (.slice (some ⟨w.heap.size, 0, none⟩) 0 0) 0 [] rfl (own_emptyC w 3 1) _ _ _ (valsI C) rfl (by first | exact hCL | (have := HL.out; have h9 : (valsI C).length = C.length := by { simp [valsI] }; rw [h9]; omega)) (hTail _ (bal (Below.refl _ _) _) _ (by first | exact .inl rfl | (right; have := HL.out; omega))) (hone _) (by unfold maxLen; omega) (by omega) (by simp) ?_; intro v1 w5 hown1 hgrow1 hnil1 hat1; obtain ⟨gt, ct, rfl, hct1, hct2, hgt1, hgt2, hT1⟩ := own_someC hown1 (fun e => by simpa using hnil1.1 e)))
          all_goals
            have b5 := below_app (bal (Below.refl w.heap.size w) (.cells #[] 3)) (Nat.le_refl _) (own_emptyC w 3 1) (Nat.le_refl _) hgrow1
            have z5 := b5.size
            go_wp2_with (first | (at_builtin; refine wpList_append_own_at _ rfl _ _ 32 rfl w5.heap.size 3 i0 (.int .i64 0) 1 8 Try.underlying32 hi hz0 hz1 hz2 rfl (by decide) v3 (0 + P.length + 1) ([] ++ valsI P ++ [.int .i64 x]) rfl hown3 ⟨gt, 0, none⟩ _ _ ([] ++ valsI C) rfl (by have := HL.out; have h9 : ([] ++ valsI C).length = C.length := by { simp [valsI] }; rw [h9]; omega) (fun j u hu => by have hj : j < C.length := by { have := (List.getElem?_eq_some_iff.1 hu).1; simpa [valsI] using this }; rw [show (⟨gt, 0, none⟩ : Addr).add j = ⟨gt, j, none⟩ by unfold Addr.add; split <;> simp_all]; have := hT1 j u hu; rw [show (⟨gt, 0, none⟩ : Addr).add j = ⟨gt, j, none⟩ by unfold Addr.add; split <;> simp_all] at this; exact carry b7 this) (fun u hu => hone C u (by simpa using hu)) (by unfold maxLen; omega) (by omega) (by omega) ?_; intro v4 w8 hown4 hgrow4 hnil4 hat4; have b8 := below_app b7 (Nat.le_refl _) hown3 (Nat.le_refl _) hgrow4) | (at_builtin; refine wpList_append_own_at _ rfl _ _ 32 rfl w5.heap.size 3 i0 (.int .i64 0) 1 8 Try.underlying32 hi hz0 hz1 hz2 rfl (by decide) v2 (0 + P.length) ([] ++ valsI P) rfl (hown2.alloc _) ⟨w6.heap.size, 0, none⟩ 1 _ [.int .i64 x] rfl rfl (cell_one_new _ _ _) (fun u hu => by simp at hu; subst hu; rfl) (by unfold maxLen; omega) (by omega) (by simp; omega) ?_; intro v3 w7 hown3 hgrow3 hnil3 hat3; have b7 := below_app (bal b6 (.cells #[.int .i64 x] 3)) (Nat.le_refl _) (hown2.alloc _) (Nat.le_refl _) hgrow3; have z7 := b7.size) | (at_builtin; refine wpList_append_own_at _ rfl _ _ 32 rfl w5.heap.size 3 i0 (.int .i64 0) 1 8 Try.underlying32 hi hz0 hz1 hz2 rfl (by decide) (.slice (some ⟨w5.heap.size, 0, none⟩) 0 0) 0 [] rfl (own_emptyC w5 3 1) ⟨g, off, none⟩ P.length _ (valsI P) rfl hPL (hHead _ (bal b5 _)) (hone _) (by unfold maxLen; omega) (by omega) (by simp) ?_; intro v2 w6 hown2 hgrow2 hnil2 hat2; have b6 := below_app (bal (Below.refl w5.heap.size w5) (.cells #[] 3)) (Nat.le_refl _) (own_emptyC w5 3 1) (Nat.le_refl _) hgrow2; have z6 := b6.size))
            have hne : ¬ (v4 = .slice none 0 0) := fun e => by exact absurd (hnil3.1 (hnil4.1 e).1).2 (by omega)
            have e8 : [] ++ valsI P ++ [.int .i64 x] ++ ([] ++ valsI C) = valsI (P ++ x :: C) := by simp [valsI]
            replace hown4 := own_relen hown4 e8
            obtain ⟨g8, c8, rfl, hc81, hc82, h8g, _, _⟩ := own_someC hown4 hne
            obtain ⟨a9, c9, e9, hO⟩ := own_intsC (W := w) b5.size hown4
            injection e9 with e10 e11 e12
            subst e10
            go_ret2
            exact ⟨g8, 0, c8, rfl, hc81, hc82, hO.ints', ⟨b8.os.trans b5.os, b8.tape.trans b5.tape, b8.output.trans b5.output, Nat.le_trans b5.size b8.size, fun j hj => (b8.block j (Nat.lt_of_lt_of_le hj b5.size)).trans (b5.block j hj)⟩, .inr (Nat.le_trans b5.size h8g)⟩
        · have hcE : c = P.length := by omega
          subst hcE
          go_upto_region 6 with (go_at_call 53; refine (sabs_any _ _).mono ?_; rintro e w1 ⟨rfl, rfl⟩)
          clear hlast
          go_upto_region 7 with ((at_builtin; refine wpList_append_own_at _ rfl _ _ 32 rfl w.heap.size 3 i0 (.int .i64 0) 1 8 Try.underlying32 hi hz0 hz1 hz2 rfl (by decide) (.slice (some ⟨w.heap.size, 0, none⟩) 0 0) 0 [] rfl (own_emptyC w 3 1) _ _ _ (valsI C) rfl (by first | exact hCL | (have := HL.out; have h9 : (valsI C).length = C.length := by { simp [valsI] }; rw [h9]; omega)) (hTail _ (bal (Below.refl _ _) _) _ (by first | exact .inl rfl | (right; have := HL.out; omega))) (hone _) (by unfold maxLen; omega) (by omega) (by simp) ?_; intro v1 w5 hown1 hgrow1 hnil1 hat1; obtain ⟨gt, ct, rfl, hct1, hct2, hgt1, hgt2, hT1⟩ := own_someC hown1 (fun e => by simpa using hnil1.1 e)))
          all_goals
            have b5 := below_app (bal (Below.refl w.heap.size w) (.cells #[] 3)) (Nat.le_refl _) (own_emptyC w 3 1) (Nat.le_refl _) hgrow1
            have z5 := b5.size
            go_wp2_with (first | (at_builtin; refine wpList_append_own_at _ rfl _ _ 32 rfl w5.heap.size 3 i0 (.int .i64 0) 1 8 Try.underlying32 hi hz0 hz1 hz2 rfl (by decide) v3 (0 + P.length + 1) ([] ++ valsI P ++ [.int .i64 x]) rfl hown3 ⟨gt, 0, none⟩ _ _ ([] ++ valsI C) rfl (by have := HL.out; have h9 : ([] ++ valsI C).length = C.length := by { simp [valsI] }; rw [h9]; omega) (fun j u hu => by have hj : j < C.length := by { have := (List.getElem?_eq_some_iff.1 hu).1; simpa [valsI] using this }; rw [show (⟨gt, 0, none⟩ : Addr).add j = ⟨gt, j, none⟩ by unfold Addr.add; split <;> simp_all]; have := hT1 j u hu; rw [show (⟨gt, 0, none⟩ : Addr).add j = ⟨gt, j, none⟩ by unfold Addr.add; split <;> simp_all] at this; exact carry b7 this) (fun u hu => hone C u (by simpa using hu)) (by unfold maxLen; omega) (by omega) (by omega) ?_; intro v4 w8 hown4 hgrow4 hnil4 hat4; have b8 := below_app b7 (Nat.le_refl _) hown3 (Nat.le_refl _) hgrow4) | (at_builtin; refine wpList_append_own_at _ rfl _ _ 32 rfl w5.heap.size 3 i0 (.int .i64 0) 1 8 Try.underlying32 hi hz0 hz1 hz2 rfl (by decide) v2 (0 + P.length) ([] ++ valsI P) rfl (hown2.alloc _) ⟨w6.heap.size, 0, none⟩ 1 _ [.int .i64 x] rfl rfl (cell_one_new _ _ _) (fun u hu => by simp at hu; subst hu; rfl) (by unfold maxLen; omega) (by omega) (by simp; omega) ?_; intro v3 w7 hown3 hgrow3 hnil3 hat3; have b7 := below_app (bal b6 (.cells #[.int .i64 x] 3)) (Nat.le_refl _) (hown2.alloc _) (Nat.le_refl _) hgrow3; have z7 := b7.size) | (at_builtin; refine wpList_append_own_at _ rfl _ _ 32 rfl w5.heap.size 3 i0 (.int .i64 0) 1 8 Try.underlying32 hi hz0 hz1 hz2 rfl (by decide) (.slice (some ⟨w5.heap.size, 0, none⟩) 0 0) 0 [] rfl (own_emptyC w5 3 1) ⟨g, off, none⟩ P.length _ (valsI P) rfl hPL (hHead _ (bal b5 _)) (hone _) (by unfold maxLen; omega) (by omega) (by simp) ?_; intro v2 w6 hown2 hgrow2 hnil2 hat2; have b6 := below_app (bal (Below.refl w5.heap.size w5) (.cells #[] 3)) (Nat.le_refl _) (own_emptyC w5 3 1) (Nat.le_refl _) hgrow2; have z6 := b6.size))
            have hne : ¬ (v4 = .slice none 0 0) := fun e => by exact absurd (hnil3.1 (hnil4.1 e).1).2 (by omega)
            have e8 : [] ++ valsI P ++ [.int .i64 x] ++ ([] ++ valsI C) = valsI (P ++ x :: C) := by simp [valsI]
            replace hown4 := own_relen hown4 e8
            obtain ⟨g8, c8, rfl, hc81, hc82, h8g, _, _⟩ := own_someC hown4 hne
            obtain ⟨a9, c9, e9, hO⟩ := own_intsC (W := w) b5.size hown4
            injection e9 with e10 e11 e12
            subst e10
            go_ret2
            exact ⟨g8, 0, c8, rfl, hc81, hc82, hO.ints', ⟨b8.os.trans b5.os, b8.tape.trans b5.tape, b8.output.trans b5.output, Nat.le_trans b5.size b8.size, fun j hj => (b8.block j (Nat.lt_of_lt_of_le hj b5.size)).trans (b5.block j hj)⟩, .inr (Nat.le_trans b5.size h8g)⟩
end Go.Proofs.Ytoechhdahokoiaa
