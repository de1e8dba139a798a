/- The law FnExactLinRead: the walk. -/
import Derived.Test.YthcabejfmoedfaaDoorLdA
import Derived.Test.YthcabejfmoedfaaDoorLdB
import Derived.Test.YthcabejfmoedfaaDoorMark
namespace Go.Proofs.YthcabejfmoedfaaDoor
set_option linter.unusedVariables false
set_option linter.unusedSimpArgs false
open Go.Shelf Go.RowKit Go.Joins
theorem OwnI.congr {W w : World} {A : Option Addr} {n : Nat} {Z Y : Nat → Int} (e : ∀ k, k < n → Z k = Y k) (h : OwnI W w A n Z) : OwnI W w A n Y := by
  rcases h with h | ⟨g, e1, h1, h2, h3⟩
  · exact .inl h
  · exact .inr ⟨g, e1, h1, h2, fun k hk => by rw [← e k hk]; exact h3 k hk⟩
/-- which answer it is -/
def LdI (s : ByteArray) (m : Nat) (Y : Nat → Int) (d : Int) (u bb : Bool) : Prop := (bb = true ∧ m = 4 ∧ LdOk s Y d u) ∨ (bb = false ∧ m = 0 ∧ d = 0 ∧ u = false ∧ ∀ Z b st, ¬ LdOk s Z b st)
theorem ldp_one {W w' : World} {s : ByteArray} {e : Ending} (h : LdP W s e w') : ∃ A m c Y d u bb, e = .returned (.tuple #[.agg #[.slice A m c, .int .i64 d, .bool u], .bool bb]) ∧ m ≤ 4 ∧ OwnI W w' A m Y ∧ LdI s m Y d u bb := by
  rcases h with ⟨Y, d, u, v, h1, rfl, A, c, rfl, _, _, hO⟩ | ⟨h1, rfl⟩
  · exact ⟨A, 4, c, Y, d, u, true, rfl, Nat.le_refl _, hO, .inl ⟨rfl, rfl, h1⟩⟩
  · exact ⟨none, 0, 0, fun _ => 0, 0, false, false, rfl, by omega, .inl rfl, .inr ⟨rfl, rfl, rfl, rfl, h1⟩⟩
theorem ldp_same {W w' : World} {s : ByteArray} {e : Ending} {m : Nat} {Y : Nat → Int} {d : Int} {u bb : Bool} (h : LdP W s e w') (hI : LdI s m Y d u bb) : ∃ A c Y2, e = .returned (.tuple #[.agg #[.slice A m c, .int .i64 d, .bool u], .bool bb]) ∧ OwnI W w' A m Y2 ∧ ∀ k, k < m → Y2 k = Y k := by
  rcases h with ⟨Y', d', u', v, h1, rfl, A, c, rfl, _, _, hO⟩ | ⟨h1, rfl⟩ <;> rcases hI with ⟨rfl, rfl, h2⟩ | ⟨rfl, rfl, rfl, rfl, h2⟩
  · obtain ⟨e1, rfl, rfl⟩ := ld_inj h1 h2
    exact ⟨A, c, Y', rfl, hO, e1⟩
  · exact absurd h1 (h2 _ _ _)
  · exact absurd h2 (h1 _ _ _)
  · exact ⟨none, 0, Y, rfl, .inl rfl, fun _ _ => rfl⟩
set_option maxRecDepth 100000 in
set_option maxHeartbeats 8000000 in
theorem walk_ExactLinRead (s : ByteArray) (w : World) (hs : s.size ≤ 9223372036854775807) (htab : Lib.TabIs Tryd.prog w "internal/strconv.uint64pow10" .u64 Lib.pow10Tab) (hm : MaxAt w) (h1 : ErrAt w 1) (h2 : ErrAt w 2) :
    Calls Tryd.prog 6 #[.string s] w fun e w' => e = .returned (.bool true) ∧ Below w.heap.size w w' := by
  by_cases hbig : 1048576 < s.size
  · go_enter Tryd.func6, Tryd.ntmps6
    go_wp2
    go_ret
    exact ⟨rfl, Below.refl _ _⟩
  have hR := hid (fun W (hb : Below w.heap.size w W) => linread_any s W (by omega) (tab_keep htab hb) (hm.below hb) (h1.below hb) (h2.below hb))
  clear htab hm h1 h2
  go_enter Tryd.func6, Tryd.ntmps6
  go_wp2_with fail
  refine (slinread_any s w (by omega)).mono ?_
  intro e w1 hpp
  obtain ⟨hp, q0⟩ := hpp
  obtain ⟨A3, m, k3, Y, d, u, bb, rfl, hm, hO3, hI⟩ := ldp_one hp
  have O3 := hO3.ownB
  have zw := q0.size
  clear hp hO3
  have N := KcL.new3 w1 (.slice A3 m k3) (.int .i64 d) (.bool u) 39 rfl
  have al := bal (Below.refl w1.heap.size w1) (.cells #[.slice A3 m k3, .int .i64 d, .bool u] 39)
  have H := N
  replace q0 := btr q0 al
  replace O3 := O3.below al
  clear N al
  have HH_ := H; obtain ⟨c0, c1, c2, _⟩ := HH_
  simp only at c0 c1 c2
  have l0 := cell_lt c0
  go_wp2_with fail
  refine (hR.out _ q0).mono ?_
  intro e w2 hpp
  obtain ⟨hp, hq⟩ := hpp
  obtain ⟨A5, k5, Y5, rfl, hO5, hYY⟩ := ldp_same hp hI
  replace hO5 := hO5.congr hYY
  have O5 := hO5.ownB
  have z5 := hq.size
  rw [World.size_alloc] at z5
  rw [World.size_alloc] at O5
  clear hp hO5 hYY Y5
  clear c0 c1 c2 l0
  replace H := H.below hq
  replace q0 := btr q0 hq
  replace O3 := O3.below hq
  clear hq
  have N := KcL.new3 w2 (.slice A5 m k5) (.int .i64 d) (.bool u) 39 rfl
  have al := bal (Below.refl w2.heap.size w2) (.cells #[.slice A5 m k5, .int .i64 d, .bool u] 39)
  replace H := (H.below al).app N
  replace q0 := btr q0 al
  replace O3 := O3.below al
  replace O5 := O5.below al
  clear N al
  have HH_ := H; obtain ⟨c0, c1, c2, c3, c4, c5, _⟩ := HH_
  simp only at c0 c1 c2 c3 c4 c5
  have l0 := cell_lt c0
  have l3 := cell_lt c3
  have dbb : (bb != bb) = false := by simp
  go_wp2_with fail
  refine (eqlin_same (by omega) O5.ints O3.ints).mono ?_
  rintro e w6 ⟨rfl, hq⟩
  clear c0 c1 c2 c3 c4 c5 l0 l3
  replace H := H.below hq
  replace q0 := btr q0 hq
  replace O3 := O3.below hq
  replace O5 := O5.below hq
  clear hq
  have HH_ := H; obtain ⟨c0, c1, c2, c3, c4, c5, _⟩ := HH_
  simp only at c0 c1 c2 c3 c4 c5
  have l0 := cell_lt c0
  have l3 := cell_lt c3
  go_wp2_with fail
  refine (marklin_any _ _ A5 m k5 Y d 1 u _ (by omega) (by omega) O5).mono ?_
  rintro e w12 ⟨rfl, O5, row, hg, hr⟩
  clear c0 c1 c2 c3 c4 c5 l0 l3
  replace H := H.keep hg (fun e he g hg => by have := hr g hg; simp at he; rcases he with rfl | rfl | rfl | rfl | rfl | rfl <;> omega)
  replace O3 := O3.keep hg (fun g hg => by have := hr g hg; omega)
  replace q0 := q0.grown hg q0.size (fun g hgg => by have := hr g hgg; omega)
  clear hg hr row
  have n2 : decide ((1 : Int) + m < 0) = false := by simp; omega
  have n3 : ((1 : Int) + m != 1 + m) = false := by simp
  have HH_ := H; obtain ⟨c0, c1, c2, c3, c4, c5, _⟩ := HH_
  simp only at c0 c1 c2 c3 c4 c5
  have l0 := cell_lt c0
  have l3 := cell_lt c3
  go_wp2_with fail
  refine (heldlin_any A5 m k5 d 1 u _ (by omega) (by omega) O5.ints).mono ?_
  rintro e w13 ⟨rfl, hq⟩
  clear c0 c1 c2 c3 c4 c5 l0 l3
  replace H := H.below hq
  replace q0 := btr q0 hq
  replace O3 := O3.below hq
  replace O5 := O5.below hq
  clear hq
  have HH_ := H; obtain ⟨c0, c1, c2, c3, c4, c5, _⟩ := HH_
  simp only at c0 c1 c2 c3 c4 c5
  have l0 := cell_lt c0
  have l3 := cell_lt c3
  go_wp2_with fail
  refine (hR.out _ q0).mono ?_
  intro e w14 hpp
  obtain ⟨hp, hq⟩ := hpp
  obtain ⟨A9, k9, Y9, rfl, hO9, hYY⟩ := ldp_same hp hI
  replace hO9 := hO9.congr hYY
  have O9 := hO9.ownB
  clear hp hO9 hYY Y9
  clear c0 c1 c2 c3 c4 c5 l0 l3
  replace H := H.below hq
  replace q0 := btr q0 hq
  replace O3 := O3.below hq
  replace O5 := O5.below hq
  clear hq
  have N := KcL.new3 w14 (.slice A9 m k9) (.int .i64 d) (.bool u) 39 rfl
  have al := bal (Below.refl w14.heap.size w14) (.cells #[.slice A9 m k9, .int .i64 d, .bool u] 39)
  replace H := (H.below al).app N
  replace q0 := btr q0 al
  replace O3 := O3.below al
  replace O5 := O5.below al
  replace O9 := O9.below al
  clear N al
  have HH_ := H; obtain ⟨c0, c1, c2, c3, c4, c5, c6, c7, c8, _⟩ := HH_
  simp only at c0 c1 c2 c3 c4 c5 c6 c7 c8
  have l0 := cell_lt c0
  have l3 := cell_lt c3
  have l6 := cell_lt c6
  go_wp2_with fail
  refine (eqlin_same (by omega) O9.ints O3.ints).mono ?_
  rintro e w16 ⟨rfl, hq⟩
  clear c0 c1 c2 c3 c4 c5 c6 c7 c8 l0 l3 l6
  replace H := H.below hq
  replace q0 := btr q0 hq
  replace O3 := O3.below hq
  replace O5 := O5.below hq
  clear hq
  have HH_ := H; obtain ⟨c0, c1, c2, c3, c4, c5, c6, c7, c8, _⟩ := HH_
  simp only at c0 c1 c2 c3 c4 c5 c6 c7 c8
  have l0 := cell_lt c0
  have l3 := cell_lt c3
  have l6 := cell_lt c6
  go_wp2_with fail
  refine (heldlin_any A5 m k5 d 1 u _ (by omega) (by omega) O5.ints).mono ?_
  rintro e w17 ⟨rfl, hq⟩
  replace q0 := btr q0 hq
  clear hq
  go_wp2_with fail
  go_ret
  exact ⟨rfl, q0⟩
end Go.Proofs.YthcabejfmoedfaaDoor
