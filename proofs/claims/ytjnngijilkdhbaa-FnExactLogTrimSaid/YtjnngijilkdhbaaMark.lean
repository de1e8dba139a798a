/- Marks: rows that a law writes to, and what it holds them against. -/
import Derived.Test.YtjnngijilkdhbaaLinP
import Derived.Test.YtjnngijilkdhbaaLinO
import Derived.Test.YtjnngijilkdhbaaBD
namespace Go.Proofs.Ytjnngijilkdhbaa
set_option linter.unusedVariables false
set_option linter.unusedSimpArgs false
open Go.RowKit
/-- a row of n numbers in a block of [lo, hi) -/
def OwnB (lo hi : Nat) (w : World) (A : Option Addr) (n : Nat) (Z : Nat → Int) : Prop :=
  n = 0 ∨ ∃ g, A = some ⟨g, 0, none⟩ ∧ lo ≤ g ∧ g < hi ∧ g < w.heap.size ∧ ∀ k, k < n → w.cell? ⟨g, k, none⟩ = some (.int .i64 (Z k)) ∧ w.frozen? ⟨g, k, none⟩ = false
theorem OwnI.ownB {W w : World} {A : Option Addr} {n : Nat} {Z : Nat → Int} (h : OwnI W w A n Z) : OwnB W.heap.size w.heap.size w A n Z := by
  rcases h with h | ⟨g, ha, hg, hg', hc⟩
  · exact .inl h
  · exact .inr ⟨g, ha, hg, hg', hg', hc⟩
theorem OwnB.ints {lo hi : Nat} {w : World} {A : Option Addr} {n : Nat} {Z : Nat → Int} (h : OwnB lo hi w A n Z) : Ints w A n Z := by
  rcases h with h | ⟨g, ha, _, _, hg, hc⟩
  · exact .inl h
  · exact .inr ⟨g, 0, ha, hg, fun k hk => by rw [Nat.zero_add]; exact (hc k hk).1⟩
theorem OwnB.below {lo hi : Nat} {w w' : World} {A : Option Addr} {n : Nat} {Z : Nat → Int} (hb : Below w.heap.size w w') (h : OwnB lo hi w A n Z) : OwnB lo hi w' A n Z := by
  rcases h with h | ⟨g, ha, h1, h2, hg, hc⟩
  · exact .inl h
  · exact .inr ⟨g, ha, h1, h2, Nat.lt_of_lt_of_le hg hb.size, fun k hk => ⟨(hb.cell (p := ⟨g, k, none⟩) hg).trans (hc k hk).1, (hb.frozen (p := ⟨g, k, none⟩) hg).trans (hc k hk).2⟩⟩
theorem OwnB.keep {lo hi : Nat} {w w' : World} {row : Option Nat} {A : Option Addr} {n : Nat} {Z : Nat → Int} (hg : w.grownBy w' row) (hr : ∀ g, row = some g → g < lo ∨ hi ≤ g) (h : OwnB lo hi w A n Z) : OwnB lo hi w' A n Z := by
  rcases h with h | ⟨g, ha, h1, h2, hgw, hc⟩
  · exact .inl h
  · have hb := hg.block g hgw (fun e => by have := hr g e.symm; omega)
    exact .inr ⟨g, ha, h1, h2, Nat.lt_of_lt_of_le hgw hg.size, fun k hk => ⟨(World.cell?_of_block (w := w) (a := ⟨g, k, none⟩) hb).trans (hc k hk).1, (World.frozen?_of_block (w := w) (a := ⟨g, k, none⟩) hb).trans (hc k hk).2⟩⟩
theorem KcL.keep {w w' : World} {row : Option Nat} (hg : w.grownBy w' row) : ∀ {L : List (Nat × Nat × Value)}, (∀ e ∈ L, ∀ g, row = some g → e.1 ≠ g) → KcL L w → KcL L w'
  | [], _, _ => trivial
  | e :: l, hr, ⟨h, t⟩ => by
    refine ⟨?_, KcL.keep hg (fun e' he => hr e' (by simp [he])) t⟩
    have hl := cell_lt h
    exact (World.cell?_of_block (w := w) (a := ⟨e.1, e.2.1, none⟩) (hg.block e.1 hl (fun x => hr e (by simp) e.1 x.symm rfl))).trans h
/-- a call that has written marks from k on into a row of [lo, hi) -/
def MarkP (lo hi : Nat) (w : World) (A : Option Addr) (n : Nat) (k : Int) (e : Ending) (w' : World) : Prop :=
  e = .returned (.int .i64 (k + n)) ∧ OwnB lo hi w' A n (fun j => k + j) ∧ ∃ row, w.grownBy w' row ∧ ∀ g, row = some g → lo ≤ g ∧ g < hi
theorem MarkP.nil {lo hi : Nat} {w w' : World} {A : Option Addr} {k : Int} (h : w.grownBy w' none) : MarkP lo hi w A 0 k (.returned (.int .i64 k)) w' :=
  ⟨by simp, .inl rfl, none, h, fun g h => by cases h⟩
set_option maxHeartbeats 1000000 in
theorem markints_any (lo hi : Nat) (A : Option Addr) (n c : Nat) (Z : Nat → Int) (k : Int) (w : World) (hn : n ≤ 1048576) (hk : 0 ≤ k ∧ k ≤ 1000000000000000000) (h : OwnB lo hi w A n Z) :
    Calls Try.prog 27 #[.slice A n c, .int .i64 k] w (MarkP lo hi w A n k) := by
  obtain ⟨k1, k2⟩ := hk
  rcases h with rfl | ⟨g, rfl, h1, h2, hgw, hc⟩
  · go_enter Try.func27, Try.ntmps27
    go_wp2
    refine wp_loop_rounds 1 ?_
    rw [rounds_succ]
    go_wp2
    go_ret
    exact MarkP.nil (grow_refl _ _)
  · have HC := hid hc; clear hc
    go_enter Try.func27, Try.ntmps27
    go_wp2
    go_loopw [1, 5] (fun q i wr => ∃ j : Nat, j ≤ n ∧ i = .int .i64 j ∧ q = .int .i64 (k + j) ∧ w.grownBy wr (some g) ∧ (∀ o, o < n → ∃ u, wr.cell? ⟨g, o, none⟩ = some u ∧ wr.frozen? ⟨g, o, none⟩ = false) ∧ ∀ o, o < j → wr.cell? ⟨g, o, none⟩ = some (.int .i64 (k + o))) (fun _ i _ => n - (intOf i).toNat)
    case atStart => exact ⟨0, Nat.zero_le _, rfl, by simp, grow_refl _ _, fun o ho => ⟨_, (HC.out o ho).1, (HC.out o ho).2⟩, fun o ho => by omega⟩
    case round =>
      obtain ⟨j, hj, rfl, rfl, hg, hx, hd⟩ := hrel
      have HX := hid hx
      have HD := hid hd
      clear hd
      by_cases hlt : j < n
      · obtain ⟨u, c1, c2⟩ := hx j hlt
        clear hx
        go_wp2
        go_roundw
        case rel =>
          refine ⟨j + 1, by omega, by go_num, by go_num, grow_trans hg (grow_set _ _ _ _), fun o ho => ?_, fun o ho => ?_⟩
          · obtain ⟨u', d1, d2⟩ := HX.out o ho
            by_cases e : o = j
            · subst e; exact ⟨_, World.cell?_setCell_same _ _ _ d1, by simpa [go_sem] using d2⟩
            · exact ⟨u', by rw [World.cell?_setCell_other _ _ _ _ (by simp <;> omega)]; exact d1, by simpa [go_sem] using d2⟩
          · by_cases e : o = j
            · subst e; exact World.cell?_setCell_same _ _ _ c1
            · rw [World.cell?_setCell_other _ _ _ _ (by simp <;> omega)]; exact HD.out o (by omega)
        case measure => simp [intOf]; omega
      · have hje : j = n := by omega
        subst hje
        clear hx
        go_wp2
        go_ret
        exact ⟨rfl, .inr ⟨g, rfl, h1, h2, Nat.lt_of_lt_of_le hgw hg.size, fun o ho => ⟨HD.out o ho, by obtain ⟨_, _, d⟩ := HX.out o ho; exact d⟩⟩, some g, hg, fun g' e => by cases e; exact ⟨h1, h2⟩⟩
set_option maxHeartbeats 1000000 in
theorem heldints_any (A : Option Addr) (n c : Nat) (k : Int) (w : World) (hn : n ≤ 1048576) (hk : 0 ≤ k ∧ k ≤ 1000000000000000000) (h : Ints w A n (fun j => k + j)) :
    Calls Try.prog 28 #[.slice A n c, .int .i64 k] w fun e w' => e = .returned (.int .i64 (k + n)) ∧ w = w' := by
  obtain ⟨k1, k2⟩ := hk
  go_enter Try.func28, Try.ntmps28
  go_wp2
  go_loop [1, 5] (fun q i => ∃ j : Nat, j ≤ n ∧ i = .int .i64 j ∧ q = .int .i64 (k + j)) (fun _ i => n - (intOf i).toNat)
  case atStart => exact ⟨0, Nat.zero_le _, rfl, by simp⟩
  case round =>
    obtain ⟨j, hj, rfl, rfl⟩ := hrel
    by_cases hlt : j < n
    · rcases h with h0 | ⟨g, off, rfl, hg, hc⟩
      · omega
      have c1 := hc j hlt
      have e2 : ((k + (j : Int)) != (k + (j : Int))) = false := by simp
      clear hc
      go_wp2
      go_round
      case rel => exact ⟨j + 1, by omega, by go_num, by go_num⟩
      case measure => simp [intOf]; omega
    · have hje : j = n := by omega
      subst hje
      go_wp2
      go_ret
      exact ⟨rfl, rfl⟩
end Go.Proofs.Ytjnngijilkdhbaa
