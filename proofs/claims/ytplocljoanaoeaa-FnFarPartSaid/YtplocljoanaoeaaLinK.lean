/- Contract of the model's LinNot. -/
import Derived.Test.YtplocljoanaoeaaBI
import Derived.Laws.AppendOwn
import Derived.Laws.OwnMore
namespace Go.Proofs.Ytplocljoanaoeaa
set_option linter.unusedVariables false
set_option linter.unusedSimpArgs false
open Go.RowKit
theorem own_below {w w' : World} {base n size : Nat} {e : TypeId} {v : Value} {xs : List Value} (hb : Below w.heap.size w w') (h : w.ownsRow base e size v n xs) : w'.ownsRow base e size v n xs := by
  refine h.kept (row := none) ⟨hb.os, hb.tape, hb.output, hb.size, fun k hk _ => hb.block k hk⟩ ?_
  cases v.ownBlock with
  | none => exact .inl rfl
  | some x => exact .inr (by simp)
/-- the first k of the numbers Z, as values -/
def vals (k : Nat) (Z : Nat → Int) : List Value := (List.range k).map fun j => Value.int .i64 (Z j)
theorem vals_snoc (k : Nat) (Z : Nat → Int) : vals (k + 1) Z = vals k Z ++ [.int .i64 (Z k)] := by unfold vals; rw [List.range_succ, List.map_append]; rfl
theorem vals_at {k j : Nat} {Z : Nat → Int} (h : j < k) : (vals k Z)[j]? = some (.int .i64 (Z j)) := by unfold vals; simp [h]
/-- an owned row of n numbers is a row of new memory -/
theorem own_new {W w : World} {base n : Nat} {e : TypeId} {v : Value} {Z : Nat → Int} (hn : 0 < n) (hB : W.heap.size ≤ base) (h : w.ownsRow base e 1 v n (vals n Z)) :
    ∃ A c, v = .slice A n c ∧ n ≤ c ∧ c ≤ 9223372036854775807 ∧ OwnI W w A n Z := by
  have h0 := h
  obtain ⟨hl, h | ⟨g, cap, cur, rfl, hg, hh, h1, h2, h3, h4⟩⟩ := h
  · omega
  · unfold maxLen at h2
    refine ⟨_, cap, rfl, h1, by omega, .inr ⟨g, rfl, by omega, World.block_lt_of_cell? w ⟨g, 0, none⟩ (h0.cellAt 0 (by omega) |>.trans (vals_at hn)), fun k hk => ⟨(h0.cellAt k (by omega)).trans (vals_at hk), h0.frozenAt k⟩⟩⟩
/-- the state of a loop that builds a constraint in block B -/
def Bld (B : Nat) (w1 : World) (Z : Nat → Int) (b : Int) (s : Bool) (k : Nat) (wr : World) : Prop :=
  ∃ v, Below B w1 wr ∧ wr.ownsRow (B + 1) 3 1 v k (vals k Z) ∧ wr.cell? ⟨B, 0, none⟩ = some v ∧ wr.cell? ⟨B, 1, none⟩ = some (.int .i64 b) ∧ wr.cell? ⟨B, 2, none⟩ = some (.bool s) ∧ wr.frozen? ⟨B, 0, none⟩ = false
theorem Bld.start (w1 : World) (Z : Nat → Int) (b : Int) (s : Bool) : Bld w1.heap.size w1 Z b s 0 (w1.alloc (.cells #[.slice none 0 0, .int .i64 b, .bool s] 28)) :=
  ⟨_, bal (Below.refl _ _) _, World.ownsRow_nil _ _ _ _, by simp [go_sem], by simp [go_sem], by simp [go_sem], by simp [go_sem]⟩
theorem Bld.step {B : Nat} {w1 wr w2 w3 : World} {Z : Nat → Int} {b : Int} {s : Bool} {k : Nat} {v v' : Value} (x : Value) (hb : Below B w1 wr) (hBr : B < wr.heap.size) (h1 : wr.cell? ⟨B, 1, none⟩ = some (.int .i64 b)) (h2 : wr.cell? ⟨B, 2, none⟩ = some (.bool s)) (h0 : wr.cell? ⟨B, 0, none⟩ = some v) (hf : wr.frozen? ⟨B, 0, none⟩ = false)
    (ho : wr.ownsRow (B + 1) 3 1 v k (vals k Z)) (hq : Below wr.heap.size wr w2) (hown : w3.ownsRow (B + 1) 3 1 v' (k + 1) (vals k Z ++ [.int .i64 (Z k)])) (hg : (w2.alloc (.cells #[x] 3)).grownBy w3 v.ownBlock) :
    Bld B w1 Z b s (k + 1) (w3.setCell ⟨B, 0, none⟩ v') := by
  have hne : v.ownBlock ≠ some B := by
    intro he
    have := (ho.lt B he).1
    omega
  have hB2 : B < w2.heap.size := Nat.lt_of_lt_of_le hBr hq.size
  have kc : ∀ o u, wr.cell? ⟨B, o, none⟩ = some u → w3.cell? ⟨B, o, none⟩ = some u := fun o u h =>
    hg.cell (a := ⟨B, o, none⟩) (carryA _ (carry hq h)) (Ne.symm hne)
  have blk := hg.block B (by simp; omega) (Ne.symm hne)
  have f3 : w3.frozen? ⟨B, 0, none⟩ = false := by
    rw [World.frozen?_of_block (w := w2.alloc (.cells #[x] 3)) (a := ⟨B, 0, none⟩) blk]
    exact ((Below.refl w2.heap.size w2).alloc (Nat.le_refl _) _).frozen (p := ⟨B, 0, none⟩) hB2 |>.trans (hq.frozen (p := ⟨B, 0, none⟩) hBr |>.trans hf)
  have c0 := kc 0 _ h0
  have b3 : Below B w1 w3 := by
    refine (hb.trans ((hq.mono (by omega)).alloc (by omega) _)).grown hg (by simp; omega) ?_
    intro j hj
    have := (ho.lt j hj).1
    omega
  refine ⟨v', b3.setCell (Nat.le_refl _) _, ?_, World.cell?_setCell_same _ _ _ c0, ?_, ?_, by simpa [go_sem] using f3⟩
  · rw [vals_snoc]
    exact ownsRow_setCell_below hown (a := ⟨B, 0, none⟩) (by simp) _
  · rw [World.cell?_setCell_other _ _ _ _ (by simp)]; exact kc 1 _ h1
  · rw [World.cell?_setCell_other _ _ _ _ (by simp)]; exact kc 2 _ h2
theorem bld_room {B : Nat} {wr w2 w3 : World} {Y : List Value} {k : Nat} {v : Value} (x : Value) (hBr : B < wr.heap.size) (h0 : wr.cell? ⟨B, 0, none⟩ = some v) (hf : wr.frozen? ⟨B, 0, none⟩ = false)
    (ho : wr.ownsRow (B + 1) 3 1 v k Y) (hq : Below wr.heap.size wr w2) (hg : (w2.alloc (.cells #[x] 3)).grownBy w3 v.ownBlock) : w3.cell? ⟨B, 0, none⟩ = some v ∧ w3.frozen? ⟨B, 0, none⟩ = false := by
  have hne : v.ownBlock ≠ some B := by
    intro he
    have := (ho.lt B he).1
    omega
  have hB2 : B < w2.heap.size := Nat.lt_of_lt_of_le hBr hq.size
  refine ⟨hg.cell (a := ⟨B, 0, none⟩) (carryA _ (carry hq h0)) (Ne.symm hne), ?_⟩
  rw [World.frozen?_of_block (w := w2.alloc (.cells #[x] 3)) (a := ⟨B, 0, none⟩) (hg.block B (by simp; omega) (Ne.symm hne))]
  exact ((Below.refl w2.heap.size w2).alloc (Nat.le_refl _) _).frozen (p := ⟨B, 0, none⟩) hB2 |>.trans (hq.frozen (p := ⟨B, 0, none⟩) hBr |>.trans hf)
theorem own_slice {w : World} {base n size : Nat} {e : TypeId} {v : Value} {xs : List Value} (h : w.ownsRow base e size v n xs) : ∃ A c, v = .slice A n c := by
  obtain ⟨_, ⟨rfl, rfl⟩ | ⟨g, cap, cur, rfl, _⟩⟩ := h
  · exact ⟨_, _, rfl⟩
  · exact ⟨_, _, rfl⟩
theorem carryAf {w : World} {b o : Nat} (x : Obj) {v : Bool} (h : w.frozen? ⟨b, o, none⟩ = v) (hb : b < w.heap.size) : (w.alloc x).frozen? ⟨b, o, none⟩ = v :=
  (((Below.refl w.heap.size w).alloc (Nat.le_refl _) x).frozen (p := ⟨b, o, none⟩) hb).trans h
theorem bld_keep {B b1 o1 b2 o2 k : Nat} {wr w3 : World} {x0 v u1 u2 : Value} {Y : List Value} (ho : wr.ownsRow (B + 1) 3 1 v k Y) (hg : ((wr.alloc (.cells #[x0] 3)).drew).grownBy w3 v.ownBlock)
    (h0 : wr.cell? ⟨B, 0, none⟩ = some v) (h1 : wr.cell? ⟨b1, o1, none⟩ = some u1) (h2 : wr.cell? ⟨b2, o2, none⟩ = some u2) (hf : wr.frozen? ⟨B, 0, none⟩ = false) (l1 : b1 ≤ B) (l2 : b2 ≤ B) :
    w3.cell? ⟨B, 0, none⟩ = some v ∧ w3.cell? ⟨b1, o1, none⟩ = some u1 ∧ w3.cell? ⟨b2, o2, none⟩ = some u2 ∧ w3.frozen? ⟨B, 0, none⟩ = false := by
  have hne : ∀ b, b ≤ B → v.ownBlock ≠ some b := by
    intro b hb he
    have := (ho.lt b he).1
    omega
  have kc : ∀ b o u, b ≤ B → wr.cell? ⟨b, o, none⟩ = some u → w3.cell? ⟨b, o, none⟩ = some u := fun b o u hb h =>
    hg.cell (a := ⟨b, o, none⟩) (show (wr.alloc (.cells #[x0] 3)).cell? ⟨b, o, none⟩ = some u from carryA _ h) (Ne.symm (hne b hb))
  refine ⟨kc _ _ _ (Nat.le_refl _) h0, kc _ _ _ l1 h1, kc _ _ _ l2 h2, ?_⟩
  have hB : B < wr.heap.size := cell_lt h0
  rw [World.frozen?_of_block (w := (wr.alloc (.cells #[x0] 3)).drew) (a := ⟨B, 0, none⟩) (hg.block B (by simp; omega) (Ne.symm (hne B (Nat.le_refl _))))]
  exact carryAf _ hf hB
theorem new_one (w : World) (x : Value) (t : TypeId) : ∀ (j : Nat) (u : Value), ([x] : List Value)[j]? = some u → (w.alloc (.cells #[x] t)).cell? ((⟨w.heap.size, 0, none⟩ : Addr).add j) = some u := by
  intro j u h
  match j with
  | 0 => simp at h; subst h; simp [go_sem, Addr.add]
  | j + 1 => simp at h
end Go.Proofs.Ytplocljoanaoeaa
