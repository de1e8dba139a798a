/- What a loop that draws a constraint keeps; contract of the draw of one constraint. -/
import Derived.Test.YtbhagobkkobgfaaLinK
import Derived.Test.YtbhagobkkobgfaaBT
import Derived.Test.YtbhagobkkobgfaaMark
import Derived.Test.YtbhagobkkobgfaaBD
namespace Go.Proofs.Ytbhagobkkobgfaa
set_option linter.unusedVariables false
set_option linter.unusedSimpArgs false
open Go.RowKit
theorem RD.grow {B : Nat} {w w' : World} {g p : Nat} {row : Option Nat} (h : RD B w g p) (hg : w.grownBy w' row) (hr : ∀ r, row = some r → B ≤ r ∧ r ≠ g) : RD B w' g p := by
  obtain ⟨a, len, cap, hB, c0, c1, f1, hl, hby⟩ := h
  have hl1 := World.block_lt_of_cell? w _ c1
  have ng : row ≠ some g := fun e => (hr g e).2 rfl
  refine ⟨a, len, cap, hB, hg.cell c0 (Ne.symm ng), hg.cell c1 (Ne.symm ng), (World.frozen?_of_block (w := w) (a := ⟨g, 1, none⟩) (hg.block g hl1 (Ne.symm ng))).trans f1, hl, hby.mono fun b o v hb hc => hg.cell hc fun e => ?_⟩
  have := (hr b e.symm).1
  omega
theorem RD.le {B : Nat} {w : World} {g p : Nat} (h : RD B w g p) : B ≤ g := by
  obtain ⟨a, len, cap, hB, _⟩ := h; exact hB
/-- the state of a loop that draws a constraint into block B; g: the reader -/
structure DBld (Bd B : Nat) (w0 : World) (g : Nat) (b : Int) (s : Bool) (k p : Nat) (v : Value) (Z : Nat → Int) (wr : World) : Prop where
  grown : w0.grownBy wr (some g)
  own : wr.ownsRow (B + 1) 3 1 v k (vals k Z)
  c0 : wr.cell? ⟨B, 0, none⟩ = some v
  c1 : wr.cell? ⟨B, 1, none⟩ = some (.int .i64 b)
  c2 : wr.cell? ⟨B, 2, none⟩ = some (.bool s)
  f0 : wr.frozen? ⟨B, 0, none⟩ = false
  rd : ∃ q, q ≤ p ∧ RD Bd wr g q
theorem DBld.grow {Bd B : Nat} {w0 : World} {g : Nat} {b : Int} {s : Bool} {k p p' : Nat} {v : Value} {Z : Nat → Int} {wr w2 : World} (h : DBld Bd B w0 g b s k p v Z wr) (hg : wr.grownBy w2 (some g)) (hB : g < B) (hR : ∃ q, q ≤ p' ∧ RD Bd w2 g q) : DBld Bd B w0 g b s k p' v Z w2 where
  grown := grow_trans h.grown hg
  own := h.own.kept hg (by
    cases hv : v.ownBlock with
    | none => exact .inl rfl
    | some x => have := (h.own.lt x hv).1; exact .inr (by simp; omega))
  c0 := grow_cell hg (by omega) h.c0
  c1 := grow_cell hg (by omega) h.c1
  c2 := grow_cell hg (by omega) h.c2
  f0 := (World.frozen?_of_block (w := wr) (a := ⟨B, 0, none⟩) (hg.block B (cell_lt h.c0) (by simp; omega))).trans h.f0
  rd := hR
theorem DBld.le {Bd B : Nat} {w0 : World} {g : Nat} {b : Int} {s : Bool} {k p p' : Nat} {v : Value} {Z : Nat → Int} {wr : World} (h : DBld Bd B w0 g b s k p v Z wr) (hp : p ≤ p') : DBld Bd B w0 g b s k p' v Z wr :=
  ⟨h.grown, h.own, h.c0, h.c1, h.c2, h.f0, let ⟨q, hq, hR⟩ := h.rd; ⟨q, Nat.le_trans hq hp, hR⟩⟩
theorem vals_put (k : Nat) (Z : Nat → Int) (z : Int) : vals (k + 1) (fun j => if j = k then z else Z j) = vals k Z ++ [.int .i64 z] := by
  rw [vals_snoc]
  congr 1
  · unfold vals
    refine List.map_congr_left fun j hj => ?_
    have : j ≠ k := by have := List.mem_range.1 hj; omega
    simp [this]
  · simp
theorem DBld.step {Bd B : Nat} {w0 : World} {g : Nat} {b : Int} {s : Bool} {k p : Nat} {v v' : Value} {Z : Nat → Int} {z : Int} {w2 w3 : World} (h : DBld Bd B w0 g b s k p v Z w2) (x : Value) (hgB : g < B) (hBd : Bd ≤ B) (hw0 : w0.heap.size ≤ B)
    (hown : w3.ownsRow (B + 1) 3 1 v' (k + 1) (vals k Z ++ [.int .i64 z])) (hg : (w2.alloc (.cells #[x] 3)).grownBy w3 v.ownBlock) :
    DBld Bd B w0 g b s (k + 1) p v' (fun j => if j = k then z else Z j) (w3.setCell ⟨B, 0, none⟩ v') ∧ w3.cell? ⟨B, 0, none⟩ = some v ∧ w3.frozen? ⟨B, 0, none⟩ = false := by
  have hne : ∀ r, r ≤ B → v.ownBlock ≠ some r := by
    intro r hr he
    have := (h.own.lt r he).1
    omega
  have hBr : B < w2.heap.size := cell_lt h.c0
  have kc : ∀ o u, w2.cell? ⟨B, o, none⟩ = some u → w3.cell? ⟨B, o, none⟩ = some u := fun o u h =>
    hg.cell (a := ⟨B, o, none⟩) (carryA _ h) (Ne.symm (hne B (Nat.le_refl _)))
  have blk := hg.block B (by simp; omega) (Ne.symm (hne B (Nat.le_refl _)))
  have f3 : w3.frozen? ⟨B, 0, none⟩ = false := by
    rw [World.frozen?_of_block (w := w2.alloc (.cells #[x] 3)) (a := ⟨B, 0, none⟩) blk]
    exact ((Below.refl w2.heap.size w2).alloc (Nat.le_refl _) _).frozen (p := ⟨B, 0, none⟩) hBr |>.trans h.f0
  have d0 := kc 0 _ h.c0
  obtain ⟨q, hq, hR⟩ := h.rd
  have hR3 : RD Bd w3 g q := (hR.alloc _).grow hg fun r hr => by
    have := (h.own.lt r hr).1
    omega
  have g3 : w0.grownBy w3 (some g) := by
    refine ⟨hg.os.trans h.grown.os, hg.tape.trans h.grown.tape, hg.output.trans h.grown.output, Nat.le_trans h.grown.size (Nat.le_trans (by simp) hg.size), fun i hi hr => ?_⟩
    have hi2 := Nat.lt_of_lt_of_le hi h.grown.size
    rw [hg.block i (by simp; omega) (Ne.symm (hne i (by omega)))]
    exact (World.grownBy_alloc w2 _ none).block i hi2 (by simp) |>.trans (h.grown.block i hi hr)
  refine ⟨⟨grow_setNew g3 (by omega) 0 v', ?_, World.cell?_setCell_same _ _ _ d0, ?_, ?_, by simpa [go_sem] using f3, q, hq, hR3.set (by omega) (by omega) 0 v'⟩, d0, f3⟩
  · rw [vals_put]
    exact ownsRow_setCell_below hown (a := ⟨B, 0, none⟩) (by simp) _
  · rw [World.cell?_setCell_other _ _ _ _ (by simp)]; exact kc 1 _ h.c1
  · rw [World.cell?_setCell_other _ _ _ _ (by simp)]; exact kc 2 _ h.c2
/-- a row of n numbers, in a block from lo on -/
def NewRow (lo : Nat) (w : World) (A : Option Addr) (n : Nat) (Z : Nat → Int) : Prop :=
  n = 0 ∨ ∃ h off, A = some ⟨h, off, none⟩ ∧ lo ≤ h ∧ h < w.heap.size ∧ ∀ k, k < n → w.cell? ⟨h, off + k, none⟩ = some (.int .i64 (Z k))
theorem NewRow.ints {lo : Nat} {w : World} {A : Option Addr} {n : Nat} {Z : Nat → Int} (h : NewRow lo w A n Z) : Ints w A n Z := by
  rcases h with h | ⟨g, off, ha, _, hg, hc⟩
  · exact .inl h
  · exact .inr ⟨g, off, ha, hg, hc⟩
theorem NewRow.grow {lo : Nat} {w w' : World} {A : Option Addr} {n : Nat} {Z : Nat → Int} {row : Option Nat} (h : NewRow lo w A n Z) (hg : w.grownBy w' row) (hr : ∀ r, row = some r → r < lo) : NewRow lo w' A n Z := by
  rcases h with h | ⟨g, off, ha, h1, h2, hc⟩
  · exact .inl h
  · refine .inr ⟨g, off, ha, h1, Nat.lt_of_lt_of_le h2 hg.size, fun k hk => hg.cell (hc k hk) fun e => ?_⟩
    have := hr g e.symm
    omega
/-- a constraint of four coefficients, drawn into a row of its own -/
def AnyP (Bd : Nat) (w : World) (g p : Nat) (e : Ending) (w' : World) : Prop :=
  ∃ A c Z b s q, e = .returned (.agg #[.slice A 4 c, .int .i64 b, .bool s]) ∧ w'.ownsRow (w.heap.size + 1) 3 1 (.slice A 4 c) 4 (vals 4 Z) ∧ w.grownBy w' (some g) ∧ RD Bd w' g q ∧ q ≤ p + 11
theorem own_low {w : World} {base base' n size : Nat} {e : TypeId} {v : Value} {xs : List Value} (hb : base' ≤ base) (h : w.ownsRow base e size v n xs) : w.ownsRow base' e size v n xs := by
  obtain ⟨hl, h | ⟨g, cap, cur, rfl, hg, r⟩⟩ := h
  · exact ⟨hl, .inl h⟩
  · exact ⟨hl, .inr ⟨g, cap, cur, rfl, by omega, r⟩⟩
theorem NewRow.low {lo lo' : Nat} {w : World} {A : Option Addr} {n : Nat} {Z : Nat → Int} (hl : lo' ≤ lo) (h : NewRow lo w A n Z) : NewRow lo' w A n Z := by
  rcases h with h | ⟨g, off, ha, h1, h2, hc⟩
  · exact .inl h
  · exact .inr ⟨g, off, ha, by omega, h2, hc⟩
/-- the state of the draw of a constraint that may be bent, ahead of its end; B: the block it stands in -/
structure SM (Bd B : Nat) (w : World) (g p : Nat) (A : Option Addr) (n c : Nat) (Z : Nat → Int) (b : Int) (s : Bool) (wX : World) : Prop where
  grown : w.grownBy wX (some g)
  k0 : wX.cell? ⟨w.heap.size, 0, none⟩ = some (.slice none 0 0)
  k1 : wX.cell? ⟨w.heap.size, 1, none⟩ = some (.int .i64 0)
  k2 : wX.cell? ⟨w.heap.size, 2, none⟩ = some (.bool false)
  f0 : wX.frozen? ⟨w.heap.size, 0, none⟩ = false
  f1 : wX.frozen? ⟨w.heap.size, 1, none⟩ = false
  f2 : wX.frozen? ⟨w.heap.size, 2, none⟩ = false
  l0 : wX.cell? ⟨B, 0, none⟩ = some (.slice A n c)
  l1 : wX.cell? ⟨B, 1, none⟩ = some (.int .i64 b)
  l2 : wX.cell? ⟨B, 2, none⟩ = some (.bool s)
  g0 : wX.frozen? ⟨B, 0, none⟩ = false
  g1 : wX.frozen? ⟨B, 1, none⟩ = false
  rd : ∃ q, q ≤ p ∧ RD Bd wX g q
theorem SM.grow {Bd B : Nat} {w : World} {g p p' : Nat} {A : Option Addr} {n c : Nat} {Z : Nat → Int} {b : Int} {s : Bool} {wX w2 : World} (h : SM Bd B w g p A n c Z b s wX) (hg : wX.grownBy w2 (some g)) (hB : g < w.heap.size) (hBB : g < B) (hR : ∃ q, q ≤ p' ∧ RD Bd w2 g q) : SM Bd B w g p' A n c Z b s w2 where
  grown := grow_trans h.grown hg
  k0 := grow_cell hg (by omega) h.k0
  k1 := grow_cell hg (by omega) h.k1
  k2 := grow_cell hg (by omega) h.k2
  f0 := (World.frozen?_of_block (w := wX) (a := ⟨w.heap.size, 0, none⟩) (hg.block _ (cell_lt h.k0) (by simp; omega))).trans h.f0
  f1 := (World.frozen?_of_block (w := wX) (a := ⟨w.heap.size, 1, none⟩) (hg.block _ (cell_lt h.k1) (by simp; omega))).trans h.f1
  f2 := (World.frozen?_of_block (w := wX) (a := ⟨w.heap.size, 2, none⟩) (hg.block _ (cell_lt h.k2) (by simp; omega))).trans h.f2
  l0 := grow_cell hg (by omega) h.l0
  l1 := grow_cell hg (by omega) h.l1
  l2 := grow_cell hg (by omega) h.l2
  g0 := (World.frozen?_of_block (w := wX) (a := ⟨B, 0, none⟩) (hg.block _ (cell_lt h.l0) (by simp; omega))).trans h.g0
  g1 := (World.frozen?_of_block (w := wX) (a := ⟨B, 1, none⟩) (hg.block _ (cell_lt h.l1) (by simp; omega))).trans h.g1
  rd := hR
theorem SM.other {Bd B : Nat} {w : World} {g p : Nat} {A : Option Addr} {n c : Nat} {Z : Nat → Int} {b : Int} {s : Bool} {wX w2 : World} {row : Option Nat} (h : SM Bd B w g p A n c Z b s wX) (hg : wX.grownBy w2 row) (hw : g < w.heap.size) (hd : Bd ≤ w.heap.size) (hr : ∀ r, row = some r → w.heap.size < r ∧ r ≠ B) : SM Bd B w g p A n c Z b s w2 := by
  have n1 : ∀ b', b' ≤ w.heap.size ∨ b' = B → some b' ≠ row := fun b' hb e => by have := hr b' e.symm; omega
  have cc : ∀ b' o u, (b' ≤ w.heap.size ∨ b' = B) → wX.cell? ⟨b', o, none⟩ = some u → w2.cell? ⟨b', o, none⟩ = some u := fun b' o u hb hc => hg.cell (a := ⟨b', o, none⟩) hc (n1 b' hb)
  have ff : ∀ b' o, (b' ≤ w.heap.size ∨ b' = B) → b' < wX.heap.size → wX.frozen? ⟨b', o, none⟩ = false → w2.frozen? ⟨b', o, none⟩ = false := fun b' o hb hl hc => (World.frozen?_of_block (w := wX) (a := ⟨b', o, none⟩) (hg.block b' hl (n1 b' hb))).trans hc
  have lw : w.heap.size < wX.heap.size := cell_lt h.k0
  have lB : B < wX.heap.size := cell_lt h.l0
  refine ⟨⟨hg.os.trans h.grown.os, hg.tape.trans h.grown.tape, hg.output.trans h.grown.output, Nat.le_trans h.grown.size hg.size, fun i hi hr' => ?_⟩, cc _ _ _ (.inl (Nat.le_refl _)) h.k0, cc _ _ _ (.inl (Nat.le_refl _)) h.k1, cc _ _ _ (.inl (Nat.le_refl _)) h.k2, ff _ _ (.inl (Nat.le_refl _)) lw h.f0, ff _ _ (.inl (Nat.le_refl _)) lw h.f1, ff _ _ (.inl (Nat.le_refl _)) lw h.f2,
    cc _ _ _ (.inr rfl) h.l0, cc _ _ _ (.inr rfl) h.l1, cc _ _ _ (.inr rfl) h.l2, ff _ _ (.inr rfl) lB h.g0, ff _ _ (.inr rfl) lB h.g1, ?_⟩
  · exact (hg.block i (Nat.lt_of_lt_of_le hi h.grown.size) (n1 i (.inl (Nat.le_of_lt hi)))).trans (h.grown.block i hi hr')
  · obtain ⟨q, hq, hR⟩ := h.rd
    exact ⟨q, hq, hR.grow hg fun r e => by have := hr r e; omega⟩
/-- the local constraint is stored to -/
theorem SM.setC {Bd B : Nat} {w : World} {g p : Nat} {A A' : Option Addr} {n c n' c' : Nat} {Z Z' : Nat → Int} {b : Int} {s : Bool} {wX : World} (h : SM Bd B w g p A n c Z b s wX) (hB : w.heap.size < B) (hBB : g < w.heap.size) (hd : Bd ≤ B) : SM Bd B w g p A' n' c' Z' b s (wX.setCell ⟨B, 0, none⟩ (.slice A' n' c')) where
  grown := grow_setNew h.grown (by omega) 0 _
  k0 := by rw [World.cell?_setCell_other _ _ _ _ (by simp <;> omega)]; exact h.k0
  k1 := by rw [World.cell?_setCell_other _ _ _ _ (by simp <;> omega)]; exact h.k1
  k2 := by rw [World.cell?_setCell_other _ _ _ _ (by simp <;> omega)]; exact h.k2
  f0 := by simpa [go_sem] using h.f0
  f1 := by simpa [go_sem] using h.f1
  f2 := by simpa [go_sem] using h.f2
  l0 := World.cell?_setCell_same _ _ _ h.l0
  l1 := by rw [World.cell?_setCell_other _ _ _ _ (by simp <;> omega)]; exact h.l1
  l2 := by rw [World.cell?_setCell_other _ _ _ _ (by simp <;> omega)]; exact h.l2
  g0 := by simpa [go_sem] using h.g0
  g1 := by simpa [go_sem] using h.g1
  rd := let ⟨q, hq, hR⟩ := h.rd; ⟨q, hq, hR.set (by omega) hd 0 _⟩
theorem SM.setB {Bd B : Nat} {w : World} {g p : Nat} {A : Option Addr} {n c : Nat} {Z : Nat → Int} {b : Int} {s : Bool} {wX : World} (h : SM Bd B w g p A n c Z b s wX) (b' : Int) (hB : w.heap.size < B) (hBB : g < w.heap.size) (hd : Bd ≤ B) : SM Bd B w g p A n c Z b' s (wX.setCell ⟨B, 1, none⟩ (.int .i64 b')) where
  grown := grow_setNew h.grown (by omega) 1 _
  k0 := by rw [World.cell?_setCell_other _ _ _ _ (by simp <;> omega)]; exact h.k0
  k1 := by rw [World.cell?_setCell_other _ _ _ _ (by simp <;> omega)]; exact h.k1
  k2 := by rw [World.cell?_setCell_other _ _ _ _ (by simp <;> omega)]; exact h.k2
  f0 := by simpa [go_sem] using h.f0
  f1 := by simpa [go_sem] using h.f1
  f2 := by simpa [go_sem] using h.f2
  l0 := by rw [World.cell?_setCell_other _ _ _ _ (by simp <;> omega)]; exact h.l0
  l1 := World.cell?_setCell_same _ _ _ h.l1
  l2 := by rw [World.cell?_setCell_other _ _ _ _ (by simp <;> omega)]; exact h.l2
  g0 := by simpa [go_sem] using h.g0
  g1 := by simpa [go_sem] using h.g1
  rd := let ⟨q, hq, hR⟩ := h.rd; ⟨q, hq, hR.set (by omega) hd 1 _⟩
/-- a drawn constraint -/
def SomeP (Bd : Nat) (w : World) (g p : Nat) (e : Ending) (w' : World) : Prop :=
  ∃ A n c Z b s q, e = .returned (.agg #[.slice A n c, .int .i64 b, .bool s]) ∧ (1 ≤ n ∧ n ≤ 5) ∧ n ≤ c ∧ c ≤ 9223372036854775807 ∧ NewRow w.heap.size w' A n Z ∧ w.grownBy w' (some g) ∧ RD Bd w' g q ∧ q ≤ p + 20
end Go.Proofs.Ytbhagobkkobgfaa
