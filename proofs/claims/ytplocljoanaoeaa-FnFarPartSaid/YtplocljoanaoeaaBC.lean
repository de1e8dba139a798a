/- Several texts in one: LinDA, LinDB, LinDC, LinDD, LinDE, LinDF, LinDG. -/
import Derived.Test.YtplocljoanaoeaaLinK
import Derived.Test.YtplocljoanaoeaaBT
import Derived.Test.YtplocljoanaoeaaMark
import Derived.Test.YtplocljoanaoeaaBD
import Derived.Test.YtplocljoanaoeaaLinL
import Derived.Test.YtplocljoanaoeaaPlanC
import Derived.Test.YtplocljoanaoeaaLinU
import Derived.Test.YtplocljoanaoeaaBR
namespace Go.Proofs.Ytplocljoanaoeaa
set_option linter.unusedVariables false
set_option linter.unusedSimpArgs false
open Go.RowKit
theorem RD.grow {B : Nat} {w w' : World} {g p : Nat} {row : Option Nat} (h : RD B w g p) (hg : w.grownBy w' row) (hr : ∀ r, row = some r → B ≤ r ∧ r ≠ g) : RD B w' g p := by
  obtain ⟨a, len, cap, hB, c0, c1, f1, hl, hby⟩ := h
  have hl1 := World.block_lt_of_cell? w _ c1
  have ng : row ≠ some g := fun e => (hr g e).2 rfl
  refine ⟨a, len, cap, hB, hg.cell c0 (Ne.symm ng), hg.cell c1 (Ne.symm ng), (World.frozen?_of_block (w := w) (a := ⟨g, 1, none⟩) (hg.block g hl1 (Ne.symm ng))).trans f1, hl, hby.mono fun b o v hb hc => hg.cell hc fun e => ?_⟩
  have := (hr b e.symm).1
  omega
theorem RD.le {B : Nat} {w : World} {g p : Nat} (h : RD B w g p) : B ≤ g := by
  obtain ⟨a, len, cap, hB, _⟩ := h; exact hB
/-- the state of a loop that draws a constraint into block B; g: the reader -/
structure DBld (Bd B : Nat) (w0 : World) (g : Nat) (b : Int) (s : Bool) (k p : Nat) (v : Value) (Z : Nat → Int) (wr : World) : Prop where
  grown : w0.grownBy wr (some g)
  own : wr.ownsRow (B + 1) 3 1 v k (vals k Z)
  c0 : wr.cell? ⟨B, 0, none⟩ = some v
  c1 : wr.cell? ⟨B, 1, none⟩ = some (.int .i64 b)
  c2 : wr.cell? ⟨B, 2, none⟩ = some (.bool s)
  f0 : wr.frozen? ⟨B, 0, none⟩ = false
  rd : ∃ q, q ≤ p ∧ RD Bd wr g q
theorem DBld.grow {Bd B : Nat} {w0 : World} {g : Nat} {b : Int} {s : Bool} {k p p' : Nat} {v : Value} {Z : Nat → Int} {wr w2 : World} (h : DBld Bd B w0 g b s k p v Z wr) (hg : wr.grownBy w2 (some g)) (hB : g < B) (hR : ∃ q, q ≤ p' ∧ RD Bd w2 g q) : DBld Bd B w0 g b s k p' v Z w2 where
  grown := grow_trans h.grown hg
  own := h.own.kept hg (by
    cases hv : v.ownBlock with
    | none => exact .inl rfl
    | some x => have := (h.own.lt x hv).1; exact .inr (by simp; omega))
  c0 := grow_cell hg (by omega) h.c0
  c1 := grow_cell hg (by omega) h.c1
  c2 := grow_cell hg (by omega) h.c2
  f0 := (World.frozen?_of_block (w := wr) (a := ⟨B, 0, none⟩) (hg.block B (cell_lt h.c0) (by simp; omega))).trans h.f0
  rd := hR
theorem DBld.le {Bd B : Nat} {w0 : World} {g : Nat} {b : Int} {s : Bool} {k p p' : Nat} {v : Value} {Z : Nat → Int} {wr : World} (h : DBld Bd B w0 g b s k p v Z wr) (hp : p ≤ p') : DBld Bd B w0 g b s k p' v Z wr :=
  ⟨h.grown, h.own, h.c0, h.c1, h.c2, h.f0, let ⟨q, hq, hR⟩ := h.rd; ⟨q, Nat.le_trans hq hp, hR⟩⟩
theorem vals_put (k : Nat) (Z : Nat → Int) (z : Int) : vals (k + 1) (fun j => if j = k then z else Z j) = vals k Z ++ [.int .i64 z] := by
  rw [vals_snoc]
  congr 1
  · unfold vals
    refine List.map_congr_left fun j hj => ?_
    have : j ≠ k := by have := List.mem_range.1 hj; omega
    simp [this]
  · simp
theorem DBld.step {Bd B : Nat} {w0 : World} {g : Nat} {b : Int} {s : Bool} {k p : Nat} {v v' : Value} {Z : Nat → Int} {z : Int} {w2 w3 : World} (h : DBld Bd B w0 g b s k p v Z w2) (x : Value) (hgB : g < B) (hBd : Bd ≤ B) (hw0 : w0.heap.size ≤ B)
    (hown : w3.ownsRow (B + 1) 3 1 v' (k + 1) (vals k Z ++ [.int .i64 z])) (hg : (w2.alloc (.cells #[x] 3)).grownBy w3 v.ownBlock) :
    DBld Bd B w0 g b s (k + 1) p v' (fun j => if j = k then z else Z j) (w3.setCell ⟨B, 0, none⟩ v') ∧ w3.cell? ⟨B, 0, none⟩ = some v ∧ w3.frozen? ⟨B, 0, none⟩ = false := by
  have hne : ∀ r, r ≤ B → v.ownBlock ≠ some r := by
    intro r hr he
    have := (h.own.lt r he).1
    omega
  have hBr : B < w2.heap.size := cell_lt h.c0
  have kc : ∀ o u, w2.cell? ⟨B, o, none⟩ = some u → w3.cell? ⟨B, o, none⟩ = some u := fun o u h =>
    hg.cell (a := ⟨B, o, none⟩) (carryA _ h) (Ne.symm (hne B (Nat.le_refl _)))
  have blk := hg.block B (by simp; omega) (Ne.symm (hne B (Nat.le_refl _)))
  have f3 : w3.frozen? ⟨B, 0, none⟩ = false := by
    rw [World.frozen?_of_block (w := w2.alloc (.cells #[x] 3)) (a := ⟨B, 0, none⟩) blk]
    exact ((Below.refl w2.heap.size w2).alloc (Nat.le_refl _) _).frozen (p := ⟨B, 0, none⟩) hBr |>.trans h.f0
  have d0 := kc 0 _ h.c0
  obtain ⟨q, hq, hR⟩ := h.rd
  have hR3 : RD Bd w3 g q := (hR.alloc _).grow hg fun r hr => by
    have := (h.own.lt r hr).1
    omega
  have g3 : w0.grownBy w3 (some g) := by
    refine ⟨hg.os.trans h.grown.os, hg.tape.trans h.grown.tape, hg.output.trans h.grown.output, Nat.le_trans h.grown.size (Nat.le_trans (by simp) hg.size), fun i hi hr => ?_⟩
    have hi2 := Nat.lt_of_lt_of_le hi h.grown.size
    rw [hg.block i (by simp; omega) (Ne.symm (hne i (by omega)))]
    exact (World.grownBy_alloc w2 _ none).block i hi2 (by simp) |>.trans (h.grown.block i hi hr)
  refine ⟨⟨grow_setNew g3 (by omega) 0 v', ?_, World.cell?_setCell_same _ _ _ d0, ?_, ?_, by simpa [go_sem] using f3, q, hq, hR3.set (by omega) (by omega) 0 v'⟩, d0, f3⟩
  · rw [vals_put]
    exact ownsRow_setCell_below hown (a := ⟨B, 0, none⟩) (by simp) _
  · rw [World.cell?_setCell_other _ _ _ _ (by simp)]; exact kc 1 _ h.c1
  · rw [World.cell?_setCell_other _ _ _ _ (by simp)]; exact kc 2 _ h.c2
/-- a row of n numbers, in a block from lo on -/
def NewRow (lo : Nat) (w : World) (A : Option Addr) (n : Nat) (Z : Nat → Int) : Prop :=
  n = 0 ∨ ∃ h off, A = some ⟨h, off, none⟩ ∧ lo ≤ h ∧ h < w.heap.size ∧ ∀ k, k < n → w.cell? ⟨h, off + k, none⟩ = some (.int .i64 (Z k))
theorem NewRow.ints {lo : Nat} {w : World} {A : Option Addr} {n : Nat} {Z : Nat → Int} (h : NewRow lo w A n Z) : Ints w A n Z := by
  rcases h with h | ⟨g, off, ha, _, hg, hc⟩
  · exact .inl h
  · exact .inr ⟨g, off, ha, hg, hc⟩
theorem NewRow.grow {lo : Nat} {w w' : World} {A : Option Addr} {n : Nat} {Z : Nat → Int} {row : Option Nat} (h : NewRow lo w A n Z) (hg : w.grownBy w' row) (hr : ∀ r, row = some r → r < lo) : NewRow lo w' A n Z := by
  rcases h with h | ⟨g, off, ha, h1, h2, hc⟩
  · exact .inl h
  · refine .inr ⟨g, off, ha, h1, Nat.lt_of_lt_of_le h2 hg.size, fun k hk => hg.cell (hc k hk) fun e => ?_⟩
    have := hr g e.symm
    omega
/-- a constraint of four coefficients, drawn into a row of its own -/
def AnyP (Bd : Nat) (w : World) (g p : Nat) (e : Ending) (w' : World) : Prop :=
  ∃ A c Z b s q, e = .returned (.agg #[.slice A 4 c, .int .i64 b, .bool s]) ∧ w'.ownsRow (w.heap.size + 1) 3 1 (.slice A 4 c) 4 (vals 4 Z) ∧ w.grownBy w' (some g) ∧ RD Bd w' g q ∧ q ≤ p + 11
theorem own_low {w : World} {base base' n size : Nat} {e : TypeId} {v : Value} {xs : List Value} (hb : base' ≤ base) (h : w.ownsRow base e size v n xs) : w.ownsRow base' e size v n xs := by
  obtain ⟨hl, h | ⟨g, cap, cur, rfl, hg, r⟩⟩ := h
  · exact ⟨hl, .inl h⟩
  · exact ⟨hl, .inr ⟨g, cap, cur, rfl, by omega, r⟩⟩
theorem NewRow.low {lo lo' : Nat} {w : World} {A : Option Addr} {n : Nat} {Z : Nat → Int} (hl : lo' ≤ lo) (h : NewRow lo w A n Z) : NewRow lo' w A n Z := by
  rcases h with h | ⟨g, off, ha, h1, h2, hc⟩
  · exact .inl h
  · exact .inr ⟨g, off, ha, by omega, h2, hc⟩
/-- the state of the draw of a constraint that may be bent, ahead of its end; B: the block it stands in -/
structure SM (Bd B : Nat) (w : World) (g p : Nat) (A : Option Addr) (n c : Nat) (Z : Nat → Int) (b : Int) (s : Bool) (wX : World) : Prop where
  grown : w.grownBy wX (some g)
  k0 : wX.cell? ⟨w.heap.size, 0, none⟩ = some (.slice none 0 0)
  k1 : wX.cell? ⟨w.heap.size, 1, none⟩ = some (.int .i64 0)
  k2 : wX.cell? ⟨w.heap.size, 2, none⟩ = some (.bool false)
  f0 : wX.frozen? ⟨w.heap.size, 0, none⟩ = false
  f1 : wX.frozen? ⟨w.heap.size, 1, none⟩ = false
  f2 : wX.frozen? ⟨w.heap.size, 2, none⟩ = false
  l0 : wX.cell? ⟨B, 0, none⟩ = some (.slice A n c)
  l1 : wX.cell? ⟨B, 1, none⟩ = some (.int .i64 b)
  l2 : wX.cell? ⟨B, 2, none⟩ = some (.bool s)
  g0 : wX.frozen? ⟨B, 0, none⟩ = false
  g1 : wX.frozen? ⟨B, 1, none⟩ = false
  rd : ∃ q, q ≤ p ∧ RD Bd wX g q
theorem SM.grow {Bd B : Nat} {w : World} {g p p' : Nat} {A : Option Addr} {n c : Nat} {Z : Nat → Int} {b : Int} {s : Bool} {wX w2 : World} (h : SM Bd B w g p A n c Z b s wX) (hg : wX.grownBy w2 (some g)) (hB : g < w.heap.size) (hBB : g < B) (hR : ∃ q, q ≤ p' ∧ RD Bd w2 g q) : SM Bd B w g p' A n c Z b s w2 where
  grown := grow_trans h.grown hg
  k0 := grow_cell hg (by omega) h.k0
  k1 := grow_cell hg (by omega) h.k1
  k2 := grow_cell hg (by omega) h.k2
  f0 := (World.frozen?_of_block (w := wX) (a := ⟨w.heap.size, 0, none⟩) (hg.block _ (cell_lt h.k0) (by simp; omega))).trans h.f0
  f1 := (World.frozen?_of_block (w := wX) (a := ⟨w.heap.size, 1, none⟩) (hg.block _ (cell_lt h.k1) (by simp; omega))).trans h.f1
  f2 := (World.frozen?_of_block (w := wX) (a := ⟨w.heap.size, 2, none⟩) (hg.block _ (cell_lt h.k2) (by simp; omega))).trans h.f2
  l0 := grow_cell hg (by omega) h.l0
  l1 := grow_cell hg (by omega) h.l1
  l2 := grow_cell hg (by omega) h.l2
  g0 := (World.frozen?_of_block (w := wX) (a := ⟨B, 0, none⟩) (hg.block _ (cell_lt h.l0) (by simp; omega))).trans h.g0
  g1 := (World.frozen?_of_block (w := wX) (a := ⟨B, 1, none⟩) (hg.block _ (cell_lt h.l1) (by simp; omega))).trans h.g1
  rd := hR
theorem SM.other {Bd B : Nat} {w : World} {g p : Nat} {A : Option Addr} {n c : Nat} {Z : Nat → Int} {b : Int} {s : Bool} {wX w2 : World} {row : Option Nat} (h : SM Bd B w g p A n c Z b s wX) (hg : wX.grownBy w2 row) (hw : g < w.heap.size) (hd : Bd ≤ w.heap.size) (hr : ∀ r, row = some r → w.heap.size < r ∧ r ≠ B) : SM Bd B w g p A n c Z b s w2 := by
  have n1 : ∀ b', b' ≤ w.heap.size ∨ b' = B → some b' ≠ row := fun b' hb e => by have := hr b' e.symm; omega
  have cc : ∀ b' o u, (b' ≤ w.heap.size ∨ b' = B) → wX.cell? ⟨b', o, none⟩ = some u → w2.cell? ⟨b', o, none⟩ = some u := fun b' o u hb hc => hg.cell (a := ⟨b', o, none⟩) hc (n1 b' hb)
  have ff : ∀ b' o, (b' ≤ w.heap.size ∨ b' = B) → b' < wX.heap.size → wX.frozen? ⟨b', o, none⟩ = false → w2.frozen? ⟨b', o, none⟩ = false := fun b' o hb hl hc => (World.frozen?_of_block (w := wX) (a := ⟨b', o, none⟩) (hg.block b' hl (n1 b' hb))).trans hc
  have lw : w.heap.size < wX.heap.size := cell_lt h.k0
  have lB : B < wX.heap.size := cell_lt h.l0
  refine ⟨⟨hg.os.trans h.grown.os, hg.tape.trans h.grown.tape, hg.output.trans h.grown.output, Nat.le_trans h.grown.size hg.size, fun i hi hr' => ?_⟩, cc _ _ _ (.inl (Nat.le_refl _)) h.k0, cc _ _ _ (.inl (Nat.le_refl _)) h.k1, cc _ _ _ (.inl (Nat.le_refl _)) h.k2, ff _ _ (.inl (Nat.le_refl _)) lw h.f0, ff _ _ (.inl (Nat.le_refl _)) lw h.f1, ff _ _ (.inl (Nat.le_refl _)) lw h.f2,
    cc _ _ _ (.inr rfl) h.l0, cc _ _ _ (.inr rfl) h.l1, cc _ _ _ (.inr rfl) h.l2, ff _ _ (.inr rfl) lB h.g0, ff _ _ (.inr rfl) lB h.g1, ?_⟩
  · exact (hg.block i (Nat.lt_of_lt_of_le hi h.grown.size) (n1 i (.inl (Nat.le_of_lt hi)))).trans (h.grown.block i hi hr')
  · obtain ⟨q, hq, hR⟩ := h.rd
    exact ⟨q, hq, hR.grow hg fun r e => by have := hr r e; omega⟩
/-- the local constraint is stored to -/
theorem SM.setC {Bd B : Nat} {w : World} {g p : Nat} {A A' : Option Addr} {n c n' c' : Nat} {Z Z' : Nat → Int} {b : Int} {s : Bool} {wX : World} (h : SM Bd B w g p A n c Z b s wX) (hB : w.heap.size < B) (hBB : g < w.heap.size) (hd : Bd ≤ B) : SM Bd B w g p A' n' c' Z' b s (wX.setCell ⟨B, 0, none⟩ (.slice A' n' c')) where
  grown := grow_setNew h.grown (by omega) 0 _
  k0 := by rw [World.cell?_setCell_other _ _ _ _ (by simp <;> omega)]; exact h.k0
  k1 := by rw [World.cell?_setCell_other _ _ _ _ (by simp <;> omega)]; exact h.k1
  k2 := by rw [World.cell?_setCell_other _ _ _ _ (by simp <;> omega)]; exact h.k2
  f0 := by simpa [go_sem] using h.f0
  f1 := by simpa [go_sem] using h.f1
  f2 := by simpa [go_sem] using h.f2
  l0 := World.cell?_setCell_same _ _ _ h.l0
  l1 := by rw [World.cell?_setCell_other _ _ _ _ (by simp <;> omega)]; exact h.l1
  l2 := by rw [World.cell?_setCell_other _ _ _ _ (by simp <;> omega)]; exact h.l2
  g0 := by simpa [go_sem] using h.g0
  g1 := by simpa [go_sem] using h.g1
  rd := let ⟨q, hq, hR⟩ := h.rd; ⟨q, hq, hR.set (by omega) hd 0 _⟩
theorem SM.setB {Bd B : Nat} {w : World} {g p : Nat} {A : Option Addr} {n c : Nat} {Z : Nat → Int} {b : Int} {s : Bool} {wX : World} (h : SM Bd B w g p A n c Z b s wX) (b' : Int) (hB : w.heap.size < B) (hBB : g < w.heap.size) (hd : Bd ≤ B) : SM Bd B w g p A n c Z b' s (wX.setCell ⟨B, 1, none⟩ (.int .i64 b')) where
  grown := grow_setNew h.grown (by omega) 1 _
  k0 := by rw [World.cell?_setCell_other _ _ _ _ (by simp <;> omega)]; exact h.k0
  k1 := by rw [World.cell?_setCell_other _ _ _ _ (by simp <;> omega)]; exact h.k1
  k2 := by rw [World.cell?_setCell_other _ _ _ _ (by simp <;> omega)]; exact h.k2
  f0 := by simpa [go_sem] using h.f0
  f1 := by simpa [go_sem] using h.f1
  f2 := by simpa [go_sem] using h.f2
  l0 := by rw [World.cell?_setCell_other _ _ _ _ (by simp <;> omega)]; exact h.l0
  l1 := World.cell?_setCell_same _ _ _ h.l1
  l2 := by rw [World.cell?_setCell_other _ _ _ _ (by simp <;> omega)]; exact h.l2
  g0 := by simpa [go_sem] using h.g0
  g1 := by simpa [go_sem] using h.g1
  rd := let ⟨q, hq, hR⟩ := h.rd; ⟨q, hq, hR.set (by omega) hd 1 _⟩
/-- a drawn constraint -/
def SomeP (Bd : Nat) (w : World) (g p : Nat) (e : Ending) (w' : World) : Prop :=
  ∃ A n c Z b s q, e = .returned (.agg #[.slice A n c, .int .i64 b, .bool s]) ∧ (1 ≤ n ∧ n ≤ 5) ∧ n ≤ c ∧ c ≤ 9223372036854775807 ∧ NewRow w.heap.size w' A n Z ∧ w.grownBy w' (some g) ∧ RD Bd w' g q ∧ q ≤ p + 20
end Go.Proofs.Ytplocljoanaoeaa

namespace Go.Proofs.Ytplocljoanaoeaa
set_option linter.unusedVariables false
set_option linter.unusedSimpArgs false
open Go.RowKit
def zsK : List Int := [0, 1, -1, 2, 5, -4, 7]
def zsL : List Int := [0, 1, -1, 1, -1, 2, -2, 3]
theorem OwnI.newRow {W w : World} {A : Option Addr} {n : Nat} {Z : Nat → Int} (h : OwnI W w A n Z) : NewRow W.heap.size w A n Z := by
  rcases h with h | ⟨g, ha, h1, h2, hc⟩
  · exact .inl h
  · exact .inr ⟨g, 0, ha, h1, h2, fun k hk => by rw [Nat.zero_add]; exact (hc k hk).1⟩
theorem row7 (w : World) (t : TypeId) : ∀ k, k < zsK.length → (w.alloc (.cells #[.int .i64 0, .int .i64 1, .int .i64 (-1), .int .i64 2, .int .i64 5, .int .i64 (-4), .int .i64 7] t)).cell? ⟨w.heap.size, k, none⟩ = some (.int .i64 (zsK.getD k 0)) := by
  intro k hk
  simp only [zsK, List.length_cons, List.length_nil] at hk
  have hk' : k = 0 ∨ k = 1 ∨ k = 2 ∨ k = 3 ∨ k = 4 ∨ k = 5 ∨ k = 6 := by omega
  rcases hk' with rfl | rfl | rfl | rfl | rfl | rfl | rfl <;> simp [go_sem, zsK]
theorem row8 (w : World) (t : TypeId) : ∀ k, k < zsL.length → (w.alloc (.cells #[.int .i64 0, .int .i64 1, .int .i64 (-1), .int .i64 1, .int .i64 (-1), .int .i64 2, .int .i64 (-2), .int .i64 3] t)).cell? ⟨w.heap.size, k, none⟩ = some (.int .i64 (zsL.getD k 0)) := by
  intro k hk
  simp only [zsL, List.length_cons, List.length_nil] at hk
  have hk' : k = 0 ∨ k = 1 ∨ k = 2 ∨ k = 3 ∨ k = 4 ∨ k = 5 ∨ k = 6 ∨ k = 7 := by omega
  rcases hk' with rfl | rfl | rfl | rfl | rfl | rfl | rfl | rfl <;> simp [go_sem, zsL]
set_option maxRecDepth 100000 in
set_option maxHeartbeats 4000000 in
theorem l2any_any (Bd : Nat) (w : World) (g p : Nat) (hR : RD Bd w g p) (hp : p ≤ 1000000) :
    Calls Try.prog 62 #[.pointer (some ⟨g, 0, none⟩)] w (AnyP Bd w g p) := by
  have hlt := hR.lt
  have hle := hR.le
  go_enter Try.func62, Try.ntmps62
  go_wp2_with fail
  refine (num_any Bd _ g p (w.heap.size + 1) 7 7 zsK ((hR.alloc _).alloc _) (by omega) rfl (by decide) (by decide) (by omega) ?_).mono ?_
  · have := row7 (w.alloc (.cells #[.slice none 0 0, .int .i64 0, .bool false] 28)) 3
    simpa only [World.size_alloc] using this
  rintro e w1 ⟨b, _, rfl, hg1, hR1⟩
  have hgA : w.grownBy w1 (some g) := grow_trans (grow_alloc (grow_alloc (grow_refl _ _) _) _) hg1
  have K1 := KcL.new3 w (.slice none 0 0) (.int .i64 0) (.bool false) 28 rfl
  have f0 : w1.frozen? ⟨w.heap.size, 0, none⟩ = false := (World.frozen?_of_block (w := (w.alloc (.cells #[.slice none 0 0, .int .i64 0, .bool false] 28)).alloc (.cells #[.int .i64 0, .int .i64 1, .int .i64 (-1), .int .i64 2, .int .i64 5, .int .i64 (-4), .int .i64 7] 3)) (a := ⟨w.heap.size, 0, none⟩) (hg1.block _ (by simp; omega) (by simp; omega))).trans (by simp [go_sem])
  have f1 : w1.frozen? ⟨w.heap.size, 1, none⟩ = false := (World.frozen?_of_block (w := (w.alloc (.cells #[.slice none 0 0, .int .i64 0, .bool false] 28)).alloc (.cells #[.int .i64 0, .int .i64 1, .int .i64 (-1), .int .i64 2, .int .i64 5, .int .i64 (-4), .int .i64 7] 3)) (a := ⟨w.heap.size, 1, none⟩) (hg1.block _ (by simp; omega) (by simp; omega))).trans (by simp [go_sem])
  have f2 : w1.frozen? ⟨w.heap.size, 2, none⟩ = false := (World.frozen?_of_block (w := (w.alloc (.cells #[.slice none 0 0, .int .i64 0, .bool false] 28)).alloc (.cells #[.int .i64 0, .int .i64 1, .int .i64 (-1), .int .i64 2, .int .i64 5, .int .i64 (-4), .int .i64 7] 3)) (a := ⟨w.heap.size, 2, none⟩) (hg1.block _ (by simp; omega) (by simp; omega))).trans (by simp [go_sem])
  replace K1 := (KcL.alloc K1 (.cells #[.int .i64 0, .int .i64 1, .int .i64 (-1), .int .i64 2, .int .i64 5, .int .i64 (-4), .int .i64 7] 3)).keep hg1 (fun e he r hr => by have := Option.some.inj hr; simp at he; rcases he with rfl | rfl | rfl <;> (simp only; omega))
  clear hg1
  go_wp2_with fail
  refine (pick_any Bd _ g (p + 1) 3 hR1 (by omega) (by omega)).mono ?_
  rintro e w2 ⟨x, _, _, rfl, hg2, hR2⟩
  replace hgA := grow_trans hgA hg2
  obtain ⟨k0, k1, k2, _⟩ := K1
  have b1 : w.heap.size < w1.heap.size := cell_lt k0
  have b2 : w.heap.size < w2.heap.size := Nat.lt_of_lt_of_le b1 hg2.size
  replace f0 := (World.frozen?_of_block (w := w1) (a := ⟨w.heap.size, 0, none⟩) (hg2.block _ b1 (by simp; omega))).trans f0
  replace f1 := (World.frozen?_of_block (w := w1) (a := ⟨w.heap.size, 1, none⟩) (hg2.block _ b1 (by simp; omega))).trans f1
  replace f2 := (World.frozen?_of_block (w := w1) (a := ⟨w.heap.size, 2, none⟩) (hg2.block _ b1 (by simp; omega))).trans f2
  replace k0 := grow_cell hg2 (by omega) k0
  replace k1 := grow_cell hg2 (by omega) k1
  replace k2 := grow_cell hg2 (by omega) k2
  clear hg2 hR1
  have hgB : g < w2.heap.size := hR2.lt
  have h0 : DBld Bd w2.heap.size w2 g b (x == 0) 0 (p + 2) (.slice none 0 0) (fun _ => 0) (w2.alloc (.cells #[.slice none 0 0, .int .i64 b, .bool (x == 0)] 28)) :=
    ⟨grow_alloc (grow_refl _ _) _, World.ownsRow_nil _ _ _ _, by simp [go_sem], by simp [go_sem], by simp [go_sem], by simp [go_sem], _, Nat.le_refl _, hR2.alloc _⟩
  obtain ⟨i0, hi, hz0, hz1, hz2⟩ := info_parts infoI
  go_wp2_with fail
  generalize (x == 0) = s at h0 ⊢
  go_loopw [4] (fun i wr => ∃ (k : Nat) (v : Value) (Z : Nat → Int), k ≤ 4 ∧ i = .int .i64 k ∧ DBld Bd w2.heap.size w2 g b s k (p + 2 + 2 * k) v Z wr) (fun i _ => 4 - (intOf i).toNat)
  case atStart => exact ⟨0, _, _, Nat.zero_le _, rfl, h0⟩
  case round =>
    clear h0
    obtain ⟨k, v, Z, hk, rfl, h⟩ := hrel
    by_cases hlt4 : k < 4
    · have ds : decide (k < 4) = true := by simpa using hlt4
      obtain ⟨q, hq, hRq⟩ := h.rd
      by_cases hlt2 : k < 2
      · have ds2 : decide (k < 2) = true := by simpa using hlt2
        go_wp2_with fail
        refine (num_any Bd _ g q wr.heap.size 8 8 zsL (hRq.alloc _) (by omega) rfl (by decide) (by decide) (by have := hRq.lt; omega) (row8 wr 3)).mono ?_
        rintro e w4 ⟨zz, _, rfl, hg4, hR4⟩
        have h4 := h.grow (p' := p + 2 + 2 * (k + 1)) (grow_trans (grow_alloc (grow_refl _ _) _) hg4) hgB ⟨_, by omega, hR4⟩
        have c0 := h4.c0
        have hx4 := cell_lt h4.c0; simp only at hx4
        go_wp2_with ((at_builtin; refine wpList_append_own _ rfl _ _ 24 rfl (w2.heap.size + 1) 3 i0 (.int .i64 0) 1 8 Try.underlying24 hi hz0 hz1 hz2 rfl (by decide) _ _ _ rfl (h4.own.alloc _) ⟨w4.heap.size, 0, none⟩ 1 1 [.int .i64 zz] rfl rfl (new_one _ _ _) (fun u hu => by simp at hu; subst hu; rfl) (by unfold maxLen; omega) (by omega) (by simp; omega) ?_; intro v' w3 hown hgrow _; obtain ⟨A', c', rfl⟩ := own_slice hown; obtain ⟨h5, m0, m1⟩ := DBld.step h4 (.int .i64 zz) hgB (by omega) (Nat.le_refl _) hown hgrow; have H5 := hid h5))
        exact ⟨⟨k + 1, _, _, by omega, by go_num, H5.out.le (by omega)⟩, by simp [intOf]; omega⟩
      · have ds2 : decide (k < 2) = false := by simpa using hlt2
        go_wp2_with fail
        refine (pick_any Bd _ g q 2 hRq (by omega) (by omega)).mono ?_
        rintro e w3 ⟨y, _, _, rfl, hg3, hR3⟩
        have h3 := h.grow (p' := p + 2 + 2 * k + 1) hg3 hgB ⟨_, by omega, hR3⟩
        by_cases hy : y = 0
        · have dy : (y == 0) = true := by simpa using hy
          go_wp2_with fail
          refine (num_any Bd _ g (q + 1) w3.heap.size 8 8 zsL (hR3.alloc _) (by omega) rfl (by decide) (by decide) (by have := hR3.lt; omega) (row8 w3 3)).mono ?_
          rintro e w4 ⟨zz, _, rfl, hg4, hR4⟩
          have h4 := h3.grow (p' := p + 2 + 2 * (k + 1)) (grow_trans (grow_alloc (grow_refl _ _) _) hg4) hgB ⟨_, by omega, hR4⟩
          have c0 := h4.c0
          have hx4 := cell_lt h4.c0; simp only at hx4
          go_wp2_with ((at_builtin; refine wpList_append_own _ rfl _ _ 24 rfl (w2.heap.size + 1) 3 i0 (.int .i64 0) 1 8 Try.underlying24 hi hz0 hz1 hz2 rfl (by decide) _ _ _ rfl (h4.own.alloc _) ⟨w4.heap.size, 0, none⟩ 1 1 [.int .i64 zz] rfl rfl (new_one _ _ _) (fun u hu => by simp at hu; subst hu; rfl) (by unfold maxLen; omega) (by omega) (by simp; omega) ?_; intro v' w3 hown hgrow _; obtain ⟨A', c', rfl⟩ := own_slice hown; obtain ⟨h5, m0, m1⟩ := DBld.step h4 (.int .i64 zz) hgB (by omega) (Nat.le_refl _) hown hgrow; have H5 := hid h5))
          exact ⟨⟨k + 1, _, _, by omega, by go_num, H5.out.le (by omega)⟩, by simp [intOf]; omega⟩
        · have dy : (y == 0) = false := by simpa using hy
          have h4 := h3
          have c0 := h4.c0
          have hx4 := cell_lt h4.c0; simp only at hx4
          go_wp2_with ((at_builtin; refine wpList_append_own _ rfl _ _ 24 rfl (w2.heap.size + 1) 3 i0 (.int .i64 0) 1 8 Try.underlying24 hi hz0 hz1 hz2 rfl (by decide) _ _ _ rfl (h4.own.alloc _) ⟨w3.heap.size, 0, none⟩ 1 1 [.int .i64 0] rfl rfl (new_one _ _ _) (fun u hu => by simp at hu; subst hu; rfl) (by unfold maxLen; omega) (by omega) (by simp; omega) ?_; intro v' w3 hown hgrow _; obtain ⟨A', c', rfl⟩ := own_slice hown; obtain ⟨h5, m0, m1⟩ := DBld.step h4 (.int .i64 0) hgB (by omega) (Nat.le_refl _) hown hgrow; have H5 := hid h5))
          exact ⟨⟨k + 1, _, _, by omega, by go_num, H5.out.le (by omega)⟩, by simp [intOf]; omega⟩
    · have hke : k = 4 := by omega
      subst hke
      have hgW := h.grown
      have hO := h.own
      obtain ⟨A', c', rfl⟩ := own_slice hO
      replace f0 := (World.frozen?_of_block (w := w2) (a := ⟨w.heap.size, 0, none⟩) (hgW.block _ b2 (by simp; omega))).trans f0
      replace f1 := (World.frozen?_of_block (w := w2) (a := ⟨w.heap.size, 1, none⟩) (hgW.block _ b2 (by simp; omega))).trans f1
      replace f2 := (World.frozen?_of_block (w := w2) (a := ⟨w.heap.size, 2, none⟩) (hgW.block _ b2 (by simp; omega))).trans f2
      replace k0 := grow_cell hgW (by omega) k0
      replace k1 := grow_cell hgW (by omega) k1
      replace k2 := grow_cell hgW (by omega) k2
      obtain ⟨q, hq, hRq⟩ := h.rd
      have r0 := h.c0
      have r1 := h.c1
      have r2 := h.c2
      have hgE := grow_trans hgA hgW
      have HO := hid hO; clear hO
      clear h hgA hgW
      go_wp2
      obtain ⟨t0, t1, t2⟩ := set3 k0 k1 k2 (.slice A' 4 c') (.int .i64 b) (.bool s)
      have hO2 := own_low (base' := w.heap.size + 1) (by omega) (ownsRow_setCell_below (ownsRow_setCell_below (ownsRow_setCell_below HO.out (a := ⟨w.heap.size, 0, none⟩) (by simp; omega) (.slice A' 4 c')) (a := ⟨w.heap.size, 1, none⟩) (by simp; omega) (.int .i64 b)) (a := ⟨w.heap.size, 2, none⟩) (by simp; omega) (.bool s))
      refine bodyPost_ret (v := .agg #[.slice A' 4 c', .int .i64 b, .bool s]) (by simp [results, Try.results62, go_sem, t0, t1, t2]) rfl ?_
      exact ⟨A', c', Z, b, s, q, rfl, hO2, grow_setNew (grow_setNew (grow_setNew hgE (Nat.le_refl _) 0 _) (Nat.le_refl _) 1 _) (Nat.le_refl _) 2 _, ((hRq.set (by omega) (by omega) 0 _).set (by omega) (by omega) 1 _).set (by omega) (by omega) 2 _, by omega⟩
end Go.Proofs.Ytplocljoanaoeaa

namespace Go.Proofs.Ytplocljoanaoeaa
set_option linter.unusedVariables false
set_option linter.unusedSimpArgs false
open Go.RowKit
def zsM : List Int := [1000000, 1000001, -9223372036854775808]
def zsN : List Int := [-1000000, 1000001, -9223372036854775808]
theorem row3M (w : World) (t : TypeId) : ∀ k, k < zsM.length → (w.alloc (.cells #[.int .i64 1000000, .int .i64 1000001, .int .i64 (-9223372036854775808)] t)).cell? ⟨w.heap.size, k, none⟩ = some (.int .i64 (zsM.getD k 0)) := by
  intro k hk
  simp only [zsM, List.length_cons, List.length_nil] at hk
  have hk' : k = 0 ∨ k = 1 ∨ k = 2 := by omega
  rcases hk' with rfl | rfl | rfl <;> simp [go_sem, zsM]
theorem row3N (w : World) (t : TypeId) : ∀ k, k < zsN.length → (w.alloc (.cells #[.int .i64 (-1000000), .int .i64 1000001, .int .i64 (-9223372036854775808)] t)).cell? ⟨w.heap.size, k, none⟩ = some (.int .i64 (zsN.getD k 0)) := by
  intro k hk
  simp only [zsN, List.length_cons, List.length_nil] at hk
  have hk' : k = 0 ∨ k = 1 ∨ k = 2 := by omega
  rcases hk' with rfl | rfl | rfl <;> simp [go_sem, zsN]
theorem run_load1 {P : Program} {o : Oper} {ty e : TypeId} {x : Operand} (ho : o.op = .load ty x) {a : Act} {b k : Nat} (hx : a.eval x = .pointer (some ⟨b, k, none⟩)) (hu : P.underlying ty = some (.slice e)) {v : Value} {w : World} (hc : w.cell? ⟨b, k, none⟩ = some v) : (execOp a.eval o).run P w = .ok (.value v) w := by
  have hagg : (isAgg ty).run P w = .ok false w := by
    unfold isAgg
    rw [Sem.run_bind, run_underlying hu w]
    rfl
  have hl : (loadVar ty ⟨b, k, none⟩).run P w = .ok v w := by simp [loadVar, Sem.run_bind, hagg, go_sem, hc]
  unfold execOp
  simp only [ho, hx, Instr.loadAt, Instr.sureAddr, Sem.run_bind, Sem.run_pure, Result.andThen_ok, hl]
theorem SM.reZ {Bd B : Nat} {w : World} {g p : Nat} {A : Option Addr} {n c : Nat} {Z : Nat → Int} (Z' : Nat → Int) {b : Int} {s : Bool} {wX : World} (h : SM Bd B w g p A n c Z b s wX) : SM Bd B w g p A n c Z' b s wX :=
  ⟨h.grown, h.k0, h.k1, h.k2, h.f0, h.f1, h.f2, h.l0, h.l1, h.l2, h.g0, h.g1, h.rd⟩
theorem some_fin {Bd B : Nat} {w : World} {g p p' : Nat} {A : Option Addr} {n c : Nat} {Z : Nat → Int} {b : Int} {s : Bool} {wX : World} (h : SM Bd B w g p' A n c Z b s wX) (hr : NewRow (w.heap.size + 1) wX A n Z) (hn : 1 ≤ n ∧ n ≤ 5) (hc : n ≤ c) (hc2 : c ≤ 9223372036854775807) (hp : p' ≤ p + 20) (hg : g < w.heap.size) (hle : Bd ≤ g) :
    SomeP Bd w g p (.returned (.agg #[.slice A n c, .int .i64 b, .bool s])) (((wX.setCell ⟨w.heap.size, 0, none⟩ (.slice A n c)).setCell ⟨w.heap.size, 1, none⟩ (.int .i64 b)).setCell ⟨w.heap.size, 2, none⟩ (.bool s)) := by
  obtain ⟨q, hq, hR⟩ := h.rd
  have kp : ∀ (W : World) (o : Nat) (v : Value), NewRow (w.heap.size + 1) W A n Z → NewRow (w.heap.size + 1) (W.setCell ⟨w.heap.size, o, none⟩ v) A n Z := fun W o v x => x.grow (grow_set W w.heap.size o v) (fun r e => by cases e; omega)
  exact ⟨A, n, c, Z, b, s, q, rfl, hn, hc, hc2, (kp _ 2 _ (kp _ 1 _ (kp _ 0 _ hr))).low (by omega), grow_setNew (grow_setNew (grow_setNew h.grown (Nat.le_refl _) 0 _) (Nat.le_refl _) 1 _) (Nat.le_refl _) 2 _, ((hR.set (by omega) (by omega) 0 _).set (by omega) (by omega) 1 _).set (by omega) (by omega) 2 _, by omega⟩
set_option maxRecDepth 100000 in
set_option maxHeartbeats 8000000 in
theorem l2some_any (Bd : Nat) (w : World) (g p : Nat) (hR : RD Bd w g p) (hp : p ≤ 100000) :
    Calls Try.prog 32 #[.pointer (some ⟨g, 0, none⟩)] w (SomeP Bd w g p) := by
  have hlt := hR.lt
  have hle := hR.le
  go_enter Try.func32, Try.ntmps32
  go_wp2_with fail
  refine (l2any_any Bd _ g p (hR.alloc _) (by omega)).mono ?_
  rintro e w1 ⟨A, c, Z, b, s, q, rfl, ho, hg1, hR1, hq⟩
  rw [World.size_alloc] at ho
  obtain ⟨A2, c2, e2, hc1, hc2, hO⟩ := own_new (W := w.alloc (.cells #[.slice none 0 0, .int .i64 0, .bool false] 28)) (by omega) (by simp) ho
  obtain ⟨rfl, rfl⟩ : A = A2 ∧ c = c2 := by simpa using e2
  clear e2
  rcases hO with h4 | ⟨hh, rfl, hh1, hh2, hcell⟩
  · omega
  rw [World.size_alloc] at hh1
  have K1 := (KcL.new3 w (.slice none 0 0) (.int .i64 0) (.bool false) 28 rfl).keep hg1 (fun e he r hr => by have := Option.some.inj hr; simp at he; rcases he with rfl | rfl | rfl <;> (simp only; omega))
  have ff : ∀ o, w1.frozen? ⟨w.heap.size, o, none⟩ = false := fun o => (World.frozen?_of_block (w := w.alloc (.cells #[.slice none 0 0, .int .i64 0, .bool false] 28)) (a := ⟨w.heap.size, o, none⟩) (hg1.block _ (by simp) (by simp; omega))).trans (by simp [go_sem])
  have b1 : w.heap.size < w1.heap.size := cell_lt K1.1
  have hgA : w.grownBy w1 (some g) := grow_trans (grow_alloc (grow_refl _ _) _) hg1
  have h0 : SM Bd w1.heap.size w g q (some ⟨hh, 0, none⟩) 4 c Z b s (w1.alloc (.cells #[.slice (some ⟨hh, 0, none⟩) 4 c, .int .i64 b, .bool s] 28)) :=
    ⟨grow_alloc hgA _, carryA _ K1.1, carryA _ K1.2.1, carryA _ K1.2.2.1, carryAf _ (ff 0) b1, carryAf _ (ff 1) b1, carryAf _ (ff 2) b1, by simp [go_sem], by simp [go_sem], by simp [go_sem], by simp [go_sem], by simp [go_sem], q, Nat.le_refl _, hR1.alloc _⟩
  have ho1 := ho.alloc (.cells #[.slice (some ⟨hh, 0, none⟩) 4 c, .int .i64 b, .bool s] 28)
  have hgB : g < w1.heap.size := hR1.lt
  clear K1 ff hgA ho
  go_wp2_with fail
  refine (pick_any Bd _ g q 80 (hR1.alloc _) (by omega) (by omega)).mono ?_
  rintro e w2 ⟨x, _, _, rfl, hg2, hR2⟩
  have h := h0.grow (p' := q + 1) hg2 hlt hgB ⟨_, Nat.le_refl _, hR2⟩
  have ho2 := ho1.kept hg2 (.inr (by simp [Value.ownBlock]; omega))
  have hgh : hh ≠ g := by omega
  have hcell2 : ∀ k, k < 4 → w2.cell? ⟨hh, k, none⟩ = some (.int .i64 (Z k)) ∧ w2.frozen? ⟨hh, k, none⟩ = false := fun k hk =>
    ⟨grow_cell hg2 hgh (carryA _ (hcell k hk).1), (World.frozen?_of_block (w := w1.alloc (.cells #[.slice (some ⟨hh, 0, none⟩) 4 c, .int .i64 b, .bool s] 28)) (a := ⟨hh, k, none⟩) (hg2.block _ (by simp; omega) (by simp; omega))).trans (carryAf _ (hcell k hk).2 hh2)⟩
  have hl2 : w1.heap.size < w2.heap.size := cell_lt h.l0
  have hh3 : hh < w2.heap.size := by omega
  clear h0 ho1 hg1 hg2 hR1 hcell
  generalize w1.heap.size = B at *
  obtain ⟨i0, hi, hz0, hz1, hz2⟩ := info_parts infoI
  by_cases e0 : x = 0
  · subst e0
    have k0 := h.k0
    have k1 := h.k1
    have k2 := h.k2
    have f0 := h.f0
    have f1 := h.f1
    have f2 := h.f2
    have l0 := h.l0
    have l1 := h.l1
    have l2 := h.l2
    have g0 := h.g0
    have g1 := h.g1
    go_upto_region 13 with fail
    have h' := h.setC (A' := some ⟨hh, 1, none⟩) (n' := 3) (c' := c - 1) (Z' := fun k => Z (k + 1)) (by omega) hlt (by omega)
    have row' : NewRow (w.heap.size + 1) (w2.setCell ⟨B, 0, none⟩ (.slice (some ⟨hh, 1, none⟩) 3 (c - 1))) (some ⟨hh, 1, none⟩) 3 (fun k => Z (k + 1)) := .inr ⟨hh, 1, rfl, hh1, by simpa using hh3, fun k hk => by rw [World.cell?_setCell_other _ _ _ _ (by simp <;> omega), Nat.add_comm]; exact (hcell2 (k + 1) (by omega)).1⟩
    clear k0 k1 k2 f0 f1 f2 l0 l1 l2 g0 g1
    generalize w2.setCell ⟨B, 0, none⟩ (.slice (some ⟨hh, 1, none⟩) 3 (c - 1)) = wX at h' row' ⊢
    have k0 := h'.k0
    have k1 := h'.k1
    have k2 := h'.k2
    have f0 := h'.f0
    have f1 := h'.f1
    have f2 := h'.f2
    have l0 := h'.l0
    have l1 := h'.l1
    have l2 := h'.l2
    have g0 := h'.g0
    have g1 := h'.g1
    go_wp2
    obtain ⟨t0, t1, t2⟩ := set3 k0 k1 k2 (.slice (some ⟨hh, 1, none⟩) 3 (c - 1)) (.int .i64 b) (.bool s)
    exact bodyPost_ret (v := .agg #[.slice (some ⟨hh, 1, none⟩) 3 (c - 1), .int .i64 b, .bool s]) (by simp [results, Try.results32, go_sem, t0, t1, t2]) rfl (some_fin h' row' (by omega) (by omega) (by omega) (by omega) hlt hle)
  have d0 : (x == 0) = false := by simpa using e0
  clear e0
  by_cases e1 : x = 1
  · subst e1
    have k0 := h.k0
    have k1 := h.k1
    have k2 := h.k2
    have f0 := h.f0
    have f1 := h.f1
    have f2 := h.f2
    have l0 := h.l0
    have l1 := h.l1
    have l2 := h.l2
    have g0 := h.g0
    have g1 := h.g1
    have hx4 : w.heap.size + 1 < w2.heap.size := by omega
    go_upto_region 13 with (at_builtin; refine wpList_append_own _ rfl _ _ 24 rfl (w.heap.size + 1 + 1) 3 i0 (.int .i64 0) 1 8 Try.underlying24 hi hz0 hz1 hz2 rfl (by decide) _ _ _ rfl (ho2.alloc _) ⟨w2.heap.size, 0, none⟩ 1 1 [.int .i64 0] rfl rfl (new_one _ _ _) (fun u hu => by simp at hu; subst hu; rfl) (by unfold maxLen; omega) (by omega) (by simp; omega) ?_; intro v' w3 hown hgrow _; obtain ⟨A', c', rfl⟩ := own_slice hown; have h2 := (h.other (grow_alloc (grow_refl w2 none) (.cells #[.int .i64 0] 3)) hlt (by omega) (fun r e => by cases e)).other hgrow hlt (by omega) (fun r e => by obtain rfl := Option.some.inj (show some hh = some r from e); omega); have m0 := h2.l0; have m1 := h2.g0)
    clear k0 k1 k2 f0 f1 f2 l0 l1 l2 g0 g1
    rw [← vals_put 4 Z 0] at hown
    obtain ⟨A3, c3, e3, hd1, hd2, hO⟩ := own_new (W := w.alloc (.cells #[.slice none 0 0, .int .i64 0, .bool false] 28)) (by omega) (by simp) hown
    obtain ⟨rfl, rfl⟩ : A' = A3 ∧ c' = c3 := by simpa using e3
    clear e3
    rcases hO with h4 | ⟨h5, rfl, h51, h52, hcell5⟩
    · omega
    rw [World.size_alloc] at h51
    have hne5 : h5 ≠ B := fun e => by
      have c5 := (hcell5 0 (by omega)).1
      rw [e, m0] at c5
      cases c5
    have h' := h2.setC (A' := some ⟨h5, 0, none⟩) (n' := 5) (c' := c') (Z' := fun k => if k = 4 then 0 else Z k) (by omega) hlt (by omega)
    have row' : NewRow (w.heap.size + 1) (w3.setCell ⟨B, 0, none⟩ (.slice (some ⟨h5, 0, none⟩) 5 c')) (some ⟨h5, 0, none⟩) 5 (fun k => if k = 4 then 0 else Z k) := .inr ⟨h5, 0, rfl, h51, by simpa using h52, fun k hk => by rw [World.cell?_setCell_other _ _ _ _ (by simp <;> omega), Nat.zero_add]; exact (hcell5 k hk).1⟩
    clear m0 m1 hown hgrow h2 h hcell5
    generalize w3.setCell ⟨B, 0, none⟩ (.slice (some ⟨h5, 0, none⟩) 5 c') = wX at h' row' ⊢
    have k0 := h'.k0
    have k1 := h'.k1
    have k2 := h'.k2
    have f0 := h'.f0
    have f1 := h'.f1
    have f2 := h'.f2
    have l0 := h'.l0
    have l1 := h'.l1
    have l2 := h'.l2
    have g0 := h'.g0
    have g1 := h'.g1
    go_wp2
    obtain ⟨t0, t1, t2⟩ := set3 k0 k1 k2 (.slice (some ⟨h5, 0, none⟩) 5 c') (.int .i64 b) (.bool s)
    exact bodyPost_ret (v := .agg #[.slice (some ⟨h5, 0, none⟩) 5 c', .int .i64 b, .bool s]) (by simp [results, Try.results32, go_sem, t0, t1, t2]) rfl (some_fin h' row' (by omega) (by omega) (by omega) (by omega) hlt hle)
  have d1 : (x == 1) = false := by simpa using e1
  clear e1
  by_cases e2 : x = 2
  · subst e2
    have l0 := h.l0
    go_upto_region 8 with fail
    refine region_planC (fun w' => w2.grownBy w' (some g)) (.takes [0, 1, 2, 4] (.fork 3 5 (.make 5 (.make 6 .fin)) (.make 3 (.make 6 .fin)))) 7 rfl (by kernel_rfl) (grow_of_below (Below.refl w2.heap.size w2).drew _) ?_
    have hR2d : RD Bd w2.drew g (q + 1) := hR2.below (Below.refl w2.heap.size w2).drew
    have hgd : w2.grownBy w2.drew (some g) := grow_of_below (Below.refl w2.heap.size w2).drew _
    refine plan_takes ?_; simp only [pickOps, List.getElem?_cons_zero, List.getElem?_cons_succ]
    refine quiet_doC rfl (.pointer (some ⟨B, 0, none⟩)) (fun _ _ => by kernel_rfl) ?_
    refine quiet_doC rfl (.slice (some ⟨hh, 0, none⟩) 4 c) (fun w' hw' => by exact run_load1 rfl (by kernel_rfl) Try.underlying24 (grow_cell hw' (by omega) l0)) ?_
    refine quiet_doC rfl (.pointer (some ⟨g, 0, none⟩)) (fun _ _ => by kernel_rfl) ?_
    refine quiet_doC rfl (.pointer (some ⟨g, 0, none⟩)) (fun _ _ => by kernel_rfl) ?_
    refine wpQuiet_nil ?_
    clear l0
    refine plan_fork ?_ ?_
    · skip
      refine planC_call rfl rfl 56 #[.pointer (some ⟨g, 0, none⟩), .int .i64 4] (by kernel_rfl) ?_
      refine (pick_any Bd _ g (q + 1) 4 hR2d (by omega) (by omega)).mono ?_
      rintro e w3 ⟨y, y0, y1, rfl, hg3, hR3⟩
      obtain ⟨j, rfl⟩ := Int.eq_ofNat_of_zero_le y0
      have hj : j < 4 := by omega
      have hg23 := grow_trans hgd hg3
      refine ⟨_, rfl, hg23, ?_⟩
      refine planC_val rfl rfl (.slice (some ⟨w3.heap.size, 0, none⟩) 3 3) (w'' := w3.alloc (.cells #[.int .i64 1000000, .int .i64 1000001, .int .i64 (-9223372036854775808)] 3)) (by kernel_rfl) (grow_alloc hg23 _) ?_
      refine planC_call rfl rfl 49 #[.pointer (some ⟨g, 0, none⟩), .slice (some ⟨w3.heap.size, 0, none⟩) 3 3] (by kernel_rfl) ?_
      refine (num_any Bd _ g (q + 2) w3.heap.size 3 3 zsM (hR3.alloc _) (by omega) rfl (by decide) (by decide) (by have := hR3.lt; omega) (row3M w3 3)).mono ?_
      rintro e w4 ⟨z, _, rfl, hg4, hR4⟩
      have hg24 := grow_trans (grow_alloc hg23 _) hg4
      refine ⟨_, rfl, hg24, ?_⟩
      clear hg3 hg4 hg23 hgd
      have h4 := h.grow (p' := q + 3) hg24 hlt hgB ⟨_, by omega, hR4⟩
      have cj := grow_cell hg24 hgh (hcell2 j hj).1
      have fj : w4.frozen? ⟨hh, j, none⟩ = false := (World.frozen?_of_block (w := w2) (a := ⟨hh, j, none⟩) (hg24.block _ hh3 (by simp; omega))).trans (hcell2 j hj).2
      have hl24 := hg24.size
      have row4 := fun k hk => grow_cell hg24 hgh (hcell2 k hk).1
      clear hg24
      refine plan_fin ?_
      simp only [List.drop_succ_cons, List.drop_zero]
      go_upto_region 13 with fail
      have h' := (h4.reZ (fun k => if k = j then z else Z k)).other (grow_set w4 hh j (.int .i64 z)) hlt (by omega) (fun r e => by obtain rfl := Option.some.inj e; omega)
      have row' : NewRow (w.heap.size + 1) (w4.setCell ⟨hh, j, none⟩ (.int .i64 z)) (some ⟨hh, 0, none⟩) 4 (fun k => if k = j then z else Z k) := .inr ⟨hh, 0, rfl, hh1, by simp; omega, fun k hk => by
        rw [Nat.zero_add]
        by_cases hkj : k = j
        · subst hkj; simp only [if_true]; exact World.cell?_setCell_same _ _ _ cj
        · simp only [if_neg hkj]; rw [World.cell?_setCell_other _ _ _ _ (by simp <;> omega)]; exact row4 k hk⟩
      clear cj fj row4 h4 h
      generalize w4.setCell ⟨hh, j, none⟩ (.int .i64 z) = wX at h' row' ⊢
      have k0 := h'.k0
      have k1 := h'.k1
      have k2 := h'.k2
      have f0 := h'.f0
      have f1 := h'.f1
      have f2 := h'.f2
      have l0 := h'.l0
      have l1 := h'.l1
      have l2 := h'.l2
      have g0 := h'.g0
      have g1 := h'.g1
      go_wp2
      obtain ⟨t0, t1, t2⟩ := set3 k0 k1 k2 (.slice (some ⟨hh, 0, none⟩) 4 c) (.int .i64 b) (.bool s)
      exact bodyPost_ret (v := .agg #[.slice (some ⟨hh, 0, none⟩) 4 c, .int .i64 b, .bool s]) (by simp [results, Try.results32, go_sem, t0, t1, t2]) rfl (some_fin h' row' (by omega) (by omega) (by omega) (by omega) hlt hle)
    · skip
      refine planC_val rfl rfl (.slice (some ⟨w2.drew.heap.size, 0, none⟩) 3 3) (w'' := w2.drew.alloc (.cells #[.int .i64 1000000, .int .i64 1000001, .int .i64 (-9223372036854775808)] 3)) (by kernel_rfl) (grow_alloc hgd _) ?_
      refine planC_call rfl rfl 56 #[.pointer (some ⟨g, 0, none⟩), .int .i64 4] (by kernel_rfl) ?_
      refine (pick_any Bd _ g (q + 1) 4 (hR2d.alloc _) (by omega) (by omega)).mono ?_
      rintro e w3 ⟨y, y0, y1, rfl, hg3, hR3⟩
      obtain ⟨j, rfl⟩ := Int.eq_ofNat_of_zero_le y0
      have hj : j < 4 := by omega
      have hg23 := grow_trans (grow_alloc hgd (.cells #[.int .i64 1000000, .int .i64 1000001, .int .i64 (-9223372036854775808)] 3)) hg3
      have hgl := hR2d.lt
      refine ⟨_, rfl, hg23, ?_⟩
      refine planC_call rfl rfl 49 #[.pointer (some ⟨g, 0, none⟩), .slice (some ⟨w2.drew.heap.size, 0, none⟩) 3 3] (by kernel_rfl) ?_
      refine (num_any Bd _ g (q + 2) w2.drew.heap.size 3 3 zsM hR3 (by omega) rfl (by decide) (by decide) (by omega) (fun k hk => grow_cell hg3 (by omega) (row3M w2.drew 3 k hk))).mono ?_
      rintro e w4 ⟨z, _, rfl, hg4, hR4⟩
      have hg24 := grow_trans hg23 hg4
      refine ⟨_, rfl, hg24, ?_⟩
      clear hg3 hg4 hg23 hgd
      have h4 := h.grow (p' := q + 3) hg24 hlt hgB ⟨_, by omega, hR4⟩
      have cj := grow_cell hg24 hgh (hcell2 j hj).1
      have fj : w4.frozen? ⟨hh, j, none⟩ = false := (World.frozen?_of_block (w := w2) (a := ⟨hh, j, none⟩) (hg24.block _ hh3 (by simp; omega))).trans (hcell2 j hj).2
      have hl24 := hg24.size
      have row4 := fun k hk => grow_cell hg24 hgh (hcell2 k hk).1
      clear hg24
      refine plan_fin ?_
      simp only [List.drop_succ_cons, List.drop_zero]
      go_upto_region 13 with fail
      have h' := (h4.reZ (fun k => if k = j then z else Z k)).other (grow_set w4 hh j (.int .i64 z)) hlt (by omega) (fun r e => by obtain rfl := Option.some.inj e; omega)
      have row' : NewRow (w.heap.size + 1) (w4.setCell ⟨hh, j, none⟩ (.int .i64 z)) (some ⟨hh, 0, none⟩) 4 (fun k => if k = j then z else Z k) := .inr ⟨hh, 0, rfl, hh1, by simp; omega, fun k hk => by
        rw [Nat.zero_add]
        by_cases hkj : k = j
        · subst hkj; simp only [if_true]; exact World.cell?_setCell_same _ _ _ cj
        · simp only [if_neg hkj]; rw [World.cell?_setCell_other _ _ _ _ (by simp <;> omega)]; exact row4 k hk⟩
      clear cj fj row4 h4 h
      generalize w4.setCell ⟨hh, j, none⟩ (.int .i64 z) = wX at h' row' ⊢
      have k0 := h'.k0
      have k1 := h'.k1
      have k2 := h'.k2
      have f0 := h'.f0
      have f1 := h'.f1
      have f2 := h'.f2
      have l0 := h'.l0
      have l1 := h'.l1
      have l2 := h'.l2
      have g0 := h'.g0
      have g1 := h'.g1
      go_wp2
      obtain ⟨t0, t1, t2⟩ := set3 k0 k1 k2 (.slice (some ⟨hh, 0, none⟩) 4 c) (.int .i64 b) (.bool s)
      exact bodyPost_ret (v := .agg #[.slice (some ⟨hh, 0, none⟩) 4 c, .int .i64 b, .bool s]) (by simp [results, Try.results32, go_sem, t0, t1, t2]) rfl (some_fin h' row' (by omega) (by omega) (by omega) (by omega) hlt hle)
  have d2 : (x == 2) = false := by simpa using e2
  clear e2
  by_cases e3 : x = 3
  · subst e3
    go_wp2_with fail
    refine (num_any Bd _ g (q + 1) w2.heap.size 3 3 zsN (hR2.alloc _) (by omega) rfl (by decide) (by decide) (by have := hR2.lt; omega) (row3N w2 3)).mono ?_
    rintro e w3 ⟨zz, _, rfl, hg3, hR3⟩
    have hg23 : w2.grownBy w3 (some g) := grow_trans (grow_alloc (grow_refl _ _) _) hg3
    have h2 := h.grow (p' := q + 2) hg23 hlt hgB ⟨_, Nat.le_refl _, hR3⟩
    have k0 := h2.k0
    have k1 := h2.k1
    have k2 := h2.k2
    have f0 := h2.f0
    have f1 := h2.f1
    have f2 := h2.f2
    have l0 := h2.l0
    have l1 := h2.l1
    have l2 := h2.l2
    have g0 := h2.g0
    have g1 := h2.g1
    have hl23 := hg23.size
    have row3 := fun k hk => grow_cell hg23 hgh (hcell2 k hk).1
    clear hg3 hg23
    go_upto_region 13 with fail
    have h' := h2.setB zz (by omega) hlt (by omega)
    have row' : NewRow (w.heap.size + 1) (w3.setCell ⟨B, 1, none⟩ (.int .i64 zz)) (some ⟨hh, 0, none⟩) 4 Z := .inr ⟨hh, 0, rfl, hh1, by simp; omega, fun k hk => by rw [World.cell?_setCell_other _ _ _ _ (by simp <;> omega), Nat.zero_add]; exact row3 k hk⟩
    clear k0 k1 k2 f0 f1 f2 l0 l1 l2 g0 g1 row3 h2 h
    generalize w3.setCell ⟨B, 1, none⟩ (.int .i64 zz) = wX at h' row' ⊢
    have k0 := h'.k0
    have k1 := h'.k1
    have k2 := h'.k2
    have f0 := h'.f0
    have f1 := h'.f1
    have f2 := h'.f2
    have l0 := h'.l0
    have l1 := h'.l1
    have l2 := h'.l2
    have g0 := h'.g0
    have g1 := h'.g1
    go_wp2
    obtain ⟨t0, t1, t2⟩ := set3 k0 k1 k2 (.slice (some ⟨hh, 0, none⟩) 4 c) (.int .i64 zz) (.bool s)
    exact bodyPost_ret (v := .agg #[.slice (some ⟨hh, 0, none⟩) 4 c, .int .i64 zz, .bool s]) (by simp [results, Try.results32, go_sem, t0, t1, t2]) rfl (some_fin h' row' (by omega) (by omega) (by omega) (by omega) hlt hle)
  have d3 : (x == 3) = false := by simpa using e3
  clear e3
  by_cases e4 : x = 4
  · subst e4
    have k0 := h.k0
    have k1 := h.k1
    have k2 := h.k2
    have f0 := h.f0
    have f1 := h.f1
    have f2 := h.f2
    have l0 := h.l0
    have l1 := h.l1
    have l2 := h.l2
    have g0 := h.g0
    have g1 := h.g1
    go_upto_region 13 with fail
    have h' := (h.setC (A' := some ⟨w2.heap.size, 0, none⟩) (n' := 4) (c' := 4) (Z' := fun _ => 0) (by omega) hlt (by omega)).other (grow_alloc (grow_refl _ none) (.cells #[.int .i64 0, .int .i64 0, .int .i64 0, .int .i64 0] 3)) hlt (by omega) (fun r e => by cases e)
    have row' : NewRow (w.heap.size + 1) ((w2.setCell ⟨B, 0, none⟩ (.slice (some ⟨w2.heap.size, 0, none⟩) 4 4)).alloc (.cells #[.int .i64 0, .int .i64 0, .int .i64 0, .int .i64 0] 3)) (some ⟨w2.heap.size, 0, none⟩) 4 (fun _ => 0) := .inr ⟨w2.heap.size, 0, rfl, by omega, by simp, fun k hk => by rw [Nat.zero_add]; rcases lt4 hk with rfl | rfl | rfl | rfl <;> simp [go_sem]⟩
    clear k0 k1 k2 f0 f1 f2 l0 l1 l2 g0 g1 h
    generalize (w2.setCell ⟨B, 0, none⟩ (.slice (some ⟨w2.heap.size, 0, none⟩) 4 4)).alloc (.cells #[.int .i64 0, .int .i64 0, .int .i64 0, .int .i64 0] 3) = wX at h' row' ⊢
    have k0 := h'.k0
    have k1 := h'.k1
    have k2 := h'.k2
    have f0 := h'.f0
    have f1 := h'.f1
    have f2 := h'.f2
    have l0 := h'.l0
    have l1 := h'.l1
    have l2 := h'.l2
    have g0 := h'.g0
    have g1 := h'.g1
    go_wp2
    obtain ⟨t0, t1, t2⟩ := set3 k0 k1 k2 (.slice (some ⟨w2.heap.size, 0, none⟩) 4 4) (.int .i64 b) (.bool s)
    exact bodyPost_ret (v := .agg #[.slice (some ⟨w2.heap.size, 0, none⟩) 4 4, .int .i64 b, .bool s]) (by simp [results, Try.results32, go_sem, t0, t1, t2]) rfl (some_fin h' row' (by omega) (by omega) (by omega) (by omega) hlt hle)
  have d4 : (x == 4) = false := by simpa using e4
  clear e4
  have h' := h
  have row' : NewRow (w.heap.size + 1) w2 (some ⟨hh, 0, none⟩) 4 Z := .inr ⟨hh, 0, rfl, hh1, hh3, fun k hk => by rw [Nat.zero_add]; exact (hcell2 k hk).1⟩
  have k0 := h'.k0
  have k1 := h'.k1
  have k2 := h'.k2
  have f0 := h'.f0
  have f1 := h'.f1
  have f2 := h'.f2
  have l0 := h'.l0
  have l1 := h'.l1
  have l2 := h'.l2
  have g0 := h'.g0
  have g1 := h'.g1
  go_wp2
  obtain ⟨t0, t1, t2⟩ := set3 k0 k1 k2 (.slice (some ⟨hh, 0, none⟩) 4 c) (.int .i64 b) (.bool s)
  exact bodyPost_ret (v := .agg #[.slice (some ⟨hh, 0, none⟩) 4 c, .int .i64 b, .bool s]) (by simp [results, Try.results32, go_sem, t0, t1, t2]) rfl (some_fin h' row' (by omega) (by omega) (by omega) (by omega) hlt hle)
end Go.Proofs.Ytplocljoanaoeaa

namespace Go.Proofs.Ytplocljoanaoeaa
set_option linter.unusedVariables false
set_option linter.unusedSimpArgs false
open Go.RowKit
def zsP : List Int := [1, 2, 0, 3, 1, -1, 1000000, 9223372036854775807]
def zsQ : List Int := [1, 2, 0, 3, 1, -1, 1000000]
theorem row8P (w : World) (t : TypeId) : ∀ k, k < zsP.length → (w.alloc (.cells #[.int .i64 1, .int .i64 2, .int .i64 0, .int .i64 3, .int .i64 1, .int .i64 (-1), .int .i64 1000000, .int .i64 9223372036854775807] t)).cell? ⟨w.heap.size, k, none⟩ = some (.int .i64 (zsP.getD k 0)) := by
  intro k hk
  simp only [zsP, List.length_cons, List.length_nil] at hk
  have hk' : k = 0 ∨ k = 1 ∨ k = 2 ∨ k = 3 ∨ k = 4 ∨ k = 5 ∨ k = 6 ∨ k = 7 := by omega
  rcases hk' with rfl | rfl | rfl | rfl | rfl | rfl | rfl | rfl <;> simp [go_sem, zsP]
theorem row7Q (w : World) (t : TypeId) : ∀ k, k < zsQ.length → (w.alloc (.cells #[.int .i64 1, .int .i64 2, .int .i64 0, .int .i64 3, .int .i64 1, .int .i64 (-1), .int .i64 1000000] t)).cell? ⟨w.heap.size, k, none⟩ = some (.int .i64 (zsQ.getD k 0)) := by
  intro k hk
  simp only [zsQ, List.length_cons, List.length_nil] at hk
  have hk' : k = 0 ∨ k = 1 ∨ k = 2 ∨ k = 3 ∨ k = 4 ∨ k = 5 ∨ k = 6 := by omega
  rcases hk' with rfl | rfl | rfl | rfl | rfl | rfl | rfl <;> simp [go_sem, zsQ]
theorem run_load3 {P : Program} {o : Oper} {ty : TypeId} {x : Operand} (ho : o.op = .load ty x) {a : Act} {b : Nat} (hx : a.eval x = .pointer (some ⟨b, 0, none⟩)) {d : TypeDesc} (hu : P.underlying ty = some d) (hd : d.isRow = true) (hi : (P.info? ty).map (·.size) = some 3) {x0 x1 x2 : Value} {w : World}
    (h0 : w.cell? ⟨b, 0, none⟩ = some x0) (h1 : w.cell? ⟨b, 1, none⟩ = some x1) (h2 : w.cell? ⟨b, 2, none⟩ = some x2) : (execOp a.eval o).run P w = .ok (.value (.agg #[x0, x1, x2])) w := by
  have hc : w.rangeAt b 0 [x0, x1, x2] := fun j v hv => by
    match j, hv with
    | 0, hv => simp at hv; subst hv; simpa using h0
    | 1, hv => simp at hv; subst hv; simpa using h1
    | 2, hv => simp at hv; subst hv; simpa using h2
    | j + 3, hv => simp at hv
  have hl := run_loadVar_mid (P := P) w b 0 ty [x0, x1, x2] d hc hu hd hi
  unfold execOp
  simp only [ho, hx, Instr.loadAt, Instr.sureAddr, Sem.run_bind, Sem.run_pure, Result.andThen_ok, hl]
theorem planC_store {P : Program} {ops : Array Oper} {l : List Oper} {K : Act → World → Prop} {a : Act} {w : World} {m : Nat} {k : Pl} {om : Oper} {C : World → Prop} (hl : l[m]? = some om) (hg : om.guard = none) (ty : TypeId) (x y : Operand) (ho : om.op = .store ty x y) (b : Nat) (x0 x1 x2 : Value) (hx : a.eval x = .pointer (some ⟨b, 0, none⟩)) (hy : a.eval y = .agg #[x0, x1, x2])
    {u0 u1 u2 : Value} (e0 : w.cell? ⟨b, 0, none⟩ = some u0) (e1 : w.cell? ⟨b, 1, none⟩ = some u1) (e2 : w.cell? ⟨b, 2, none⟩ = some u2) (ff : ∀ o, w.frozen? ⟨b, o, none⟩ = false) (hi : (P.info? ty).map (·.size) = some 3) (h1 : (#[x0, x1, x2] : Array Value).all (·.oneCell') = true)
    (hk : ∀ w', w.grownBy w' (some b) → KcL [(b, 0, x0), (b, 1, x1), (b, 2, x2)] w' → C w' ∧ ObPl P ops C l K k (a.put om.dst undef) w') : ObPl P ops C l K (.make m k) a w := by
  refine ⟨om, hl, .inl ⟨wanted_none hg, ?_⟩⟩
  have ht : w.there b 0 3 := fun j hj => by
    match j, hj with
    | 0, _ => exact ⟨by rw [e0]; rfl, ff _⟩
    | 1, _ => exact ⟨by rw [e1]; rfl, ff _⟩
    | 2, _ => exact ⟨by rw [e2]; rfl, ff _⟩
  have e : (execOp a.eval om).run P w = .ok .skip (w.setCells b 0 [x0, x1, x2]) := by
    unfold execOp
    simp only [ho, hx, hy, Instr.storeAt, Instr.sureAddr, Sem.run_bind, Sem.run_pure, Result.andThen_ok, run_storeVar_mid w b 0 ty #[x0, x1, x2] ht hi h1]
  rw [e]
  obtain ⟨t0, t1, t2⟩ := set3 e0 e1 e2 x0 x1 x2
  exact hk _ (grownBy_setCell3 w b x0 x1 x2) ⟨t0, t1, t2, trivial⟩
theorem frz {w w' : World} {b : Nat} {row : Option Nat} (hg : w.grownBy w' row) (hb : b < w.heap.size) (hr : some b ≠ row) (ff : ∀ o, w.frozen? ⟨b, o, none⟩ = false) : ∀ o, w'.frozen? ⟨b, o, none⟩ = false := fun o =>
  (World.frozen?_of_block (w := w) (a := ⟨b, o, none⟩) (hg.block b hb hr)).trans (ff o)
/-- two drawn constraints and two numbers -/
def SumD (w : World) (e : Ending) (w' : World) : Prop :=
  ∃ A n c Z b s m A2 n2 c2 Z2 b2 s2 k, e = .returned (.tuple #[.agg #[.slice A n c, .int .i64 b, .bool s], .int .i64 m, .agg #[.slice A2 n2 c2, .int .i64 b2, .bool s2], .int .i64 k]) ∧ n ≤ 5 ∧ n2 ≤ 5 ∧ Ints w' A n Z ∧ Ints w' A2 n2 Z2 ∧ m ∈ zsP ∧ k ∈ zsQ ∧ Below w.heap.size w w'
end Go.Proofs.Ytplocljoanaoeaa

namespace Go.Proofs.Ytplocljoanaoeaa
set_option linter.unusedVariables false
set_option linter.unusedSimpArgs false
open Go.RowKit
/-- a drawn constraint -/
def OneD (w : World) (e : Ending) (w' : World) : Prop :=
  ∃ A n c Z b s, e = .returned (.agg #[.slice A n c, .int .i64 b, .bool s]) ∧ n ≤ 5 ∧ Ints w' A n Z ∧ Below w.heap.size w w'
end Go.Proofs.Ytplocljoanaoeaa

namespace Go.Proofs.Ytplocljoanaoeaa
set_option linter.unusedVariables false
set_option linter.unusedSimpArgs false
open Go.RowKit
/-- the cells of k fractions -/
def rl (k : Nat) (N D : Nat → Int) : List Value := (List.range (k * 2)).map (ratV N D)
theorem rl_snoc (k : Nat) (N D : Nat → Int) : rl (k + 1) N D = rl k N D ++ [.int .i64 (N k), .int .i64 (D k)] := by
  unfold rl
  rw [show (k + 1) * 2 = k * 2 + 1 + 1 by omega, List.range_succ, List.range_succ, List.map_append, List.map_append, List.append_assoc]
  simp [ratV_even, ratV_odd]
theorem rl_put (k : Nat) (N D : Nat → Int) (x y : Int) : rl (k + 1) (fun j => if j = k then x else N j) (fun j => if j = k then y else D j) = rl k N D ++ [.int .i64 x, .int .i64 y] := by
  rw [rl_snoc]
  congr 1
  · unfold rl
    refine List.map_congr_left fun j hj => ?_
    have hj' := List.mem_range.1 hj
    have : j / 2 ≠ k := by omega
    unfold ratV
    simp [this]
  · simp
/-- a slice of n fractions in a block from lo on -/
def NewRats (lo : Nat) (w : World) (A : Option Addr) (n : Nat) (N D : Nat → Int) : Prop :=
  n = 0 ∨ ∃ h off, A = some ⟨h, off, none⟩ ∧ lo ≤ h ∧ h < w.heap.size ∧ ∀ k, k < n → w.cell? ⟨h, off + k * 2, none⟩ = some (.int .i64 (N k)) ∧ w.cell? ⟨h, off + k * 2 + 1, none⟩ = some (.int .i64 (D k))
theorem NewRats.rats {lo : Nat} {w : World} {A : Option Addr} {n : Nat} {N D : Nat → Int} (h : NewRats lo w A n N D) : Rats w A n N D := by
  rcases h with h | ⟨g, off, ha, _, hg, hc⟩
  · exact .inl h
  · exact .inr ⟨g, off, ha, hg, hc⟩
theorem NewRats.grow {lo : Nat} {w w' : World} {A : Option Addr} {n : Nat} {N D : Nat → Int} {row : Option Nat} (h : NewRats lo w A n N D) (hg : w.grownBy w' row) (hr : ∀ r, row = some r → r < lo) : NewRats lo w' A n N D := by
  rcases h with h | ⟨g, off, ha, h1, h2, hc⟩
  · exact .inl h
  · have ng : some g ≠ row := fun e => by have := hr g e.symm; omega
    exact .inr ⟨g, off, ha, h1, Nat.lt_of_lt_of_le h2 hg.size, fun k hk => ⟨hg.cell (hc k hk).1 ng, hg.cell (hc k hk).2 ng⟩⟩
/-- an owned row of n fractions, read -/
theorem own_rats {w : World} {base n : Nat} {v : Value} {N D : Nat → Int} (hn : 0 < n) (h : w.ownsRow base 52 2 v n (rl n N D)) :
    ∃ g c, v = .slice (some ⟨g, 0, none⟩) n c ∧ base ≤ g ∧ n ≤ c ∧ g < w.heap.size ∧ (∀ o, w.frozen? ⟨g, o, none⟩ = false) ∧ ∀ k, k < n → w.cell? ⟨g, k * 2, none⟩ = some (.int .i64 (N k)) ∧ w.cell? ⟨g, k * 2 + 1, none⟩ = some (.int .i64 (D k)) := by
  obtain ⟨hl, ⟨rfl, h⟩ | ⟨g, cap, cur, rfl, hg, hh, h1, h2, h3, h4⟩⟩ := h
  · omega
  have at_ : ∀ j, j < n * 2 → w.cell? ⟨g, j, none⟩ = some (ratV N D j) := by
    intro j hj
    have e : (cur.toList.take (n * 2))[j]? = some (ratV N D j) := by rw [h4]; unfold rl; simp [hj]
    rw [List.getElem?_take_of_lt hj, Array.getElem?_toList] at e
    simp [World.cell?, hh, e]
  refine ⟨g, cap, rfl, hg, h1, (Array.getElem?_eq_some_iff.1 hh).1, fun o => by simp [World.frozen?, hh], fun k hk => ⟨?_, ?_⟩⟩
  · rw [at_ _ (by omega), ratV_even]
  · rw [at_ _ (by omega), ratV_odd]
/-- the state of the loop -/
structure RBld (Bd lo : Nat) (w0 : World) (g k p : Nat) (v : Value) (N D : Nat → Int) (wr : World) : Prop where
  grown : w0.grownBy wr (some g)
  own : wr.ownsRow lo 52 2 v k (rl k N D)
  rd : ∃ q, q ≤ p ∧ RD Bd wr g q
theorem RBld.grow {Bd lo : Nat} {w0 : World} {g k p p' : Nat} {v : Value} {N D : Nat → Int} {wr w2 : World} (h : RBld Bd lo w0 g k p v N D wr) (hg : wr.grownBy w2 (some g)) (hlo : g < lo) (hR : ∃ q, q ≤ p' ∧ RD Bd w2 g q) : RBld Bd lo w0 g k p' v N D w2 where
  grown := grow_trans h.grown hg
  own := h.own.kept hg (by
    cases hv : v.ownBlock with
    | none => exact .inl rfl
    | some x => have := (h.own.lt x hv).1; exact .inr (by simp; omega))
  rd := hR
theorem RBld.step {Bd lo : Nat} {w0 : World} {g k p : Nat} {v v' : Value} {N D : Nat → Int} {x y : Int} {w2 w3 : World} {o : Obj} (h : RBld Bd lo w0 g k p v N D w2) (hlo : g < lo) (hBd : Bd ≤ lo) (hw0 : w0.heap.size ≤ lo)
    (hown : w3.ownsRow lo 52 2 v' (k + 1) (rl k N D ++ [.int .i64 x, .int .i64 y])) (hg : (w2.alloc o).grownBy w3 v.ownBlock) :
    RBld Bd lo w0 g (k + 1) p v' (fun j => if j = k then x else N j) (fun j => if j = k then y else D j) w3 := by
  have hne : ∀ r, r < lo → v.ownBlock ≠ some r := by
    intro r hr he
    have := (h.own.lt r he).1
    omega
  obtain ⟨q, hq, hR⟩ := h.rd
  have hR3 : RD Bd w3 g q := (hR.alloc _).grow hg fun r hr => by
    have := (h.own.lt r hr).1
    omega
  refine ⟨⟨hg.os.trans h.grown.os, hg.tape.trans h.grown.tape, hg.output.trans h.grown.output, Nat.le_trans h.grown.size (Nat.le_trans (by simp) hg.size), fun i hi hr => ?_⟩, ?_, q, hq, hR3⟩
  · have hi2 := Nat.lt_of_lt_of_le hi h.grown.size
    rw [hg.block i (by simp; omega) (Ne.symm (hne i (by omega)))]
    exact (World.grownBy_alloc w2 _ none).block i hi2 (by simp) |>.trans (h.grown.block i hi hr)
  · rw [rl_put]; exact hown
theorem new_two (w : World) (x y : Value) (t : TypeId) : ∀ (j : Nat) (u : Value), ([x, y] : List Value)[j]? = some u → (w.alloc (.cells #[x, y] t)).cell? ((⟨w.heap.size, 0, none⟩ : Addr).add j) = some u := by
  intro j u h
  match j with
  | 0 => simp at h; subst h; simp [go_sem, Addr.add]
  | 1 => simp at h; subst h; simp [go_sem, Addr.add]
  | j + 2 => simp at h
theorem set2R {w1 : World} {b : Nat} {u0 u1 : Value} (h0 : w1.cell? ⟨b, 0, none⟩ = some u0) (h1 : w1.cell? ⟨b, 1, none⟩ = some u1) (x0 x1 : Value) :
    ((w1.setCell ⟨b, 0, none⟩ x0).setCell ⟨b, 1, none⟩ x1).cell? ⟨b, 0, none⟩ = some x0 ∧ ((w1.setCell ⟨b, 0, none⟩ x0).setCell ⟨b, 1, none⟩ x1).cell? ⟨b, 1, none⟩ = some x1 := by
  refine ⟨?_, ?_⟩
  · rw [World.cell?_setCell_other _ _ _ _ (by simp)]; exact World.cell?_setCell_same _ _ _ h0
  · exact World.cell?_setCell_same _ _ _ (by rw [World.cell?_setCell_other _ _ _ _ (by simp)]; exact h1)
theorem frzR {w w' : World} {b : Nat} {row : Option Nat} (hg : w.grownBy w' row) (hb : b < w.heap.size) (hr : some b ≠ row) (ff : ∀ o, w.frozen? ⟨b, o, none⟩ = false) : ∀ o, w'.frozen? ⟨b, o, none⟩ = false := fun o =>
  (World.frozen?_of_block (w := w) (a := ⟨b, o, none⟩) (hg.block b hb hr)).trans (ff o)
/-- numbers, drawn -/
def NumsP (Bd : Nat) (w : World) (g p : Nat) (e : Ending) (w' : World) : Prop :=
  ∃ A m c N D q, e = .returned (.slice A m c) ∧ m ≤ 4 ∧ NewRats w.heap.size w' A m N D ∧ w.grownBy w' (some g) ∧ RD Bd w' g q ∧ q ≤ p + 20
def zsU : List Int := [0, 1, -1, 2, 3, -5, 7]
def zsV : List Int := [1, 1, 2, 3]
theorem row7U (w : World) (t : TypeId) : ∀ k, k < zsU.length → (w.alloc (.cells #[.int .i64 0, .int .i64 1, .int .i64 (-1), .int .i64 2, .int .i64 3, .int .i64 (-5), .int .i64 7] t)).cell? ⟨w.heap.size, k, none⟩ = some (.int .i64 (zsU.getD k 0)) := by
  intro k hk
  simp only [zsU, List.length_cons, List.length_nil] at hk
  have hk' : k = 0 ∨ k = 1 ∨ k = 2 ∨ k = 3 ∨ k = 4 ∨ k = 5 ∨ k = 6 := by omega
  rcases hk' with rfl | rfl | rfl | rfl | rfl | rfl | rfl <;> simp [go_sem, zsU]
theorem row4V (w : World) (t : TypeId) : ∀ k, k < zsV.length → (w.alloc (.cells #[.int .i64 1, .int .i64 1, .int .i64 2, .int .i64 3] t)).cell? ⟨w.heap.size, k, none⟩ = some (.int .i64 (zsV.getD k 0)) := by
  intro k hk
  simp only [zsV, List.length_cons, List.length_nil] at hk
  have hk' : k = 0 ∨ k = 1 ∨ k = 2 ∨ k = 3 := by omega
  rcases hk' with rfl | rfl | rfl | rfl <;> simp [go_sem, zsV]
theorem own_empty (w : World) (t : TypeId) (size : Nat) : (w.alloc (.cells #[] t)).ownsRow w.heap.size t size (.slice (some ⟨w.heap.size, 0, none⟩) 0 0) 0 [] :=
  ⟨by simp, .inr ⟨w.heap.size, 0, #[], rfl, Nat.le_refl _, Deep.blk_alloc_new _ _, Nat.le_refl _, by unfold maxLen; omega, by simp, by simp⟩⟩
set_option maxRecDepth 100000 in
set_option maxHeartbeats 4000000 in
theorem l2numbers_any (Bd : Nat) (w : World) (g p : Nat) (hR : RD Bd w g p) (hp : p ≤ 100000) :
    Calls Try.prog 33 #[.pointer (some ⟨g, 0, none⟩)] w (NumsP Bd w g p) := by
  have hlt := hR.lt
  have hle := hR.le
  have h0 : RBld Bd w.heap.size w g 0 p (.slice (some ⟨w.heap.size, 0, none⟩) 0 0) (fun _ => 0) (fun _ => 0) (w.alloc (.cells #[] 52)) :=
    ⟨grow_alloc (grow_refl _ _) _, own_empty w 52 2, p, Nat.le_refl _, hR.alloc _⟩
  obtain ⟨i0, hi, hz0, hz1, hz2⟩ := info_parts infoR
  go_enter Try.func33, Try.ntmps33
  go_wp2_with fail
  go_loopw [3, 4] (fun v i wr => ∃ (k : Nat) (N D : Nat → Int), k ≤ 4 ∧ i = .int .i64 k ∧ RBld Bd w.heap.size w g k (p + 2 * k) v N D wr) (fun _ i _ => 4 - (intOf i).toNat)
  case atStart => exact ⟨0, _, _, Nat.zero_le _, rfl, h0⟩
  case round =>
    clear h0
    obtain ⟨k, N, D, hk, rfl, h⟩ := hrel
    by_cases hlt4 : k < 4
    · obtain ⟨q, hq, hRq⟩ := h.rd
      go_wp2_with fail
      refine (num_any Bd _ g q wr.heap.size 7 7 zsU (hRq.alloc _) (by omega) rfl (by decide) (by decide) (by have := hRq.lt; omega) (row7U wr 3)).mono ?_
      rintro e w1 ⟨x1, _, rfl, hg1, hR1⟩
      have h1 := h.grow (p' := p + 2 * k + 1) (grow_trans (grow_alloc (grow_refl _ _) _) hg1) hlt ⟨_, by omega, hR1⟩
      clear hg1 h
      go_wp2_with fail
      refine (num_any Bd _ g (q + 1) w1.heap.size 4 4 zsV (hR1.alloc _) (by omega) rfl (by decide) (by decide) (by have := hR1.lt; omega) (row4V w1 3)).mono ?_
      rintro e w2 ⟨x2, _, rfl, hg2, hR2⟩
      have h2 := h1.grow (p' := p + 2 * (k + 1)) (grow_trans (grow_alloc (grow_refl _ _) _) hg2) hlt ⟨_, by omega, hR2⟩
      clear hg2 h1 hR1
      go_wp2_with fail
      refine (sof_any x1 x2 _).mono ?_
      rintro e w3 ⟨rfl, hq3⟩
      have h3 := h2.grow (p' := p + 2 * (k + 1)) (grow_of_below hq3 _) hlt (let ⟨q', a, b⟩ := h2.rd; ⟨q', a, b.below hq3⟩)
      clear hq3 h2
      generalize ofR x1 x2 = r
      obtain ⟨X, Y, ok⟩ := r
      simp only
      have hsz3 : w.heap.size ≤ w3.heap.size := h3.grown.size
      clear hq hRq hR2
      cases ok
      · skip
        have h4 := h3.grow (p' := p + 2 * (k + 1)) (grow_alloc (grow_refl w3 (some g)) (.cells #[.int .i64 0, .int .i64 1] 52)) hlt (let ⟨q', a, b⟩ := h3.rd; ⟨q', a, b.alloc _⟩)
        have hnw : ∀ (j : Nat) (u : Value), ([.int .i64 0, .int .i64 1] : List Value)[j]? = some u → ((w3.alloc (.cells #[.int .i64 0, .int .i64 1] 52)).alloc (.cells #[.int .i64 0, .int .i64 1] 52)).cell? ((⟨w3.heap.size + 1, 0, none⟩ : Addr).add j) = some u := by
          have := new_two (w3.alloc (.cells #[.int .i64 0, .int .i64 1] 52)) (.int .i64 0) (.int .i64 1) 52
          rwa [World.size_alloc] at this
        clear h3
        go_wp2_with ((at_builtin; refine wpList_append_own _ rfl _ _ 29 rfl w.heap.size 52 i0 (.agg #[.int .i64 0, .int .i64 0]) 2 16 Try.underlying29 hi hz0 hz1 hz2 rfl (by decide) _ _ _ rfl (h4.own.alloc _) ⟨w3.heap.size + 1, 0, none⟩ 1 1 [.int .i64 0, .int .i64 1] rfl rfl hnw (fun u hu => by simp at hu; first | (rcases hu with rfl | rfl <;> rfl) | (subst hu; rfl)) (by unfold maxLen; omega) (by omega) (by simp; omega) ?_; intro v' w5 hown hgrow _; have H5 := hid (h4.step hlt (by omega) (Nat.le_refl _) hown hgrow)))
        exact ⟨⟨k + 1, _, _, by omega, by go_num, H5.out⟩, by simp [intOf]; omega⟩
      · skip
        have h4 := h3.grow (p' := p + 2 * (k + 1)) (grow_alloc (grow_refl w3 (some g)) (.cells #[.int .i64 X, .int .i64 Y] 52)) hlt (let ⟨q', a, b⟩ := h3.rd; ⟨q', a, b.alloc _⟩)
        have hnw : ∀ (j : Nat) (u : Value), ([.int .i64 X, .int .i64 Y] : List Value)[j]? = some u → ((w3.alloc (.cells #[.int .i64 X, .int .i64 Y] 52)).alloc (.cells #[.int .i64 X, .int .i64 Y] 52)).cell? ((⟨w3.heap.size + 1, 0, none⟩ : Addr).add j) = some u := by
          have := new_two (w3.alloc (.cells #[.int .i64 X, .int .i64 Y] 52)) (.int .i64 X) (.int .i64 Y) 52
          rwa [World.size_alloc] at this
        clear h3
        go_wp2_with ((at_builtin; refine wpList_append_own _ rfl _ _ 29 rfl w.heap.size 52 i0 (.agg #[.int .i64 0, .int .i64 0]) 2 16 Try.underlying29 hi hz0 hz1 hz2 rfl (by decide) _ _ _ rfl (h4.own.alloc _) ⟨w3.heap.size + 1, 0, none⟩ 1 1 [.int .i64 X, .int .i64 Y] rfl rfl hnw (fun u hu => by simp at hu; first | (rcases hu with rfl | rfl <;> rfl) | (subst hu; rfl)) (by unfold maxLen; omega) (by omega) (by simp; omega) ?_; intro v' w5 hown hgrow _; have H5 := hid (h4.step hlt (by omega) (Nat.le_refl _) hown hgrow)))
        exact ⟨⟨k + 1, _, _, by omega, by go_num, H5.out⟩, by simp [intOf]; omega⟩
    · have hk4 : k = 4 := by omega
      subst hk4
      obtain ⟨q, hq, hRq⟩ := h.rd
      go_wp2_with fail
      refine (pick_any Bd _ g q 40 hRq (by omega) (by omega)).mono ?_
      rintro e w1 ⟨x, _, _, rfl, hg1, hR1⟩
      have h1 := h.grow (p' := p + 9) hg1 hlt ⟨_, by omega, hR1⟩
      clear h hg1 hRq
      obtain ⟨hh, c, rfl, hh1, hc1, hh2, hf, hcell⟩ := own_rats (by omega) h1.own
      have hgr := h1.grown
      clear h1
      by_cases e0 : x = 0
      · subst e0
        go_wp2
        go_ret
        exact ⟨some ⟨hh, 2, none⟩, 3, c - 1, fun k => N (k + 1), fun k => D (k + 1), _, rfl, by omega, .inr ⟨hh, 2, rfl, hh1, hh2, fun k hk => ⟨by rw [show 2 + k * 2 = (k + 1) * 2 by omega]; exact (hcell (k + 1) (by omega)).1, by rw [show 2 + k * 2 + 1 = (k + 1) * 2 + 1 by omega]; exact (hcell (k + 1) (by omega)).2⟩⟩, hgr, hR1, by omega⟩
      have d0 : (x == 0) = false := by simpa using e0
      clear e0
      by_cases e1 : x = 1
      · subst e1
        go_wp2_with fail
        refine (rat_any Bd w1 g (q + 1) hR1 (by have := hR1.le; have := hR1.lt; omega) (by omega)).mono ?_
        rintro e w2 ⟨X, Y, q2, rfl, hg2, hR2, hq2⟩
        have hne : hh ≠ g := by omega
        have c0 : w2.cell? ⟨hh, 0, none⟩ = some (.int .i64 (N 0)) := grow_cell hg2 hne (by simpa using (hcell 0 (by omega)).1)
        have c1 : w2.cell? ⟨hh, 1, none⟩ = some (.int .i64 (D 0)) := grow_cell hg2 hne (by simpa using (hcell 0 (by omega)).2)
        have ff := frzR hg2 hh2 (by simp; omega) hf
        have f0 := ff 0
        have f1 := ff 1
        have hcc : ∀ k, k < 4 → w2.cell? ⟨hh, k * 2, none⟩ = some (.int .i64 (N k)) ∧ w2.cell? ⟨hh, k * 2 + 1, none⟩ = some (.int .i64 (D k)) := fun k hk => ⟨grow_cell hg2 hne (hcell k hk).1, grow_cell hg2 hne (hcell k hk).2⟩
        have HC := hid hcc
        clear hcc hcell ff hf
        have hh3 : hh < w2.heap.size := cell_lt c0
        obtain ⟨t0, t1⟩ := set2R c0 c1 (.int .i64 X) (.int .i64 Y)
        go_wp2
        go_ret
        refine ⟨some ⟨hh, 0, none⟩, 4, c, fun k => if k = 0 then X else N k, fun k => if k = 0 then Y else D k, _, rfl, by omega, .inr ⟨hh, 0, rfl, hh1, by simpa [World.setCell] using hh3, fun k hk => ?_⟩, grow_setNew (grow_setNew (grow_trans hgr hg2) hh1 0 _) hh1 1 _, (hR2.set hne (by omega) 0 _).set hne (by omega) 1 _, by omega⟩
        rw [Nat.zero_add]
        by_cases e : k = 0
        · subst e; exact ⟨t0, t1⟩
        · simp only [if_neg e]
          refine ⟨?_, ?_⟩
          · rw [World.cell?_setCell_other _ _ _ _ (by simp <;> omega), World.cell?_setCell_other _ _ _ _ (by simp <;> omega)]; exact (HC.out k hk).1
          · rw [World.cell?_setCell_other _ _ _ _ (by simp <;> omega), World.cell?_setCell_other _ _ _ _ (by simp <;> omega)]; exact (HC.out k hk).2
      · have d1 : (x == 1) = false := by simpa using e1
        clear e1
        go_wp2
        go_ret
        exact ⟨some ⟨hh, 0, none⟩, 4, c, N, D, _, rfl, by omega, .inr ⟨hh, 0, rfl, hh1, hh2, fun k hk => by rw [Nat.zero_add]; exact hcell k hk⟩, hgr, hR1, by omega⟩
end Go.Proofs.Ytplocljoanaoeaa

namespace Go.Proofs.Ytplocljoanaoeaa
set_option linter.unusedVariables false
set_option linter.unusedSimpArgs false
open Go.RowKit
/-- a drawn constraint and drawn numbers -/
def AtD (w : World) (e : Ending) (w' : World) : Prop :=
  ∃ A n c Z b s D m d N M, e = .returned (.tuple #[.agg #[.slice A n c, .int .i64 b, .bool s], .slice D m d]) ∧ n ≤ 5 ∧ Ints w' A n Z ∧ m ≤ 4 ∧ Rats w' D m N M ∧ Below w.heap.size w w'
set_option maxRecDepth 100000 in
set_option maxHeartbeats 4000000 in
theorem drawlinat_any (B : Nat) (w : World) (a : Option Addr) (len cap : Nat) (hB : B ≤ w.heap.size) (hby : Bytes B w a len) (hlc : len ≤ cap) (hc : cap ≤ 9223372036854775807) :
    Calls Try.prog 12 #[.slice a len cap] w (AtD w) := by
  have hO := open_any B (w.alloc (.cells #[.slice none 0 0, .int .i64 0, .bool false] 28)) a len cap (by simp <;> omega) (hby.alloc _) hlc hc
  have H := KcL.new3 w (.slice none 0 0) (.int .i64 0) (.bool false) 28 rfl
  have q0 := bal (Below.refl w.heap.size w) (.cells #[.slice none 0 0, .int .i64 0, .bool false] 28)
  have fa : ∀ o, (w.alloc (.cells #[.slice none 0 0, .int .i64 0, .bool false] 28)).frozen? ⟨w.heap.size, o, none⟩ = false := fun o => by simp [go_sem]
  go_enter Try.func12, Try.ntmps12
  go_wp2_with fail
  refine hO.mono ?_
  rintro e w1 ⟨g, rfl, hb, hR, hg⟩
  clear hO
  have hgs : w.heap.size + 1 ≤ g := by simpa using hg
  have hz1 := hb.size
  simp only [World.size_alloc] at hz1
  replace H := H.below hb
  replace q0 := btr q0 hb
  replace fa := fun o => carryf hb (fa o) (by simp)
  clear hb hg
  have glt := hR.lt
  go_wp2_with fail
  refine (l2some_any B _ g 0 hR (by omega)).mono ?_
  rintro e w2 ⟨A, n, c, Z, b, s, q, rfl, ⟨hn1, hn⟩, hnc, hc2, row, hg2, hR2, hq⟩
  have hz2 := hg2.size
  replace H := H.keep hg2 (fun e he r hr => by cases hr; simp at he; rcases he with rfl | rfl | rfl <;> (simp only; omega))
  replace q0 := q0.grown hg2 q0.size (fun r hr => by cases hr; omega)
  replace fa := frz hg2 (by omega) (by simp; omega) fa
  clear hg2 hR
  go_upto_region 3 with fail
  have al := bal (Below.refl w2.heap.size w2) (.cells #[.slice A n c, .int .i64 b, .bool s] 28)
  have KL := KcL.new3 w2 (.slice A n c) (.int .i64 b) (.bool s) 28 rfl
  have hL1 : g < w2.heap.size := hR2.lt
  have hz6 : w2.heap.size < (w2.alloc (.cells #[.slice A n c, .int .i64 b, .bool s] 28)).heap.size := by simp
  replace H := H.below al
  replace q0 := btr q0 al
  replace fa := fun o => carryf al (fa o) (by omega)
  replace row := row.grow (grow_alloc (grow_refl w2 none) (.cells #[.slice A n c, .int .i64 b, .bool s] 28)) (fun r hr => by cases hr)
  replace hR2 := hR2.alloc (.cells #[.slice A n c, .int .i64 b, .bool s] 28)
  generalize w2.alloc (.cells #[.slice A n c, .int .i64 b, .bool s] 28) = w3 at *
  clear al
  refine region_planC (fun w' => KcL [(w2.heap.size, 0, .slice A n c), (w2.heap.size, 1, .int .i64 b), (w2.heap.size, 2, .bool s)] w') (.takes [0, 1] (.make 2 .fin)) 3 rfl (by kernel_rfl) (KL.below (Below.refl w3.heap.size w3).drew) ?_
  have qd := (Below.refl w3.heap.size w3).drew
  refine plan_takes ?_; simp only [pickOps, List.getElem?_cons_zero, List.getElem?_cons_succ]
  refine quiet_doC rfl (.agg #[.slice A n c, .int .i64 b, .bool s]) (fun w' hw' => run_load3 rfl (by kernel_rfl) Try.underlying28 rfl (by kernel_rfl) hw'.1 hw'.2.1 hw'.2.2.1) ?_
  refine quiet_doC rfl (.pointer (some ⟨g, 0, none⟩)) (fun _ _ => by kernel_rfl) ?_
  refine wpQuiet_nil ?_
  replace KL := KL.below qd
  replace H := H.below qd
  replace q0 := btr q0 qd
  replace fa := fun o => carryf qd (fa o) (by omega)
  replace row := row.grow (grow_of_below qd none) (fun r hr => by cases hr)
  replace hR2 := hR2.below qd
  have hsd : w3.drew.heap.size = w3.heap.size := rfl
  refine planC_call rfl rfl 33 #[.pointer (some ⟨g, 0, none⟩)] (by kernel_rfl) ?_
  refine (l2numbers_any B _ g q hR2 (by omega)).mono ?_
  rintro e w4 ⟨D, m, d, N, M, q2, rfl, hm, hNR, hg4, hR4, hq2⟩
  have KL4 := KL.keep hg4 (fun e he r hr => by cases hr; simp at he; rcases he with rfl | rfl | rfl <;> (simp only; omega))
  have H4 := H.keep hg4 (fun e he r hr => by cases hr; simp at he; rcases he with rfl | rfl | rfl <;> (simp only; omega))
  have z4 := hg4.size
  replace q0 := q0.grown hg4 q0.size (fun r hr => by cases hr; omega)
  replace fa := frz hg4 (by omega) (by simp; omega) fa
  replace row := row.grow hg4 (fun r hr => by cases hr; exact glt)
  refine ⟨_, rfl, KL4, ?_⟩
  refine plan_fin ?_
  simp only [List.drop_succ_cons, List.drop_zero]
  clear KL H hg4 hR2 hR4 qd KL4
  obtain ⟨k0, k1, k2, _⟩ := H4
  have f0 := fa 0
  have f1 := fa 1
  have f2 := fa 2
  go_wp2_with fail
  obtain ⟨t0, t1, t2⟩ := set3 k0 k1 k2 (.slice A n c) (.int .i64 b) (.bool s)
  refine bodyPost_ret (v := .tuple #[.agg #[.slice A n c, .int .i64 b, .bool s], .slice D m d]) (by simp [results, Try.results12, go_sem, t0, t1, t2]) rfl ?_
  have kp : ∀ (W : World) (o : Nat) (v : Value), NewRow w1.heap.size W A n Z → NewRow w1.heap.size (W.setCell ⟨w.heap.size, o, none⟩ v) A n Z := fun W o v x => x.grow (grow_set W w.heap.size o v) (fun r e => by cases e; omega)
  have kq : ∀ (W : World) (o : Nat) (v : Value), NewRats w3.drew.heap.size W D m N M → NewRats w3.drew.heap.size (W.setCell ⟨w.heap.size, o, none⟩ v) D m N M := fun W o v x => x.grow (grow_set W w.heap.size o v) (fun r e => by cases e; omega)
  exact ⟨A, n, c, Z, b, s, D, m, d, N, M, rfl, hn, (kp _ 2 _ (kp _ 1 _ (kp _ 0 _ row))).ints, hm, (kq _ 2 _ (kq _ 1 _ (kq _ 0 _ hNR))).rats, bst (bst (bst q0 (Nat.le_refl _) _) (Nat.le_refl _) _) (Nat.le_refl _) _⟩
end Go.Proofs.Ytplocljoanaoeaa
