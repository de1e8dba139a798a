/- Contract of the model's LinRead. -/
import Derived.Test.YtcnlolocppbcjaaDoorLdM
import Derived.Test.YtcnlolocppbcjaaDoorLinL
import Derived.Test.YtcnlolocppbcjaaDoorLinO
namespace Go.Proofs.YtcnlolocppbcjaaDoor
set_option linter.unusedVariables false
set_option linter.unusedSimpArgs false
open Go.Shelf Go.RowKit Go.Joins
theorem bld_frz {B o : Nat} {wr w2 w3 : World} {Y : List Value} {k : Nat} {v v' : Value} (x : Value) (hBr : B < wr.heap.size) (hf : wr.frozen? ⟨B, o, none⟩ = false)
    (ho : wr.ownsRow (B + 1) 3 1 v k Y) (hq : Below wr.heap.size wr w2) (hg : (w2.alloc (.cells #[x] 3)).grownBy w3 v.ownBlock) : (w3.setCell ⟨B, 0, none⟩ v').frozen? ⟨B, o, none⟩ = false := by
  have hne : v.ownBlock ≠ some B := by
    intro he
    have := (ho.lt B he).1
    omega
  have hB2 : B < w2.heap.size := Nat.lt_of_lt_of_le hBr hq.size
  have f3 : w3.frozen? ⟨B, o, none⟩ = false := by
    rw [World.frozen?_of_block (w := w2.alloc (.cells #[x] 3)) (a := ⟨B, o, none⟩) (hg.block B (by simp; omega) (Ne.symm hne))]
    exact ((Below.refl w2.heap.size w2).alloc (Nat.le_refl _) _).frozen (p := ⟨B, o, none⟩) hB2 |>.trans (hq.frozen (p := ⟨B, o, none⟩) hBr |>.trans hf)
  simpa [go_sem] using f3
theorem bld_bel {B : Nat} {w0 wr w2 w3 : World} {Y : List Value} {k : Nat} {v : Value} (v' : Value) (x : Value) (hBr : B < wr.heap.size)
    (ho : wr.ownsRow (B + 1) 3 1 v k Y) (hq : Below wr.heap.size wr w2) (hg : (w2.alloc (.cells #[x] 3)).grownBy w3 v.ownBlock) (hb : Below B w0 wr) : Below B w0 (w3.setCell ⟨B, 0, none⟩ v') := by
  have b3 : Below B w0 w3 := by
    refine (hb.trans ((hq.mono (by omega)).alloc (by have := hq.size; omega) _)).grown hg (by have := hq.size; simp; omega) ?_
    intro j hj
    have := (ho.lt j hj).1
    omega
  exact b3.setCell (Nat.le_refl _) _
theorem OwnI.old4 {W w w' : World} {A : Option Addr} {n : Nat} {Z : Nat → Int} (h : OwnI W w A n Z) (hq : Below w.heap.size w w') : OwnI W w' A n Z := h.below hq
theorem str60 (t : ByteArray) : (t.toList == [60]) = decide (t.data.toList = [60]) := by
  rw [Bool.eq_iff_iff, ByteArray.toList_eq]
  simp only [beq_iff_eq, decide_eq_true_eq]
end Go.Proofs.YtcnlolocppbcjaaDoor
