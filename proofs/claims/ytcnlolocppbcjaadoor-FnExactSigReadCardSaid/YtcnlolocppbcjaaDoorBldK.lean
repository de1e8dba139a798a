/- Bytes that are built: helpers of the builder's contracts. -/
import Derived.Test.YtcnlolocppbcjaaDoorBuild
import Derived.Lib.AppendIntMem
namespace Go.Proofs.YtcnlolocppbcjaaDoor
set_option linter.unusedVariables false
set_option linter.unusedSimpArgs false
open Go.Shelf Go.RowKit
abbrev BLD (B b : Nat) (p : Value) (l : List UInt8) (w : World) : Prop := Lib.BuilderAt 55 5 B b p (Lib.byteCells l) w
abbrev ISB (B b : Nat) (l : List UInt8) (w : World) : Prop := Lib.IsBuilder 55 5 B b (Lib.byteCells l) w
theorem bld_below {T e : TypeId} {B b : Nat} {p : Value} {bs : List Value} {W W' : World} (h : Lib.BuilderAt T e B b p bs W) (hb : Below W.heap.size W W') : Lib.BuilderAt T e B b p bs W' := by
  have hlt := h.lt
  obtain ⟨hB, v, hv, hown, hne⟩ := h
  exact ⟨hB, v, (hb.block b hlt).trans hv, hown.kept (row := none) ⟨hb.os, hb.tape, hb.output, hb.size, fun k hk _ => hb.block k hk⟩ (Classical.em _), hne⟩
theorem isb_below {T e : TypeId} {B b : Nat} {bs : List Value} {W W' : World} (h : Lib.IsBuilder T e B b bs W) (hb : Below W.heap.size W W') : Lib.IsBuilder T e B b bs W' := by
  rcases h with h | h
  · exact .inl (bld_below h hb)
  · exact .inr (bld_below h hb)
theorem isb_lt {T e : TypeId} {B b : Nat} {bs : List Value} {W : World} (h : Lib.IsBuilder T e B b bs W) : b < W.heap.size := by
  rcases h with h | h
  · exact h.lt
  · exact h.lt
theorem bld_new (w : World) : Lib.BuilderAt 55 5 w.heap.size w.heap.size (.pointer none) [] (w.alloc (.cells #[.pointer none, .slice none 0 0] 55)) := by
  refine ⟨Nat.le_refl _, .slice none 0 0, ?_, ⟨by simp, .inl ⟨rfl, rfl⟩⟩, by simp [Value.ownBlock]⟩
  show (w.heap.push _)[w.heap.size]? = _
  simp
theorem cell_heap {w : World} {x : Nat} {c : Array Value} {t : TypeId} {o : Nat} {v : Value} (h : w.heap[x]? = some (.cells c t (0, 0))) (hc : c[o]? = some v) : w.cell? ⟨x, o, none⟩ = some v := by
  simp [World.cell?, h, hc]
theorem heap_new (w : World) (c : Array Value) (t : TypeId) : (w.alloc (.cells c t)).heap[w.heap.size]? = some (.cells c t (0, 0)) := by
  show (w.heap.push _)[w.heap.size]? = _
  simp
theorem heap_old {w : World} {x : Nat} {o o' : Obj} (h : w.heap[x]? = some o) : (w.alloc o').heap[x]? = some o := by
  exact (((Below.refl w.heap.size w).alloc (Nat.le_refl _) o').block x (heap_lt h)).trans h
theorem byteCells_snoc (l : List UInt8) (c : UInt8) : Lib.byteCells l ++ [.int .u8 (c.toNat : Int)] = Lib.byteCells (l ++ [c]) := by rw [Lib.byteCells_append]; rfl
theorem bld_to {B b : Nat} {p : Value} {bs : List Value} {l : List UInt8} {w : World} (h : Lib.BuilderAt 55 5 B b p bs w) (e : bs = Lib.byteCells l) : BLD B b p l w := by subst e; exact h
end Go.Proofs.YtcnlolocppbcjaaDoor
