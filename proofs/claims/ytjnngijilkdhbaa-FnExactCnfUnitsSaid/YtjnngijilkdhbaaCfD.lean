/- The model's l10Put: one literal more in an ascending list. -/
import Derived.Test.YtjnngijilkdhbaaCfC
import Derived.Test.YtjnngijilkdhbaaCcA
namespace Go.Proofs.Ytjnngijilkdhbaa
set_option linter.unusedVariables false
set_option linter.unusedSimpArgs false
open Go.RowKit
/-- a list handed back, and a truth value -/
def PutP (w : World) (g0 : Nat) (r : List Int) (b : Bool) (e : Ending) (w' : World) : Prop :=
  ∃ g off c, e = .returned (.tuple #[.slice (some ⟨g, off, none⟩) r.length c, .bool b]) ∧ r.length ≤ c ∧ c ≤ 9223372036854775807 ∧ Ints w' (some ⟨g, off, none⟩) r.length (fun k => r.getD k 0) ∧ Below w.heap.size w w' ∧ (g = g0 ∨ w.heap.size ≤ g)
theorem hi_ints {o : Oper} {x y : Operand} (ho : o.op = .slice 38 x none (some y) none) {a : Act} {g p n c k : Nat} (hx : a.eval x = .slice (some ⟨g, p, none⟩) n c) (hy : a.eval y = .int .i64 k) (hk : k ≤ c) (w : World) :
    (execOp a.eval o).run Try.prog w = .ok (.value (.slice (some ⟨g, p, none⟩) k c)) w := by
  unfold execOp
  rw [ho]
  simp only [Option.map_some, Option.map_none, hx, hy]
  simp [go_sem, Addr.add]
  try omega
theorem lo_ints {o : Oper} {x y : Operand} (ho : o.op = .slice 38 x (some y) none none) {a : Act} {g p n c k : Nat} (hx : a.eval x = .slice (some ⟨g, p, none⟩) n c) (hy : a.eval y = .int .i64 k) (hk : k ≤ n) (hn : n ≤ c) (w : World) :
    ∃ o2 c2, (execOp a.eval o).run Try.prog w = .ok (.value (.slice (some ⟨g, o2, none⟩) (n - k) c2)) w ∧ (o2 = p + k ∨ n - k = 0) := by
  by_cases e : c = k
  · refine ⟨p, c - k, ?_, .inr (by omega)⟩
    unfold execOp
    rw [ho]
    simp only [Option.map_some, Option.map_none, hx, hy]
    simp [go_sem, Addr.add, e]
    try omega
  · refine ⟨p + k, c - k, ?_, .inl rfl⟩
    unfold execOp
    rw [ho]
    simp only [Option.map_some, Option.map_none, hx, hy]
    simp [go_sem, Addr.add, e, hk]
    try (intro h0; omega)
theorem own_emptyC (w : World) (t : TypeId) (size : Nat) : (w.alloc (.cells #[] t)).ownsRow w.heap.size t size (.slice (some ⟨w.heap.size, 0, none⟩) 0 0) 0 [] :=
  ⟨by simp, .inr ⟨w.heap.size, 0, #[], rfl, Nat.le_refl _, Deep.blk_alloc_new _ _, Nat.le_refl _, by unfold maxLen; omega, by simp, by simp⟩⟩
theorem own_someC {w : World} {base n : Nat} {e : TypeId} {v : Value} {xs : List Value} (h : w.ownsRow base e 1 v n xs) (hne : ¬ (v = .slice none 0 0)) :
    ∃ g cap, v = .slice (some ⟨g, 0, none⟩) n cap ∧ n ≤ cap ∧ cap ≤ 9223372036854775807 ∧ base ≤ g ∧ g < w.heap.size ∧ ∀ j u, xs[j]? = some u → w.cell? ((⟨g, 0, none⟩ : Addr).add j) = some u := by
  have h0 := h
  obtain ⟨hl, ⟨rfl, h⟩ | ⟨g, cap, cur, rfl, hg, hh, h1, h2, h3, h4⟩⟩ := h
  · exact absurd rfl hne
  · unfold maxLen at h2
    exact ⟨g, cap, rfl, h1, by omega, hg, (Array.getElem?_eq_some_iff.1 hh).1, h0.cells (g := g) rfl⟩
theorem own_relen {w : World} {base n : Nat} {e : TypeId} {v : Value} {xs : List Value} {L : List Int} (h : w.ownsRow base e 1 v n xs) (hx : xs = valsI L) : w.ownsRow base e 1 v L.length (valsI L) := by
  subst hx
  have := h.1
  have hn : L.length = n := by simpa [valsI] using this
  rw [hn]
  exact h
theorem below_app {B base n : Nat} {w wr w5 : World} {t : TypeId} {v : Value} {xs : List Value} {size : Nat} (hb : Below B w wr) (hB : B ≤ w.heap.size) (ho : wr.ownsRow base t size v n xs) (hbs : B ≤ base) (hg : wr.grownBy w5 v.ownBlock) : Below B w w5 :=
  hb.grown hg (Nat.le_trans hB hb.size) (fun j hj => by have := (ho.lt j hj).1; omega)
end Go.Proofs.Ytjnngijilkdhbaa
