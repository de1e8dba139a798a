/- Several texts in one: FlF, FlG, FlH, FlI, FlJ, FlK, FlL, FlW. -/
import Derived.Test.YtppiaclpholbfaaBX
import Derived.Test.YtppiaclpholbfaaLinK
import Derived.Maps.AppendAt
import Derived.Test.YtppiaclpholbfaaLinSB
import Derived.Test.YtppiaclpholbfaaFarK
import Derived.Test.YtppiaclpholbfaaFarL
import Derived.Test.YtppiaclpholbfaaFarO
import Derived.Test.YtppiaclpholbfaaFarP
namespace Go.Proofs.Ytppiaclpholbfaa
set_option linter.unusedVariables false
set_option linter.unusedSimpArgs false
open Go.RowKit
structure MRow where
  a : Option Addr
  c : Nat
  t : Option Addr
  d : Nat
  r : FRw
def MRow.cells (n : Nat) (m : MRow) : List Value := [.slice m.a 4 m.c, .int .i64 m.r.B, .bool m.r.S, .slice m.t n m.d]
def flatM (n : Nat) (ms : List MRow) : List Value := ms.flatMap (MRow.cells n)
theorem flatM_len (n : Nat) (ms : List MRow) : (flatM n ms).length = ms.length * 4 := by
  induction ms with
  | nil => rfl
  | cons m ms ih => have : flatM n (m :: ms) = m.cells n ++ flatM n ms := rfl
                    rw [this, List.length_append, ih, List.length_cons]; simp [MRow.cells]; omega
theorem flatM_get {n i : Nat} {m : MRow} (hi : i < 4) : ∀ {ms : List MRow} {k : Nat}, ms[k]? = some m → (flatM n ms)[k * 4 + i]? = (m.cells n)[i]?
  | [], k, h => by simp at h
  | x :: ms, 0, h => by
    have e : flatM n (x :: ms) = x.cells n ++ flatM n ms := rfl
    simp only [List.getElem?_cons_zero, Option.some.injEq] at h
    subst h
    rw [e, Nat.zero_mul, Nat.zero_add, List.getElem?_append_left (by simp [MRow.cells]; omega)]
  | x :: ms, k + 1, h => by
    have e : flatM n (x :: ms) = x.cells n ++ flatM n ms := rfl
    rw [List.getElem?_cons_succ] at h
    rw [e, List.getElem?_append_right (by simp [MRow.cells]; omega)]
    have := flatM_get (n := n) hi h
    rw [← this]
    congr 1
    simp [MRow.cells]; omega
theorem flatM_app (n : Nat) (ms ns : List MRow) : flatM n (ms ++ ns) = flatM n ms ++ flatM n ns := by simp [flatM]
theorem flatM_one (n : Nat) (m : MRow) : flatM n [m] = m.cells n := by simp [flatM]
/-- what a row says is read -/
def MRd (n : Nat) (w : World) (m : MRow) : Prop := Ints w m.a 4 m.r.Z ∧ Ints w m.t n m.r.U
theorem MRd.below {n : Nat} {w w' : World} {m : MRow} (h : MRd n w m) (hb : Below w.heap.size w w') : MRd n w' m := ⟨h.1.below hb, h.2.below hb⟩
def SlM (n : Nat) (w : World) (A : Option Addr) (ms : List MRow) : Prop := ms = [] ∨ ∃ g off, A = some ⟨g, off, none⟩ ∧ g < w.heap.size ∧ ∀ k m, ms[k]? = some m → w.cell? ⟨g, off + k * 4, none⟩ = some (.slice m.a 4 m.c) ∧ w.cell? ⟨g, off + k * 4 + 1, none⟩ = some (.int .i64 m.r.B) ∧ w.cell? ⟨g, off + k * 4 + 2, none⟩ = some (.bool m.r.S) ∧ w.cell? ⟨g, off + k * 4 + 3, none⟩ = some (.slice m.t n m.d)
theorem SlM.below {n : Nat} {w w' : World} {A : Option Addr} {ms : List MRow} (h : SlM n w A ms) (hb : Below w.heap.size w w') : SlM n w' A ms := by
  rcases h with h | ⟨g, off, ha, hg, hc⟩
  · exact .inl h
  · exact .inr ⟨g, off, ha, Nat.lt_of_lt_of_le hg hb.size, fun k p hk => ⟨carry hb (hc k p hk).1, carry hb (hc k p hk).2.1, carry hb (hc k p hk).2.2.1, carry hb (hc k p hk).2.2.2⟩⟩
/-- a block is not that of a row of its own -/
def apA (v : Value) (A : Option Addr) : Prop := ∀ g off, A = some ⟨g, off, none⟩ → v.ownBlock ≠ some g
theorem Ints.growM {w w' : World} {v : Value} {A : Option Addr} {n : Nat} {Z : Nat → Int} (h : Ints w A n Z) (hg : w.grownBy w' v.ownBlock) (ha : apA v A) : Ints w' A n Z := by
  rcases h with h | ⟨g, off, e, hl, hc⟩
  · exact .inl h
  · exact .inr ⟨g, off, e, Nat.lt_of_lt_of_le hl hg.size, fun k hk => hg.cell (hc k hk) (fun e2 => ha g off e e2.symm)⟩
theorem apA_lt {w : World} {lo n m size : Nat} {e : TypeId} {v : Value} {xs : List Value} {A : Option Addr} {Z : Nat → Int} (hn : n ≠ 0) (h : Ints w A n Z) {u : World} (ho : u.ownsRow lo e size v m xs) (hl : w.heap.size ≤ lo) : apA v A := by
  rcases h with h | ⟨g, off, rfl, hg, _⟩
  · exact absurd h hn
  · intro g' off' e1 e2
    injection e1 with e1
    injection e1 with e1 _ _
    subst e1
    have := (ho.lt g e2).1
    omega
theorem apA_new {w : World} {lo m size g : Nat} {e : TypeId} {v : Value} {xs : List Value} (ho : w.ownsRow lo e size v m xs) (hg : w.heap.size ≤ g) : apA v (some ⟨g, 0, none⟩) := by
  intro g' off' e1 e2
  injection e1 with e1
  injection e1 with e1 _ _
  subst e1
  have := (ho.lt g e2).2
  omega
theorem apA.next {w : World} {v v' : Value} {A : Option Addr} (h : apA v A) (hk : v'.ownBlock = v.ownBlock ∨ v'.ownBlock = some w.heap.size) (hA : ∀ g off, A = some ⟨g, off, none⟩ → g < w.heap.size) : apA v' A := by
  intro g off e e2
  rcases hk with hk | hk
  · exact h g off e (hk.symm.trans e2)
  · have := hA g off e
    rw [hk] at e2
    injection e2 with e2
    omega
theorem Ints.ltM {w : World} {A : Option Addr} {n : Nat} {Z : Nat → Int} (hn : n ≠ 0) (h : Ints w A n Z) : ∀ g off, A = some ⟨g, off, none⟩ → g < w.heap.size := by
  intro g off e
  rcases h with h | ⟨g', off', e', hg, _⟩
  · exact absurd h hn
  · rw [e] at e'
    injection e' with e'
    injection e' with e' _ _
    omega
theorem fl_growM {w u w6 : World} {v : Value} (hb : Below w.heap.size w u) (hg : u.grownBy w6 v.ownBlock) (h : ∀ g, v.ownBlock = some g → w.heap.size ≤ g) : Below w.heap.size w w6 :=
  ⟨hg.os.trans hb.os, hg.tape.trans hb.tape, hg.output.trans hb.output, Nat.le_trans hb.size hg.size, fun j hj => (hg.block j (Nat.lt_of_lt_of_le hj hb.size) (fun e => by have := h _ e.symm; omega)).trans (hb.block j hj)⟩
theorem one_mr (n : Nat) (m : MRow) : ∀ u ∈ m.cells n, u.oneCell' = true := fun u hu => by
  simp only [MRow.cells, List.mem_cons, List.not_mem_nil, or_false] at hu
  rcases hu with rfl | rfl | rfl | rfl <;> rfl
theorem news_mr (w : World) (n : Nat) (m : MRow) (t : TypeId) : ∀ j u, (m.cells n)[j]? = some u → (w.alloc (.cells #[.slice m.a 4 m.c, .int .i64 m.r.B, .bool m.r.S, .slice m.t n m.d] t)).cell? ((⟨w.heap.size, 0, none⟩ : Addr).add j) = some u := by
  intro j u hj
  rw [show (⟨w.heap.size, 0, none⟩ : Addr).add j = ⟨w.heap.size, j, none⟩ by unfold Addr.add; split <;> simp_all]
  have hj4 : j < 4 := by
    have := (List.getElem?_eq_some_iff.1 hj).1
    simpa [MRow.cells] using this
  rcases (show j = 0 ∨ j = 1 ∨ j = 2 ∨ j = 3 by omega) with rfl | rfl | rfl | rfl <;> (simp [MRow.cells] at hj; subst hj; simp [go_sem])
/-- what l3Rows answers -/
def MRowsP (w : World) (n : Nat) (L : Lst) (e : Ending) (w' : World) : Prop :=
  ∃ A c ms, e = .returned (.slice A n c) ∧ Below w.heap.size w w' ∧ ms.length = n ∧ SlM n w' A ms ∧ (∀ m ∈ ms, MRd n w' m) ∧ ms.map MRow.r = givenL n L
end Go.Proofs.Ytppiaclpholbfaa

namespace Go.Proofs.Ytppiaclpholbfaa
set_option linter.unusedVariables false
set_option linter.unusedSimpArgs false
open Go.RowKit
def SBothP (w : World) (n : Nat) (r : FRw) (ok : Bool) (e : Ending) (w' : World) : Prop :=
  ∃ A m c b s T t d, e = .returned (.tuple #[.agg #[.slice A m c, .int .i64 b, .bool s, .slice T t d], .bool ok]) ∧ Below w.heap.size w w' ∧ (ok = true → m = 4 ∧ t = n ∧ b = r.B ∧ s = r.S ∧ OwnI w w' A 4 r.Z ∧ OwnI w w' T n r.U)
theorem okU_n {n v : Nat} {a b : FRw} (hn : n ≤ 20) (ha : a.ok n) (hb : b.ok n) : okU n (bothF a b v).U = okU 20 (bothF a b v).U := by
  rw [Bool.eq_iff_iff, okU_iff, okU_iff]
  constructor
  · intro h i hi
    by_cases e : i < n
    · exact h i e
    · show mF a b v * a.U i + nF a b v * b.U i ≤ _
      rw [ha.2.2 i (by omega), hb.2.2 i (by omega)]; simp
  · intro h i hi
    exact h i (by omega)
/-- a loop that appends numbers to the fourth cell of block B -/
def BlU (B : Nat) (w1 : World) (x0 x1 x2 : Value) (U : Nat → Int) (k : Nat) (wr : World) : Prop :=
  ∃ v, Below B w1 wr ∧ wr.ownsRow (B + 1) 3 1 v k (vals k U) ∧ wr.cell? ⟨B, 0, none⟩ = some x0 ∧ wr.cell? ⟨B, 1, none⟩ = some x1 ∧ wr.cell? ⟨B, 2, none⟩ = some x2 ∧ wr.cell? ⟨B, 3, none⟩ = some v ∧ wr.frozen? ⟨B, 3, none⟩ = false
theorem BlU.start (w1 : World) (x0 x1 x2 : Value) (U : Nat → Int) (t : TypeId) : BlU w1.heap.size w1 x0 x1 x2 U 0 (w1.alloc (.cells #[x0, x1, x2, .slice none 0 0] t)) :=
  ⟨_, bal (Below.refl _ _) _, World.ownsRow_nil _ _ _ _, by simp [go_sem], by simp [go_sem], by simp [go_sem], by simp [go_sem], by simp [go_sem]⟩
theorem BlU.step {B k : Nat} {w1 wr w3 : World} {x0 x1 x2 v v' : Value} {U : Nat → Int} (x : Value) (hb : Below B w1 wr) (hBr : B < wr.heap.size) (ho : wr.ownsRow (B + 1) 3 1 v k (vals k U)) (h0 : wr.cell? ⟨B, 0, none⟩ = some x0) (h1 : wr.cell? ⟨B, 1, none⟩ = some x1) (h2 : wr.cell? ⟨B, 2, none⟩ = some x2) (h3 : wr.cell? ⟨B, 3, none⟩ = some v) (hf : wr.frozen? ⟨B, 3, none⟩ = false)
    (hown : w3.ownsRow (B + 1) 3 1 v' (k + 1) (vals k U ++ [.int .i64 (U k)])) (hg : (wr.alloc (.cells #[x] 3)).grownBy w3 v.ownBlock) :
    w3.cell? ⟨B, 3, none⟩ = some v ∧ w3.frozen? ⟨B, 3, none⟩ = false ∧ BlU B w1 x0 x1 x2 U (k + 1) (w3.setCell ⟨B, 3, none⟩ v') := by
  have hne : v.ownBlock ≠ some B := by
    intro he
    have := (ho.lt B he).1
    omega
  have kc : ∀ o u, wr.cell? ⟨B, o, none⟩ = some u → w3.cell? ⟨B, o, none⟩ = some u := fun o u h => hg.cell (a := ⟨B, o, none⟩) (carryA _ h) (Ne.symm hne)
  have blk := hg.block B (by simp; omega) (Ne.symm hne)
  have f3 : w3.frozen? ⟨B, 3, none⟩ = false := by
    rw [World.frozen?_of_block (w := wr.alloc (.cells #[x] 3)) (a := ⟨B, 3, none⟩) blk]
    exact carryAf _ hf hBr
  have b3 : Below B w1 w3 := by
    refine (hb.alloc (by omega) _).grown hg (by simp; omega) ?_
    intro j hj
    have := (ho.lt j hj).1
    omega
  refine ⟨kc 3 _ h3, f3, v', b3.setCell (Nat.le_refl _) _, ?_, ?_, ?_, ?_, World.cell?_setCell_same _ _ _ (kc 3 _ h3), by simpa [go_sem] using f3⟩
  · rw [vals_snoc]; exact ownsRow_setCell_below hown (a := ⟨B, 3, none⟩) (by simp) _
  · rw [World.cell?_setCell_other _ _ _ _ (by simp)]; exact kc 0 _ h0
  · rw [World.cell?_setCell_other _ _ _ _ (by simp)]; exact kc 1 _ h1
  · rw [World.cell?_setCell_other _ _ _ _ (by simp)]; exact kc 2 _ h2
theorem BlU.below {B k : Nat} {w1 wr wr' : World} {x0 x1 x2 : Value} {U : Nat → Int} (h : BlU B w1 x0 x1 x2 U k wr) (hq : Below wr.heap.size wr wr') : BlU B w1 x0 x1 x2 U k wr' := by
  obtain ⟨v, hb, ho, h0, h1, h2, h3, hf⟩ := h
  have hB := cell_lt h0
  exact ⟨v, hb.trans (hq.mono (by have : B < wr.heap.size := hB; omega)), own_below hq ho, carry hq h0, carry hq h1, carry hq h2, carry hq h3, carryf hq hf hB⟩
theorem okU_zero (U : Nat → Int) : okU 0 U = true := okU_iff.2 (fun i hi => absurd hi (by omega))
theorem okU_succ (k : Nat) (U : Nat → Int) : okU (k + 1) U = (okU k U && decide (U k ≤ 1000000)) := by
  rw [Bool.eq_iff_iff, Bool.and_eq_true, okU_iff, okU_iff, decide_eq_true_iff]
  constructor
  · intro h; exact ⟨fun i hi => h i (by omega), h k (by omega)⟩
  · rintro ⟨h1, h2⟩ i hi
    by_cases e : i = k
    · subst e; exact h2
    · exact h1 i (by omega)
end Go.Proofs.Ytppiaclpholbfaa

namespace Go.Proofs.Ytppiaclpholbfaa
set_option linter.unusedVariables false
set_option linter.unusedSimpArgs false
open Go.RowKit
/-- what is appended in the first i rounds, and in the next one up to k -/
def prM (v : Nat) (l : List FRw) (i k : Nat) : List (FRw × FRw) := pairsL (upL v (l.take i)) (loL v l) ++ pairsL (upL v ((l.drop i).take 1)) (loL v (l.take k))
theorem drop_one {α : Type} {l : List α} {i : Nat} {r : α} (h : l[i]? = some r) : (l.drop i).take 1 = [r] := by
  rw [List.take_one, List.head?_drop, h]; rfl
theorem prM_zero (v : Nat) (l : List FRw) : prM v l 0 0 = [] := by
  have : ∀ us : List FRw, pairsL us [] = [] := fun us => by simp [pairsL]
  simp [prM, upL, loL, pairsL]
theorem prM_skip {v i k : Nat} {l : List FRw} {r : FRw} (h : l[i]? = some r) (hz : ¬ 0 < r.Z v) : prM v l i k = prM v l (i + 1) 0 := by
  have e := filter_take (fun r : FRw => decide (0 < r.Z v)) l i r h
  simp only [decide_eq_true_eq] at e
  rw [if_neg hz, List.append_nil] at e
  unfold prM upL
  rw [drop_one h, e]
  simp [pairsL, hz, loL]
theorem prM_next {v i : Nat} {l : List FRw} {r : FRw} (h : l[i]? = some r) (hz : 0 < r.Z v) : prM v l i l.length = prM v l (i + 1) 0 := by
  have e := filter_take (fun r : FRw => decide (0 < r.Z v)) l i r h
  simp only [decide_eq_true_eq] at e
  rw [if_pos hz] at e
  unfold prM upL
  rw [drop_one h, e, pairs_app]
  simp [pairsL, hz, loL]
theorem prM_no {v i k : Nat} {l : List FRw} {q : FRw} (h : l[k]? = some q) (hz : ¬ q.Z v < 0) : prM v l i (k + 1) = prM v l i k := by
  have e := filter_take (fun r : FRw => decide (r.Z v < 0)) l k q h
  simp only [decide_eq_true_eq] at e
  rw [if_neg hz, List.append_nil] at e
  unfold prM
  rw [show loL v (l.take (k + 1)) = loL v (l.take k) from e]
theorem prM_yes {v i k : Nat} {l : List FRw} {r q : FRw} (hi : l[i]? = some r) (hr : 0 < r.Z v) (h : l[k]? = some q) (hz : q.Z v < 0) : prM v l i (k + 1) = prM v l i k ++ [(r, q)] := by
  have e := filter_take (fun r : FRw => decide (r.Z v < 0)) l k q h
  simp only [decide_eq_true_eq] at e
  rw [if_pos hz] at e
  unfold prM
  rw [show loL v (l.take (k + 1)) = loL v (l.take k) ++ [q] from e, drop_one hi, show upL v [r] = [r] by simp [upL, hr], pairs_one, pairs_one]
  simp
theorem prM_end (v : Nat) (l : List FRw) : prM v l l.length 0 = pairsL (upL v l) (loL v l) := by
  simp [prM, upL, loL, pairsL]
theorem prM_le {v i k : Nat} {l : List FRw} {r q : FRw} (hi : l[i]? = some r) (hr : 0 < r.Z v) (h : l[k]? = some q) (hz : q.Z v < 0) : (prM v l i k).length + 1 ≤ (upL v l).length * (loL v l).length := by
  have e1 : upL v l = upL v (l.take i) ++ upL v (l.drop i) := by unfold upL; rw [← List.filter_append, List.take_append_drop]
  have e2 : loL v l = loL v (l.take k) ++ loL v (l.drop k) := by unfold loL; rw [← List.filter_append, List.take_append_drop]
  have h1 : r ∈ upL v (l.drop i) := by
    unfold upL
    refine List.mem_filter.2 ⟨List.mem_iff_getElem?.2 ⟨0, by rw [List.getElem?_drop]; simpa using hi⟩, by simpa using hr⟩
  have h2 : q ∈ loL v (l.drop k) := by
    unfold loL
    refine List.mem_filter.2 ⟨List.mem_iff_getElem?.2 ⟨0, by rw [List.getElem?_drop]; simpa using h⟩, by simpa using hz⟩
  have p1 := List.length_pos_of_mem h1
  have p2 := List.length_pos_of_mem h2
  have l1 : (upL v l).length = (upL v (l.take i)).length + (upL v (l.drop i)).length := by rw [e1, List.length_append]
  have l2 : (loL v l).length = (loL v (l.take k)).length + (loL v (l.drop k)).length := by rw [e2, List.length_append]
  have l3 : (prM v l i k).length = (upL v (l.take i)).length * (loL v l).length + (loL v (l.take k)).length := by
    unfold prM
    rw [drop_one hi, show upL v [r] = [r] by simp [upL, hr], List.length_append, pairs_len, pairs_len, List.length_singleton, Nat.one_mul]
  have m1 := Nat.mul_le_mul_right (loL v l).length (show (upL v (l.take i)).length + 1 ≤ (upL v l).length by omega)
  rw [Nat.succ_mul] at m1
  omega
theorem dropOk_a {v i k : Nat} {l : List FRw} {r q : FRw} (hi : l[i]? = some r) (hr : 0 < r.Z v) (h : l[k]? = some q) (hz : q.Z v < 0) (hf : okF r q v = false) : dropOk v l = false := by
  unfold dropOk okP
  rw [Bool.and_eq_false_iff]
  right
  rw [List.all_eq_false]
  refine ⟨(r, q), ?_, by simpa using hf⟩
  simp only [pairsL, List.mem_flatMap, List.mem_map]
  exact ⟨r, List.mem_filter.2 ⟨List.mem_of_getElem? hi, by simpa using hr⟩, q, List.mem_filter.2 ⟨List.mem_of_getElem? h, by simpa using hz⟩, rfl⟩
theorem dropOk_b {v i k : Nat} {l : List FRw} {r q : FRw} (hi : l[i]? = some r) (hr : 0 < r.Z v) (h : l[k]? = some q) (hz : q.Z v < 0) (hf : 200 ≤ (restL v l).length + (prM v l i k).length) : dropOk v l = false := by
  unfold dropOk
  have := prM_le hi hr h hz
  rw [decide_eq_false (by omega), Bool.false_and]
def SDropP (w : World) (n v : Nat) (l : List FRw) (e : Ending) (w' : World) : Prop :=
  ∃ A m c qs, e = .returned (.tuple #[.slice A m c, .bool (dropOk v l)]) ∧ Below w.heap.size w w' ∧ (dropOk v l = true → m = qs.length ∧ SlM n w' A qs ∧ (∀ q ∈ qs, MRd n w' q) ∧ qs.map MRow.r = dropL v l)
theorem SDropP.no {w w' : World} {n v m c : Nat} {A : Option Addr} {l : List FRw} (h : dropOk v l = false) (hb : Below w.heap.size w w') : SDropP w n v l (.returned (.tuple #[.slice A m c, .bool false])) w' :=
  ⟨A, m, c, [], by rw [h], hb, fun e => by rw [h] at e; cases e⟩
theorem SDropP.yes {w w' : World} {n v m c : Nat} {A : Option Addr} {l : List FRw} {qs : List MRow} (h : dropOk v l = true) (hb : Below w.heap.size w w') (hm : m = qs.length) (hs : SlM n w' A qs) (hr : ∀ q ∈ qs, MRd n w' q) (hd : qs.map MRow.r = dropL v l) : SDropP w n v l (.returned (.tuple #[.slice A m c, .bool true])) w' :=
  ⟨A, m, c, qs, by rw [h], hb, fun _ => ⟨hm, hs, hr, hd⟩⟩
/-- rows that are read and lie apart from a row of its own -/
def Aps (n : Nat) (w : World) (v : Value) (ys : List MRow) : Prop := ∀ m ∈ ys, MRd n w m ∧ apA v m.a ∧ apA v m.t
theorem Aps.below {n : Nat} {w w' : World} {v : Value} {ys : List MRow} (h : Aps n w v ys) (hb : Below w.heap.size w w') : Aps n w' v ys := fun m hm => ⟨(h m hm).1.below hb, (h m hm).2⟩
theorem Aps.app {n : Nat} {w : World} {v : Value} {ys zs : List MRow} (h : Aps n w v ys) (k : Aps n w v zs) : Aps n w v (ys ++ zs) := fun m hm => (List.mem_append.1 hm).elim (h m) (k m)
theorem Aps.grow {n : Nat} {w w' : World} {v v' : Value} {ys : List MRow} (hn : n ≠ 0) (h : Aps n w v ys) (hg : w.grownBy w' v.ownBlock) (hk : v'.ownBlock = v.ownBlock ∨ v'.ownBlock = some w.heap.size) : Aps n w' v' ys := fun m hm => by
  obtain ⟨h1, h2, h3⟩ := h m hm
  exact ⟨⟨h1.1.growM hg h2, h1.2.growM hg h3⟩, h2.next hk (h1.1.ltM (by omega)), h3.next hk (h1.2.ltM hn)⟩
theorem sl_of {w : World} {lo k size : Nat} {e : TypeId} {v : Value} {xs : List Value} (h : w.ownsRow lo e size v k xs) : ∃ a c, v = .slice a k c := own_slice h
theorem OwnI.apA {W w u : World} {A : Option Addr} {n lo k size : Nat} {Z : Nat → Int} {e : TypeId} {v : Value} {xs : List Value} (hn : n ≠ 0) (h : OwnI W w A n Z) (ho : u.ownsRow lo e size v k xs) (hz : u.heap.size ≤ W.heap.size) : apA v A := by
  rcases h with h | ⟨g, rfl, hg, _⟩
  · exact absurd h hn
  · exact apA_new ho (by omega)
end Go.Proofs.Ytppiaclpholbfaa

namespace Go.Proofs.Ytppiaclpholbfaa
set_option linter.unusedVariables false
set_option linter.unusedSimpArgs false
open Go.RowKit
theorem grownBy_setCell4 (w : World) (b : Nat) (x0 x1 x2 x3 : Value) : w.grownBy ((((w.setCell ⟨b, 0, none⟩ x0).setCell ⟨b, 1, none⟩ x1).setCell ⟨b, 2, none⟩ x2).setCell ⟨b, 3, none⟩ x3) (some b) :=
  grow_trans (grow_trans (grow_trans (grow_set w b 0 x0) (grow_set _ b 1 x1)) (grow_set _ b 2 x2)) (grow_set _ b 3 x3)
theorem plan_store4 {P : Program} {ops : Array Oper} {l : List Oper} {K : Act → World → Prop} {W w : World} {a : Act} {m : Nat} {k : Pl} {om : Oper} (hl : l[m]? = some om) (hg : om.guard = none) (ty : TypeId) (x y : Operand) (ho : om.op = .store ty x y) (b : Nat) (x0 x1 x2 x3 : Value) (hx : a.eval x = .pointer (some ⟨b, 0, none⟩)) (hy : a.eval y = .agg #[x0, x1, x2, x3])
    (ht : w.there b 0 4) (hi : (P.info? ty).map (·.size) = some 4) (h1 : (#[x0, x1, x2, x3] : Array Value).all (·.oneCell') = true) (hB : Below W.heap.size W w) (hb : W.heap.size ≤ b)
    (hk : ∀ w', w.grownBy w' (some b) → Below W.heap.size W w' → KcL [(b, 0, x0), (b, 1, x1), (b, 2, x2), (b, 3, x3)] w' → ObPl P ops (fun w' => ∃ X, w' = gro W X) l K k (a.put om.dst undef) w') : ObPl P ops (fun w' => ∃ X, w' = gro W X) l K (.make m k) a w := by
  refine ⟨om, hl, .inl ⟨wanted_none hg, ?_⟩⟩
  have e : (execOp a.eval om).run P w = .ok .skip (w.setCells b 0 [x0, x1, x2, x3]) := by
    unfold execOp
    simp only [ho, hx, hy, Instr.storeAt, Instr.sureAddr, Sem.run_bind, Sem.run_pure, Result.andThen_ok, run_storeVar_mid w b 0 ty #[x0, x1, x2, x3] ht hi h1]
  rw [e]
  obtain ⟨u0, e0⟩ := Option.isSome_iff_exists.1 (ht 0 (by omega)).1
  obtain ⟨u1, e1⟩ := Option.isSome_iff_exists.1 (ht 1 (by omega)).1
  obtain ⟨u2, e2⟩ := Option.isSome_iff_exists.1 (ht 2 (by omega)).1
  obtain ⟨u3, e3⟩ := Option.isSome_iff_exists.1 (ht 3 (by omega)).1
  obtain ⟨t0, t1, t2, t3⟩ := set4 e0 e1 e2 e3 x0 x1 x2 x3
  have hBb : Below W.heap.size W (w.setCells b 0 [x0, x1, x2, x3]) := bst (bst (bst (bst hB hb x0) hb x1) hb x2) hb x3
  exact ⟨⟨⟨_, hBb⟩, rfl⟩, hk _ (grownBy_setCell4 w b x0 x1 x2 x3) hBb ⟨t0, t1, t2, t3, trivial⟩⟩
theorem there_new4 (w : World) (x y z u : Value) (t : TypeId) : (w.alloc (.cells #[x, y, z, u] t)).there w.heap.size 0 4 := by
  intro j hj
  match j, hj with
  | 0, _ => simp [go_sem]
  | 1, _ => simp [go_sem]
  | 2, _ => simp [go_sem]
  | 3, _ => simp [go_sem]
theorem there_below4 {w w' : World} {b : Nat} (hq : Below w.heap.size w w') (hb : b < w.heap.size) (h : w.there b 0 4) : w'.there b 0 4 := fun j hj => by
  rw [hq.cell (p := ⟨b, 0 + j, none⟩) hb, hq.frozen (p := ⟨b, 0 + j, none⟩) hb]; exact h j hj
end Go.Proofs.Ytppiaclpholbfaa

namespace Go.Proofs.Ytppiaclpholbfaa
set_option linter.unusedVariables false
set_option linter.unusedSimpArgs false
open Go.RowKit
/-- a row of numbers in a block below hi -/
def IntH (hi : Nat) (w : World) (A : Option Addr) (n : Nat) (Z : Nat → Int) : Prop := n = 0 ∨ ∃ g off, A = some ⟨g, off, none⟩ ∧ g < hi ∧ ∀ k, k < n → w.cell? ⟨g, off + k, none⟩ = some (.int .i64 (Z k))
/-- a list of constraints in blocks below hi -/
def LsW (hi : Nat) (w : World) (A : Option Addr) (n : Nat) (L : Lst) : Prop :=
  n = 0 ∨ ∃ g off, A = some ⟨g, off, none⟩ ∧ g < hi ∧ ∀ k, k < n → ∃ a c, w.cell? ⟨g, off + k * 3, none⟩ = some (.slice a (L.N k) c) ∧ w.cell? ⟨g, off + k * 3 + 1, none⟩ = some (.int .i64 (L.B k)) ∧ w.cell? ⟨g, off + k * 3 + 2, none⟩ = some (.bool (L.S k)) ∧ L.N k ≤ 9223372036854775807 ∧ IntH hi w a (L.N k) (L.Z k)
theorem LsW.wrt {hi lo' hi' : Nat} {w w' : World} {A : Option Addr} {n : Nat} {L : Lst} (h : LsW hi w A n L) (hg : Wrt lo' hi' w w') (hd : hi ≤ lo') : LsW hi w' A n L := by
  rcases h with h | ⟨g, off, ha, h1, hc⟩
  · exact .inl h
  · refine .inr ⟨g, off, ha, h1, fun k hk => ?_⟩
    obtain ⟨a, c, c0, c1, c2, c3, c4⟩ := hc k hk
    refine ⟨a, c, hg.cell c0 (.inl (by omega)), hg.cell c1 (.inl (by omega)), hg.cell c2 (.inl (by omega)), c3, ?_⟩
    rcases c4 with h | ⟨g', off', ha', h1', hc'⟩
    · exact .inl h
    · exact .inr ⟨g', off', ha', h1', fun j hj => hg.cell (hc' j hj) (.inl (by omega))⟩
theorem LsW.below {hi : Nat} {w w' : World} {A : Option Addr} {n : Nat} {L : Lst} (h : LsW hi w A n L) (hb : Below w.heap.size w w') : LsW hi w' A n L := by
  rcases h with h | ⟨g, off, ha, h1, hc⟩
  · exact .inl h
  · refine .inr ⟨g, off, ha, h1, fun k hk => ?_⟩
    obtain ⟨a, c, c0, c1, c2, c3, c4⟩ := hc k hk
    refine ⟨a, c, carry hb c0, carry hb c1, carry hb c2, c3, ?_⟩
    rcases c4 with h | ⟨g', off', ha', h1', hc'⟩
    · exact .inl h
    · exact .inr ⟨g', off', ha', h1', fun j hj => carry hb (hc' j hj)⟩
theorem LsW.lins {hi : Nat} {w : World} {A : Option Addr} {n : Nat} {L : Lst} (h : LsW hi w A n L) : Lins w A n L := by
  rcases h with h | ⟨g, off, ha, h1, hc⟩
  · exact .inl h
  · by_cases h0 : n = 0
    · exact .inl h0
    · refine .inr ⟨g, off, ha, ?_, fun k hk => ?_⟩
      · obtain ⟨a, c, c0, _⟩ := hc 0 (by omega)
        exact cell_lt c0
      · obtain ⟨a, c, c0, c1, c2, c3, c4⟩ := hc k hk
        refine ⟨a, c, c0, c1, c2, c3, ?_⟩
        rcases c4 with h | ⟨g', off', ha', h1', hc'⟩
        · exact .inl h
        · by_cases h0' : L.N k = 0
          · exact .inl h0'
          · exact .inr ⟨g', off', ha', cell_lt (hc' 0 (by omega)), hc'⟩
/-- what the model's FarLess answers -/
def SLessP (w : World) (r : List FRw × Bool) (e : Ending) (w' : World) : Prop :=
  ∃ A m c, e = .returned (.tuple #[.slice A m c, .bool r.2]) ∧ m = r.1.length ∧ Below w.heap.size w w' ∧ LsW w'.heap.size w' A m (lstF r.1)
theorem SLessP.no {w w' : World} {r : List FRw × Bool} {A : Option Addr} {c : Nat} (h : r = ([], false)) (hb : Below w.heap.size w w') : SLessP w r (.returned (.tuple #[.slice A 0 c, .bool false])) w' := by
  subst h; exact ⟨A, 0, c, rfl, rfl, hb, .inl rfl⟩
theorem SLessP.yes {w w' : World} {r : List FRw × Bool} {l : List FRw} {A : Option Addr} {m c : Nat} (h : r = (l, true)) (hm : m = l.length) (hb : Below w.heap.size w w') (hl : LsW w'.heap.size w' A m (lstF l)) : SLessP w r (.returned (.tuple #[.slice A m c, .bool true])) w' := by
  subst h; exact ⟨A, m, c, rfl, hm, hb, hl⟩
def MRow.cells3 (m : MRow) : List Value := [.slice m.a 4 m.c, .int .i64 m.r.B, .bool m.r.S]
def flat3 (ms : List MRow) : List Value := ms.flatMap MRow.cells3
theorem flat3_len (ms : List MRow) : (flat3 ms).length = ms.length * 3 := by
  induction ms with
  | nil => rfl
  | cons m ms ih => have : flat3 (m :: ms) = m.cells3 ++ flat3 ms := rfl
                    rw [this, List.length_append, ih, List.length_cons]; simp [MRow.cells3]; omega
theorem flat3_get {i : Nat} {m : MRow} (hi : i < 3) : ∀ {ms : List MRow} {k : Nat}, ms[k]? = some m → (flat3 ms)[k * 3 + i]? = m.cells3[i]?
  | [], k, h => by simp at h
  | x :: ms, 0, h => by
    have e : flat3 (x :: ms) = x.cells3 ++ flat3 ms := rfl
    simp only [List.getElem?_cons_zero, Option.some.injEq] at h
    subst h
    rw [e, Nat.zero_mul, Nat.zero_add, List.getElem?_append_left (by simp [MRow.cells3]; omega)]
  | x :: ms, k + 1, h => by
    have e : flat3 (x :: ms) = x.cells3 ++ flat3 ms := rfl
    rw [List.getElem?_cons_succ] at h
    rw [e, List.getElem?_append_right (by simp [MRow.cells3]; omega)]
    have := flat3_get hi h
    rw [← this]
    congr 1
    simp [MRow.cells3]; omega
theorem flat3_app (ms ns : List MRow) : flat3 (ms ++ ns) = flat3 ms ++ flat3 ns := by simp [flat3]
theorem flat3_one (m : MRow) : flat3 [m] = m.cells3 := by simp [flat3]
theorem Ints.toH {w : World} {A : Option Addr} {n : Nat} {Z : Nat → Int} (h : Ints w A n Z) : IntH w.heap.size w A n Z := h
theorem own_lsW {w : World} {lo c : Nat} {a : Option Addr} {ms : List MRow} (h : w.ownsRow lo 25 3 (.slice a ms.length c) ms.length (flat3 ms)) (hm : ∀ m ∈ ms, Ints w m.a 4 m.r.Z) : LsW w.heap.size w a ms.length (lstF (ms.map MRow.r)) := by
  have hc := fun g hg => h.cells (g := g) hg
  obtain ⟨_, ⟨e, h0⟩ | ⟨g, cap, cur, e, _, hh, _⟩⟩ := h
  · exact .inl h0
  · injection e with e _ _
    subst e
    refine .inr ⟨g, 0, rfl, (Array.getElem?_eq_some_iff.1 hh).1, fun k hk => ?_⟩
    obtain ⟨m, hm'⟩ : ∃ m, ms[k]? = some m := ⟨_, List.getElem?_eq_getElem hk⟩
    have hx : ∀ i x, i < 3 → m.cells3[i]? = some x → w.cell? ⟨g, 0 + (k * 3 + i), none⟩ = some x := fun i x hi hx => by
      have := hc g rfl (k * 3 + i) x (by rw [flat3_get hi hm']; exact hx)
      rw [show (⟨g, 0, none⟩ : Addr).add (k * 3 + i) = ⟨g, 0 + (k * 3 + i), none⟩ by unfold Addr.add; split <;> simp_all] at this
      exact this
    obtain ⟨h1, h2, h3, h4⟩ := lstF_at (l := ms.map MRow.r) (k := k) (r := m.r) (by rw [List.getElem?_map, hm']; rfl)
    rw [h1, h2, h3, h4]
    exact ⟨m.a, m.c, hx 0 _ (by omega) rfl, hx 1 _ (by omega) rfl, hx 2 _ (by omega) rfl, by omega, (hm m (List.mem_of_getElem? hm')).toH⟩
theorem one_l3 (m : MRow) : ∀ u ∈ m.cells3, u.oneCell' = true := fun u hu => by
  simp only [MRow.cells3, List.mem_cons, List.not_mem_nil, or_false] at hu
  rcases hu with rfl | rfl | rfl <;> rfl
theorem news_l3 (w : World) (m : MRow) (t : TypeId) : ∀ j u, m.cells3[j]? = some u → (w.alloc (.cells #[.slice m.a 4 m.c, .int .i64 m.r.B, .bool m.r.S] t)).cell? ((⟨w.heap.size, 0, none⟩ : Addr).add j) = some u := by
  intro j u hj
  rw [show (⟨w.heap.size, 0, none⟩ : Addr).add j = ⟨w.heap.size, j, none⟩ by unfold Addr.add; split <;> simp_all]
  have hj4 : j < 3 := by
    have := (List.getElem?_eq_some_iff.1 hj).1
    simpa [MRow.cells3] using this
  rcases (show j = 0 ∨ j = 1 ∨ j = 2 by omega) with rfl | rfl | rfl <;> (simp [MRow.cells3] at hj; subst hj; simp [go_sem])
theorem plan_app {P : Program} {ops : Array Oper} {l : List Oper} {K : Act → World → Prop} {W w w'' : World} {a : Act} {m : Nat} {k : Pl} {om : Oper} (hl : l[m]? = some om) (hg : om.guard = none) (s x : Operand) (t : TypeId) (ho : om.op = .call { callee := .builtin .append, args := #[s, x], argTypes := #[t, t] }) (v : Value)
    (hr : (Builtin.append_ #[t, t] om.type #[a.eval s, a.eval x]).run P w = .ok v w'') (hb : Below W.heap.size W w'')
    (hk : ObPl P ops (fun w' => ∃ X, w' = gro W X) l K k (a.put om.dst v) w'') : ObPl P ops (fun w' => ∃ X, w' = gro W X) l K (.make m k) a w :=
  plan_val hl hg v (by
    unfold execOp
    simp only [ho, resolve, invoke, builtin, Sem.run_bind, Sem.run_pure, Result.andThen_ok, List.map_toArray, List.map_cons, List.map_nil, hr]) hb hk
/-- append([]int{}, s...) of four numbers: a copy in new memory -/
theorem app_copy4 (w : World) (g : Nat) (A : Option Addr) (c : Nat) (Z : Nat → Int) (hg : w.heap[g]? = some (.cells #[] 3 (0, 0))) (hA : Ints w A 4 Z) (ty : TypeId) (lo : Nat) (hlo : lo ≤ g) :
    ∃ B d w', (Builtin.append_ #[23, 23] ty #[.slice (some ⟨g, 0, none⟩) 0 0, .slice A 4 c]).run Try.prog w = .ok (.slice B 4 d) w' ∧ Ints w' B 4 Z ∧ w.grownBy w' (some g) ∧ (∀ b off, B = some ⟨b, off, none⟩ → b = g ∨ b = w.heap.size) := by
  obtain ⟨i0, hi, hz0, hz1, hz2⟩ := info_parts infoI
  have ho : w.ownsRow lo 3 1 (.slice (some ⟨g, 0, none⟩) 0 0) 0 [] := ⟨rfl, .inr ⟨g, 0, #[], rfl, hlo, hg, Nat.le_refl _, by decide, rfl, rfl⟩⟩
  rcases hA with h0 | ⟨ga, oa, rfl, hga, hc⟩
  · omega
  have hnews : ∀ j u, (vals 4 Z)[j]? = some u → w.cell? ((⟨ga, oa, none⟩ : Addr).add j) = some u := by
    intro j u hj
    have hj4 : j < 4 := by
      have h1 := (List.getElem?_eq_some_iff.1 hj).1
      unfold vals at h1
      rw [List.length_map, List.length_range] at h1
      exact h1
    have hu : u = .int .i64 (Z j) := by
      have h2 := (vals_at (Z := Z) hj4).symm.trans hj
      exact (Option.some.inj h2).symm
    rw [hu]
    clear hj hu
    rw [show (⟨ga, oa, none⟩ : Addr).add j = ⟨ga, oa + j, none⟩ by unfold Addr.add; split <;> simp_all]
    exact hc j hj4
  have hone : ∀ u ∈ vals 4 Z, u.oneCell' = true := fun u hu => by
    simp only [vals, List.mem_map] at hu
    obtain ⟨j, _, rfl⟩ := hu
    rfl
  obtain ⟨v', w', hr, hown, hgrow, _, hblk⟩ := run_append_own_at (P := Try.prog) w lo 23 ty 3 i0 (.int .i64 0) 1 8 Try.underlying23 hi hz0 hz1 hz2 rfl (by decide) (.slice (some ⟨g, 0, none⟩) 0 0) 0 [] ho ⟨ga, oa, none⟩ 4 c (vals 4 Z) (by unfold vals; rw [List.length_map, List.length_range]) hnews hone (by decide) (by decide) (by have := (Array.getElem?_eq_some_iff.1 hg).1; omega)
  rw [List.nil_append] at hown
  obtain ⟨B, d, rfl⟩ := own_slice hown
  refine ⟨B, d, w', hr, ?_, hgrow, fun b off e => ?_⟩
  · obtain ⟨A', c', e, _, _, hO⟩ := own_new (W := { w with heap := #[] }) (by omega) (Nat.zero_le _) hown
    injection e with e _ _
    subst e
    exact hO.ints
  · subst e
    rcases hblk with h | h
    · exact .inl (Option.some.inj h)
    · exact .inr (Option.some.inj h)
end Go.Proofs.Ytppiaclpholbfaa

namespace Go.Proofs.Ytppiaclpholbfaa
set_option linter.unusedVariables false
set_option linter.unusedSimpArgs false
open Go.RowKit
theorem below_growK {b : Nat} {w w' w'' : World} {r : Option Nat} (h : Below b w w') (hg : w'.grownBy w'' r) (hr : ∀ k, r = some k → b ≤ k) (hbw : b ≤ w.heap.size) : Below b w w'' :=
  ⟨hg.os.trans h.os, hg.tape.trans h.tape, hg.output.trans h.output, Nat.le_trans h.size hg.size, fun i hi => (hg.block i (Nat.lt_of_lt_of_le (Nat.lt_of_lt_of_le hi hbw) h.size) (fun e => by have := hr i e.symm; omega)).trans (h.block i hi)⟩
/-- what is read stays -/
def Kc (w w' : World) : Prop := ∀ b o v, w.cell? ⟨b, o, none⟩ = some v → w'.cell? ⟨b, o, none⟩ = some v
theorem Kc.ints {w w' : World} (h : Kc w w') {A : Option Addr} {n : Nat} {Z : Nat → Int} (hn : n ≠ 0) (hA : Ints w A n Z) : Ints w' A n Z := by
  rcases hA with h0 | ⟨g, off, ha, hg, hc⟩
  · exact absurd h0 hn
  · exact .inr ⟨g, off, ha, cell_lt (h _ _ _ (hc 0 (by omega))), fun k hk => h _ _ _ (hc k hk)⟩
def NoC (w : World) (v : Value) : Prop := ∀ g, v.ownBlock = some g → ∀ o, w.cell? ⟨g, o, none⟩ = none
theorem NoC.nil {w : World} {lo g : Nat} {e : TypeId} {xs : List Value} (h : w.ownsRow lo e 3 (.slice (some ⟨g, 0, none⟩) 0 0) 0 xs) : NoC w (.slice (some ⟨g, 0, none⟩) 0 0) := by
  intro g' hg' o
  simp only [Value.ownBlock, Option.some.injEq] at hg'
  subst hg'
  obtain ⟨_, ⟨e, _⟩ | ⟨g2, cap, cur, e, _, hh, _, _, hs, _⟩⟩ := h
  · cases e
  · injection e with e1 e2 e3
    injection e1 with e1
    injection e1 with e1 _ _
    subst e1
    subst e3
    have : cur = #[] := Array.size_eq_zero_iff.1 (by omega)
    subst this
    simp [World.cell?, hh]
theorem NoC.next {w wr : World} {v v' : Value} (h : NoC w v) (hk : v'.ownBlock = v.ownBlock ∨ v'.ownBlock = some wr.heap.size) (hz : w.heap.size ≤ wr.heap.size) : NoC w v' := by
  intro g hg o
  rcases hk with hk | hk
  · exact h g (hk.symm.trans hg) o
  · rw [hk] at hg
    injection hg with hg
    cases e : w.cell? ⟨g, o, none⟩ with
    | none => rfl
    | some x => have h1 : g < w.heap.size := cell_lt e
                omega
theorem Kc.step {w wr u w5 : World} {v : Value} (h : Kc w wr) (hb : Below wr.heap.size wr u) (hg : u.grownBy w5 v.ownBlock) (hn : NoC w v) : Kc w w5 := fun b o x hx =>
  hg.cell (carry hb (h b o x hx)) (fun e => by rw [hn b e.symm o] at hx; cases hx)
end Go.Proofs.Ytppiaclpholbfaa

namespace Go.Proofs.Ytppiaclpholbfaa
set_option linter.unusedVariables false
set_option linter.unusedSimpArgs false
open Go.RowKit
end Go.Proofs.Ytppiaclpholbfaa

namespace Go.Proofs.Ytppiaclpholbfaa
set_option linter.unusedVariables false
set_option linter.unusedSimpArgs false
open Go.RowKit
theorem LsB.wider {lo hi lo' hi' : Nat} {w : World} {A : Option Addr} {n : Nat} {L : Lst} (h : LsB lo hi w A n L) (h1 : lo' ≤ lo) (h2 : hi ≤ hi') : LsB lo' hi' w A n L := by
  obtain ⟨g, LA, LC, ha, g1, g2, hr, hc, hx, hy⟩ := h
  exact ⟨g, LA, LC, ha, by omega, by omega, hr, fun k hk => ⟨(hc k hk).1, (hc k hk).2.1, (hc k hk).2.2.wider h1 h2⟩, hx, hy⟩
/-- nothing, or a list in blocks of [lo, hi) -/
def LsO (lo hi : Nat) (w : World) (A : Option Addr) (n : Nat) (L : Lst) : Prop := n = 0 ∨ LsB lo hi w A n L
theorem LsO.below {lo hi : Nat} {w w' : World} {A : Option Addr} {n : Nat} {L : Lst} (h : LsO lo hi w A n L) (hb : Below w.heap.size w w') : LsO lo hi w' A n L := h.imp id (fun h => h.below hb)
theorem LsO.wrt {lo hi lo' hi' : Nat} {w w' : World} {A : Option Addr} {n : Nat} {L : Lst} (h : LsO lo hi w A n L) (hg : Wrt lo' hi' w w') (hd : hi ≤ lo' ∨ hi' ≤ lo) : LsO lo hi w' A n L := h.imp id (fun h => h.wrt hg hd)
theorem LsO.lins {lo hi : Nat} {w : World} {A : Option Addr} {n : Nat} {L : Lst} (h : LsO lo hi w A n L) (hN : ∀ k, k < n → L.N k ≤ 1048576) : Lins w A n L := h.elim .inl (fun h => h.lins hN)
theorem lstF_n (l : List FRw) : ∀ k, k < l.length → (lstF l).N k ≤ 1048576 := fun k _ => (show (4 : Nat) ≤ 1048576 by omega)
end Go.Proofs.Ytppiaclpholbfaa
