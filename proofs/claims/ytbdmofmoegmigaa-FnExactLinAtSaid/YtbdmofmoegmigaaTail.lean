/- A region that draws its order: a head of operations that are quiet in a class of worlds, behind it a tail that comes in one order. One walk of the text's order serves every order. -/
import Derived.Test.YtbdmofmoegmigaaBase
import Derived.StillTail
namespace Go.Proofs.Ytbdmofmoegmigaa
set_option linter.unusedVariables false
set_option linter.unusedSimpArgs false
open Go.RowKit
section
variable {P : Program} {md : Region.Mode} {ops : Array Oper} {C : World → Prop} {n g : Nat}
/-- the head in whatever order is picked; L is asked when f operations have come -/
def HeadQ (P : Program) (md : Region.Mode) (ops : Array Oper) (C : World → Prop) (n : Nat) (L : Array Bool → Act → Prop) : Nat → Array Bool → Act → Prop
  | 0 => L
  | f + 1 => fun s a => Region.ready md ops s ≠ [] ∧ ∀ i, i ∈ Region.ready md ops s → i < n ∧ qOp P ops C i (HeadQ P md ops C n L f (s.setIfInBounds i true)) a
theorem headQ_any {L : Array Bool → Act → Prop} {Q : Exit → Act → World → Prop} (hL : ∀ s a w, C w → L s a → wpAny P md ops Q g s a w) (f : Nat) :
    ∀ s a w, C w → HeadQ P md ops C n L f s a → wpAny P md ops Q (f + g) s a w := by
  induction f with
  | zero => intro s a w hw h; rw [Nat.zero_add]; exact hL s a w hw h
  | succ f ih =>
    intro s a w hw h
    rw [Nat.succ_add]
    exact ⟨fun h0 => (h.1 h0).elim, fun i hi => wpOp_of_qOp hw (fun a' w' hw' k => ih _ a' w' hw' k) (h.2 i hi).2⟩
/-- what is known of a state of the head in which operation i may come first -/
structure May (P : Program) (md : Region.Mode) (ops : Array Oper) (C : World → Prop) (n i : Nat) (oi : Oper) (v : Value) (s : Array Bool) (a : Act) : Prop where
  inv : HeadInv md ops n s
  free : ∀ j oj, ops[j]? = some oj → j ≠ i → s.getD j true = false → (∀ e ∈ oj.after, Region.binds md e = true → e.on ≠ i) → oi.apart ops oj = true
  here : i ∈ Region.ready md ops s
  gives : YieldsIn P ops C oi v a
theorem May.lt {i : Nat} {oi : Oper} {v : Value} {s : Array Bool} {a : Act} (m : May P md ops C n i oi v s a) (hs : Region.sinkB md ops n = true) (hc : Region.chainB md ops n = true) (hn : n < ops.size) (hin : i < n) {j : Nat} (hj : j ∈ Region.ready md ops s) : j < n := by
  refine Nat.lt_of_not_le fun h => ?_
  exact tail_waits hs hc hn m.inv (n - i) i rfl hin (mem_ready.1 m.here).1 j h hj
theorem headQ_first {i : Nat} {oi : Oper} {v : Value} {L : Array Bool → Act → Prop} (hi : ops[i]? = some oi) (hsel : Region.noSelect ops = true)
    (hs : Region.sinkB md ops n = true) (hc : Region.chainB md ops n = true) (hn : n < ops.size) (hin : i < n) (hL : ∀ s a, L s a → ∀ j, j ∈ Region.ready md ops s → n ≤ j) (f : Nat) :
    ∀ s a, May P md ops C n i oi v s a → HeadQ P md ops C n L f (s.setIfInBounds i true) (a.put oi.dst v) → HeadQ P md ops C n L (f + 1) s a := by
  have sel := Region.noSelect_spec hsel
  induction f with
  | zero =>
    intro s a m H
    refine ⟨List.ne_nil_of_mem m.here, fun j hj => ⟨m.lt hs hc hn hin hj, ?_⟩⟩
    rcases Decidable.em (j = i) with rfl | hji
    · exact m.gives.qOp hi H
    · have h1 := hL _ _ H j (ready_mono hj hji)
      have h2 := m.lt hs hc hn hin hj
      omega
  | succ f ih =>
    intro s a m H
    refine ⟨List.ne_nil_of_mem m.here, fun j hj => ⟨m.lt hs hc hn hin hj, ?_⟩⟩
    rcases Decidable.em (j = i) with rfl | hji
    · exact m.gives.qOp hi H
    obtain ⟨un, oj, hoj, after⟩ := mem_ready.1 hj
    have apart := m.free j oj hoj hji un fun e he hb heq => by
      have := after e he hb
      rw [heq, getD_both (mem_ready.1 m.here).1] at this
      cases this
    refine qOp_mono ?_ (qOp_put hoj apart (fun cs b => sel i oi cs b hi) (fun cs b => sel j oj cs b hoj) m.gives (H.2 j (ready_mono hj hji)).2)
    rintro a' ⟨hy, hk⟩
    refine ih _ a' ⟨m.inv.set hj (m.lt hs hc hn hin hj), fun k ok hk hki unk no => ?_, ready_mono m.here (Ne.symm hji), hy⟩ (by rw [Array.setIfInBounds_comm _ _ hji]; exact hk)
    refine m.free k ok hk hki ?_ no
    rcases Decidable.em (j = k) with rfl | hjk
    · exact un
    · rwa [getD_set_ne true hjk] at unk
theorem headQ_lex {Lq : Act → Prop} (hsel : Region.noSelect ops = true) (hs : Region.sinkB md ops n = true) (hc : Region.chainB md ops n = true) (hn : n < ops.size) (l : List Oper) :
    ∀ (k : Nat) (s : Array Bool) (a : Act), (∀ j, j < l.length → l[j]? = ops[k + j]?) → k + l.length = n → HeadInv md ops n s → Region.lexHead md ops g l.length k s = true →
      wpQuiet P ops C Lq l a → HeadQ P md ops C n (fun s' a' => Region.seqB md ops g n s' = true ∧ Lq a') l.length s a := by
  induction l with
  | nil =>
    intro k s a _ hk _ hB h
    obtain rfl : k = n := hk
    exact ⟨hB, h⟩
  | cons o l ih =>
    intro k s a hl hk inv hB h
    rw [List.length_cons] at hk
    have hok : ops[k]? = some o := (hl 0 (Nat.succ_pos _)).symm
    simp only [List.length_cons, Region.lexHead, Bool.and_eq_true] at hB
    have hr : k ∈ Region.ready md ops s := by simpa using hB.1.1
    obtain ⟨v, hy, hK⟩ := yieldsIn_of_qOp (K := wpQuiet P ops C Lq l) hok (by unfold qOp; simp only [hok]; exact h)
    refine headQ_first hok hsel hs hc hn (by omega) (fun s' a' x => seqB_ready x.1) _ s a ⟨inv, Region.free_spec hok hB.1.2, hr, hy⟩ ?_
    refine ih (k + 1) _ _ (fun j hj => ?_) (by omega) (inv.set hr (by omega)) hB.2 hK
    have := hl (j + 1) (Nat.succ_lt_succ hj)
    rw [List.getElem?_cons_succ] at this
    rw [this]; congr 1; omega
end
theorem wpQuiet_mono {P : Program} {ops : Array Oper} {C : World → Prop} {K K' : Act → Prop} (h : ∀ a, K a → K' a) : ∀ (l : List Oper) (a : Act), wpQuiet P ops C K l a → wpQuiet P ops C K' l a
  | [], a, x => h a x
  | o :: l, a, x => by
    unfold wpQuiet at x ⊢
    split
    · rename_i hw; rw [if_pos hw] at x; exact Oper.quiet_mono (fun a' y => wpQuiet_mono h l a' y) x
    · rename_i hw; rw [if_neg hw] at x; exact wpQuiet_mono h l _ x
theorem region_quiet_tail {P : Program} {id : Nat} {Q : Exit → Act → World → Prop} {a : Act} {w : World} {C : World → Prop} {l : List Oper} (n : Nat) (hm : P.follows .mixedOrders = true) (hB : Region.lexTailB .any l.toArray n = true)
    (hC : C { w with drawn := w.drawn + 1 }) (h : wpQuiet P l.toArray C (fun a' => ∀ w', C w' → wpList P l.toArray Q (l.drop n) a' w') (l.take n) a) : (Code.region id l.toArray true).wp P Q a w := by
  simp only [Region.lexTailB, Bool.and_eq_true, decide_eq_true_eq] at hB
  obtain ⟨⟨⟨⟨b1, b2⟩, b3⟩, b4⟩, b5⟩ := hB
  have z : n < l.length := b2
  have t1 : (l.take n).length = n := by rw [List.length_take]; omega
  have t2 : (l.drop n).length = l.toArray.size - n := List.length_drop
  have hs0 : ∀ j, (Array.replicate l.toArray.size false).getD j false = false := fun j => getD_replicate_false _ j
  have inv : HeadInv .any l.toArray n (Array.replicate l.toArray.size false) :=
    ⟨Array.size_replicate, (fun j oj _ x => by rw [hs0 j] at x; cases x), fun t _ ht => getD_in (by rwa [Array.size_replicate]) (hs0 t)⟩
  have H := headQ_lex (P := P) (C := C) (md := .any) (g := l.toArray.size - n) b1 b3 b4 b2 (l.take n) 0 _ a (fun j hj => by
    rw [t1] at hj
    rw [List.getElem?_take_of_lt hj, Nat.zero_add]; simp) (by rw [t1, Nat.zero_add]) inv (by rw [t1]; exact b5) h
  rw [t1] at H
  have G := headQ_any (Q := Q) (g := l.toArray.size - n) (fun s a' w' hw' x => by
    have y := wpAny_of_seq (md := .any) (Q' := Q) (P := P) (l.drop n) n s a' w' (fun j => by rw [List.getElem?_drop]; simp) (by rw [t2]; exact x.1) (x.2 w' hw')
    rwa [t2] at y) n _ a _ hC H
  rw [show n + (l.toArray.size - n) = l.toArray.size from by omega] at G
  exact wp_region_any hm G
/-- the same at the worlds that have grown from w -/
theorem region_grow_tail {P : Program} {id : Nat} {Q : Exit → Act → World → Prop} {a : Act} {w : World} {l : List Oper} (n : Nat) (hm : P.follows .mixedOrders = true) (hB : Region.lexTailB .any l.toArray n = true)
    (h : wpQuiet P l.toArray (fun w' => ∃ X, w' = gro w X) (fun a' => ∀ w', Below w.heap.size w w' → wpList P l.toArray Q (l.drop n) a' w') (l.take n) a) : (Code.region id l.toArray true).wp P Q a w := by
  refine region_quiet_tail (C := fun w' => ∃ X, w' = gro w X) n hm hB ⟨⟨{ w with drawn := w.drawn + 1 }, (Below.refl _ w).drew⟩, rfl⟩ ?_
  exact wpQuiet_mono (fun a' k w' ⟨X, e⟩ => by subst e; exact k _ X.h) _ _ h
/-- the same at w after some draws -/
theorem region_drew_tail {P : Program} {id : Nat} {Q : Exit → Act → World → Prop} {a : Act} {w : World} {l : List Oper} (n : Nat) (hm : P.follows .mixedOrders = true) (hB : Region.lexTailB .any l.toArray n = true)
    (h : wpQuiet P l.toArray (fun w' => ∃ k, w' = w.drewN k) (fun a' => ∀ k, wpList P l.toArray Q (l.drop n) a' (w.drewN k)) (l.take n) a) : (Code.region id l.toArray true).wp P Q a w := by
  refine region_quiet_tail (C := fun w' => ∃ k, w' = w.drewN k) n hm hB ⟨1, rfl⟩ ?_
  exact wpQuiet_mono (fun a' x w' ⟨k, e⟩ => by subst e; exact x k) _ _ h
theorem set_drewN (w : World) (n : Nat) (a : Addr) (v : Value) : (w.drewN n).setCell a v = (w.setCell a v).drewN n := rfl
end Go.Proofs.Ytbdmofmoegmigaa
