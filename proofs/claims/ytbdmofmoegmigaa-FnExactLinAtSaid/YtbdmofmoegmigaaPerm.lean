/- A region that draws its order: as Maker, the operations in front of the tail in any given order, the maker among them. -/
import Derived.Test.YtbdmofmoegmigaaMaker
namespace Go.Proofs.Ytbdmofmoegmigaa
set_option linter.unusedVariables false
set_option linter.unusedSimpArgs false
open Go.RowKit
section
variable {P : Program} {md : Region.Mode} {ops : Array Oper} {C : World → Prop} {Q : Exit → Act → World → Prop} {m n g : Nat}
/-- f quiet operations are still to come, and the maker, number m; R: what is asked when all have come -/
def HeadP (P : Program) (md : Region.Mode) (ops : Array Oper) (C : World → Prop) (om : Oper) (m n : Nat) (R : Array Bool → Act → World → Prop) : Nat → Array Bool → Act → Prop
  | 0 => fun s a => Region.ready md ops s = [m] ∧ Mk P ops C om (fun a' w' => R (s.setIfInBounds m true) a' w') a
  | f + 1 => fun s a => Region.ready md ops s ≠ [] ∧ ∀ i, i ∈ Region.ready md ops s →
      ((i < n ∧ i ≠ m) ∧ qOp P ops C i (HeadP P md ops C om m n R f (s.setIfInBounds i true)) a) ∨
      (i = m ∧ Mk P ops C om (fun a' w' => wpAnyL P md ops w' n (fun s' a'' => R s' a'' w') (f + 1) (s.setIfInBounds m true) a') a)
theorem headP_any {om : Oper} {R : Array Bool → Act → World → Prop} (hom : ops[m]? = some om) (hR : ∀ s a w, R s a w → wpAny P md ops Q g s a w) (f : Nat) :
    ∀ s a w, C w → HeadP P md ops C om m n R f s a → wpAny P md ops Q (f + 1 + g) s a w := by
  induction f with
  | zero =>
    intro s a w hw h
    rw [show 0 + 1 + g = g + 1 by omega]
    refine ⟨fun h0 => (by rw [h.1] at h0; cases h0), fun i hi => ?_⟩
    rw [h.1] at hi
    obtain rfl : i = m := by simpa using hi
    exact wpOp_mono (fun a' w' x => hR _ _ _ x) (h.2.op hom hw)
  | succ f ih =>
    intro s a w hw h
    rw [show f + 1 + 1 + g = (f + 1 + g) + 1 by omega]
    refine ⟨fun h0 => (h.1 h0).elim, fun i hi => ?_⟩
    rcases h.2 i hi with ⟨_, x⟩ | ⟨rfl, x⟩
    · exact wpOp_of_qOp hw (fun a' w' hw' k => ih _ a' w' hw' k) x
    · exact wpOp_mono (fun a' w' y => wpAny_of_head (fun s' a'' z => hR _ _ _ z) (f + 1) _ a' y) (x.op hom hw)
theorem headP_first {i : Nat} {oi om : Oper} {v : Value} {R : Array Bool → Act → World → Prop} (hmn : m < n) (hom : ops[m]? = some om) (hi : ops[i]? = some oi) (hsel : Region.noSelect ops = true)
    (hs : Region.sinkB md ops n = true) (hc : Region.chainB md ops n = true) (hn : n < ops.size) (him : i < n ∧ i ≠ m) (hpl : plainOp oi = true ∨ Region.waitsFor md ops m i = true)
    (hR : ∀ s a w, R s a w → ∀ j, j ∈ Region.ready md ops s → n ≤ j) (f : Nat) :
    ∀ s a, May P md ops C n i oi v s a → HeadP P md ops C om m n R f (s.setIfInBounds i true) (a.put oi.dst v) → HeadP P md ops C om m n R (f + 1) s a := by
  have sel := Region.noSelect_spec hsel
  have late : ∀ {s a}, May P md ops C n i oi v s a → m ∈ Region.ready md ops s → YieldsIf P ops C oi v a ∧ oi.apart ops om = true := by
    intro s a k hm
    obtain ⟨un, om', hom', after⟩ := mem_ready.1 hm
    rw [Option.some.inj (hom'.symm.trans hom)] at after
    have no : ∀ e ∈ om.after, Region.binds md e = true → e.on ≠ i := fun e he hb heq => by
      have := after e he hb
      rw [heq, getD_both (mem_ready.1 k.here).1] at this
      cases this
    have pl : plainOp oi = true := by
      rcases hpl with h | h
      · exact h
      · obtain ⟨o', ho', e, he, hb, hon⟩ := Region.waitsFor_spec h
        rw [Option.some.inj (ho'.symm.trans hom)] at he
        exact absurd hon (no e he hb)
    exact ⟨yieldsIf_plain pl k.gives, k.free m _ hom (Ne.symm him.2) un no⟩
  -- behind the maker the quiet operation may still come first
  have behind : ∀ {f s a a' w'}, May P md ops C n i oi v s a → m ∈ Region.ready md ops s → C w' → YieldsIf P ops C oi v a' →
      wpAnyL P md ops w' n (fun s' a'' => R s' a'' w') f ((s.setIfInBounds i true).setIfInBounds m true) (a'.put oi.dst v) → wpAnyL P md ops w' n (fun s' a'' => R s' a'' w') (f + 1) (s.setIfInBounds m true) a' := by
    intro f s a a' w' k hm hC hy H
    refine wpAnyL_first hi sel hs hc hn him.1 (fun s' a'' x => hR _ _ _ x) f _ a' (k.inv.set hm hmn) ?_ (ready_mono k.here him.2) (yieldsAt_if hC hy) ?_
    · intro j oj hoj hji un no
      refine k.free j oj hoj hji ?_ no
      rcases Decidable.em (m = j) with rfl | hmj
      · exact (mem_ready.1 hm).1
      · rwa [getD_set_ne true hmj] at un
    · rw [Array.setIfInBounds_comm _ _ (Ne.symm him.2)]; exact H
  induction f with
  | zero =>
    intro s a k H
    refine ⟨List.ne_nil_of_mem k.here, fun j hj => ?_⟩
    rcases Decidable.em (j = i) with rfl | hji
    · exact .inl ⟨him, k.gives.qOp hi H⟩
    · have h1 := ready_mono hj hji
      rw [H.1] at h1
      obtain rfl : j = m := by simpa using h1
      obtain ⟨hy, ap⟩ := late k hj
      refine .inr ⟨rfl, (H.2.put ap (fun cs b => sel i oi cs b hi) (fun cs b => sel j om cs b hom) hy).mono ?_⟩
      rintro a' w' hC ⟨y, r⟩
      exact behind k hj hC y r
  | succ f ih =>
    intro s a k H
    refine ⟨List.ne_nil_of_mem k.here, fun j hj => ?_⟩
    rcases Decidable.em (j = i) with rfl | hji
    · exact .inl ⟨him, k.gives.qOp hi H⟩
    rcases H.2 j (ready_mono hj hji) with ⟨hjm, x⟩ | ⟨rfl, x⟩
    · obtain ⟨un, oj, hoj, after⟩ := mem_ready.1 hj
      have apart := k.free j oj hoj hji un fun e he hb heq => by
        have := after e he hb
        rw [heq, getD_both (mem_ready.1 k.here).1] at this
        cases this
      refine .inl ⟨hjm, qOp_mono ?_ (qOp_put hoj apart (fun cs b => sel i oi cs b hi) (fun cs b => sel j oj cs b hoj) k.gives x)⟩
      rintro a' ⟨hy, hk⟩
      refine ih _ a' ⟨k.inv.set hj hjm.1, fun q ok hk hki unk no => ?_, ready_mono k.here (Ne.symm hji), hy⟩ (by rw [Array.setIfInBounds_comm _ _ hji]; exact hk)
      refine k.free q ok hk hki ?_ no
      rcases Decidable.em (j = q) with rfl | hjq
      · exact un
      · rwa [getD_set_ne true hjq] at unk
    · obtain ⟨hy, ap⟩ := late k hj
      refine .inr ⟨rfl, (x.put ap (fun cs b => sel i oi cs b hi) (fun cs b => sel j om cs b hom) hy).mono ?_⟩
      rintro a' w' hC ⟨y, r⟩
      exact behind k hj hC y r
/-- the operations with the indices is may be taken first, in that order; behind them comes m alone, and then the rest from n on in one order -/
def lexP (md : Region.Mode) (ops : Array Oper) (g n m : Nat) : List Nat → Array Bool → Bool
  | [], s => decide (Region.ready md ops s = [m]) && Region.seqB md ops g n (s.setIfInBounds m true)
  | i :: is, s => decide (i < n) && decide (i ≠ m) && (Region.ready md ops s).contains i && Region.free md ops s i &&
      ((match ops[i]? with | some o => plainOp o | none => false) || Region.waitsFor md ops m i) && lexP md ops g n m is (s.setIfInBounds i true)
def pickOps (l : List Oper) : List Nat → List Oper
  | [] => []
  | i :: is => match l[i]? with
    | some o => o :: pickOps l is
    | none => []
theorem headP_lex {om : Oper} (hmn : m < n) (hom : ops[m]? = some om) {R : Array Bool → Act → World → Prop} {Lq : Act → Prop} (hsel : Region.noSelect ops = true) (hs : Region.sinkB md ops n = true) (hc : Region.chainB md ops n = true) (hn : n < ops.size)
    (hR : ∀ s a w, R s a w → ∀ j, j ∈ Region.ready md ops s → n ≤ j)
    (hL : ∀ (s : Array Bool) a, Region.seqB md ops g n (s.setIfInBounds m true) = true → Lq a → Mk P ops C om (fun a' w' => R (s.setIfInBounds m true) a' w') a) {l : List Oper} (hl : l.toArray = ops) (is : List Nat) :
    ∀ (s : Array Bool) (a : Act), HeadInv md ops n s → lexP md ops g n m is s = true → wpQuiet P ops C Lq (pickOps l is) a → HeadP P md ops C om m n R is.length s a := by
  induction is with
  | nil =>
    intro s a inv hB h
    simp only [lexP, Bool.and_eq_true, decide_eq_true_eq] at hB
    exact ⟨hB.1, hL s a hB.2 h⟩
  | cons i is ih =>
    intro s a inv hB h
    simp only [lexP, Bool.and_eq_true, decide_eq_true_eq, Bool.or_eq_true] at hB
    obtain ⟨⟨⟨⟨⟨h1, h2⟩, h3⟩, h4⟩, h5⟩, h6⟩ := hB
    have hr : i ∈ Region.ready md ops s := by simpa using h3
    obtain ⟨_, o, ho, _⟩ := mem_ready.1 hr
    have ho' : l[i]? = some o := by rw [← ho, ← hl]; simp
    rw [ho] at h5
    simp only [pickOps, ho'] at h
    obtain ⟨v, hy, hK⟩ := yieldsIn_of_qOp (K := wpQuiet P ops C Lq (pickOps l is)) ho (by unfold qOp; simp only [ho]; exact h)
    exact headP_first hmn hom ho hsel hs hc hn ⟨h1, h2⟩ h5 hR _ s a ⟨inv, Region.free_spec ho h4, hr, hy⟩ (ih _ _ (inv.set hr h1) h6 hK)
end
def permB (ops : Array Oper) (is : List Nat) (m n : Nat) : Bool :=
  Region.noSelect ops && decide (n < ops.size) && decide (m < n) && decide (is.length + 1 = n) && Region.sinkB .any ops n && Region.chainB .any ops n && lexP .any ops (ops.size - n) n m is (Array.replicate ops.size false)
theorem region_perm {P : Program} {id : Nat} {Q : Exit → Act → World → Prop} {a : Act} {w : World} {C : World → Prop} {l : List Oper} {om : Oper} (is : List Nat) (m n : Nat) (hom : l[m]? = some om) (hm : P.follows .mixedOrders = true) (hB : permB l.toArray is m n = true)
    (hgd : om.guard = none) (hC : C { w with drawn := w.drawn + 1 })
    (h : wpQuiet P l.toArray C (fun a' => ∀ w', C w' → MkUpon P C om (wpList P l.toArray Q (l.drop n)) a' ((execOp a'.eval om).run P w')) (pickOps l is) a) : (Code.region id l.toArray true).wp P Q a w := by
  simp only [permB, Bool.and_eq_true, decide_eq_true_eq] at hB
  obtain ⟨⟨⟨⟨⟨⟨b1, b2⟩, b3⟩, b0⟩, b4⟩, b5⟩, b6⟩ := hB
  have z : n < l.length := b2
  have hom' : l.toArray[m]? = some om := by rw [← hom]; simp
  have t2 : (l.drop n).length = l.toArray.size - n := List.length_drop
  have hs0 : ∀ j, (Array.replicate l.toArray.size false).getD j false = false := fun j => getD_replicate_false _ j
  have inv : HeadInv .any l.toArray n (Array.replicate l.toArray.size false) :=
    ⟨Array.size_replicate, (fun j oj _ x => by rw [hs0 j] at x; cases x), fun t _ ht => getD_in (by rwa [Array.size_replicate]) (hs0 t)⟩
  have H := headP_lex (P := P) (C := C) (md := .any) (g := l.toArray.size - n) b3 hom' (R := fun s a w => Region.seqB .any l.toArray (l.toArray.size - n) n s = true ∧ wpList P l.toArray Q (l.drop n) a w) b1 b4 b5 b2
    (fun s a w x => seqB_ready x.1) (fun s a' hsq hLq => ⟨by simp [Region.wanted, hgd], fun w' hw' => (hLq w' hw').mono fun a'' w'' _ y => ⟨hsq, y⟩⟩) rfl is _ a inv b6 h
  have G := headP_any (P := P) (C := C) (Q := Q) (md := .any) (g := l.toArray.size - n) hom' (fun s a' w' x => by
    have y := wpAny_of_seq (md := .any) (Q' := Q) (P := P) (l.drop n) n s a' w' (fun j => by rw [List.getElem?_drop]; simp) (by rw [t2]; exact x.1) x.2
    rwa [t2] at y) is.length _ a _ hC H
  rw [show is.length + 1 + (l.toArray.size - n) = l.toArray.size from by simp at *; omega] at G
  exact wp_region_any hm G
/-- at the worlds that have grown from w; the maker is a call -/
theorem region_grow_pcall {P : Program} {id : Nat} {Q : Exit → Act → World → Prop} {a : Act} {w : World} {l : List Oper} {om : Oper} (is : List Nat) (m n : Nat) (hom : l[m]? = some om) (hm : P.follows .mixedOrders = true) (hB : permB l.toArray is m n = true)
    (hgd : om.guard = none)
    (h : wpQuiet P l.toArray (fun w' => ∃ X, w' = gro w X) (fun a' => ∀ w', Below w.heap.size w w' → ∃ f args, (execOp a'.eval om).run P w' = .ok (.enter f args) w' ∧ Calls P f args w' fun e w'' => ∃ v, e = .returned v ∧ Below w.heap.size w w'' ∧ wpList P l.toArray Q (l.drop n) (a'.put om.dst v) w'') (pickOps l is) a) : (Code.region id l.toArray true).wp P Q a w := by
  refine region_perm (C := fun w' => ∃ X, w' = gro w X) is m n hom hm hB hgd ⟨⟨{ w with drawn := w.drawn + 1 }, (Below.refl _ w).drew⟩, rfl⟩ ?_
  refine wpQuiet_mono (fun a' k w' ⟨X, e⟩ => ?_) _ _ h
  subst e
  obtain ⟨f, args, h1, h2⟩ := k _ X.h
  show MkUpon _ _ _ _ _ ((execOp a'.eval om).run P X.w)
  rw [h1]
  exact Calls.mono h2 fun e w'' ⟨v, x, y, z⟩ => ⟨v, x, ⟨⟨w'', y⟩, rfl⟩, z⟩
/-- the same where the maker yields a value -/
theorem region_grow_pmaker {P : Program} {id : Nat} {Q : Exit → Act → World → Prop} {a : Act} {w : World} {l : List Oper} {om : Oper} (is : List Nat) (m n : Nat) (hom : l[m]? = some om) (hm : P.follows .mixedOrders = true) (hB : permB l.toArray is m n = true)
    (hgd : om.guard = none)
    (h : wpQuiet P l.toArray (fun w' => ∃ X, w' = gro w X) (fun a' => ∀ w', Below w.heap.size w w' → ∃ v w'', (execOp a'.eval om).run P w' = .ok (.value v) w'' ∧ Below w.heap.size w w'' ∧ wpList P l.toArray Q (l.drop n) (a'.put om.dst v) w'') (pickOps l is) a) : (Code.region id l.toArray true).wp P Q a w := by
  refine region_perm (C := fun w' => ∃ X, w' = gro w X) is m n hom hm hB hgd ⟨⟨{ w with drawn := w.drawn + 1 }, (Below.refl _ w).drew⟩, rfl⟩ ?_
  refine wpQuiet_mono (fun a' k w' ⟨X, e⟩ => ?_) _ _ h
  subst e
  obtain ⟨v, w'', h1, h2, h3⟩ := k _ X.h
  show MkUpon _ _ _ _ _ ((execOp a'.eval om).run P X.w)
  rw [h1]
  exact ⟨⟨⟨w'', h2⟩, rfl⟩, h3⟩
end Go.Proofs.Ytbdmofmoegmigaa
