/- A region that draws its order, by a plan: plain operations are taken first; makers (calls, new blocks, stores) one behind the other; two makers of which either may come first. -/
import Derived.Test.YtbdmofmoegmigaaPerm
namespace Go.Proofs.Ytbdmofmoegmigaa
set_option linter.unusedVariables false
set_option linter.unusedSimpArgs false
open Go.RowKit
/-- an operation that yields a value and does no more, the parts of a pair among them -/
def plainX (o : Oper) : Bool := plainOp o || (match o.op with | .extract .. | .build .. => true | _ => false)
theorem plainX_value {o : Oper} (hp : plainX o = true) {ρ : Operand → Value} {P : Program} {w w' : World} {n : Next} (h : (execOp ρ o).run P w = .ok n w') : ∃ u, n = .value u := by
  unfold plainX at hp
  rw [Bool.or_eq_true] at hp
  rcases hp with hp | hp
  · exact plain_value hp h
  · split at hp
    · rename_i ho
      unfold execOp at h
      simp only [ho] at h
      exact value_of h
    · rename_i ho
      unfold execOp at h
      simp only [ho] at h
      exact value_of h
    · cases hp
section
variable {P : Program} {md : Region.Mode} {ops : Array Oper} {C : World → Prop} {Q : Exit → Act → World → Prop} {n g : Nat}
theorem yieldsIf_plainX {o : Oper} {v : Value} {a : Act} (hp : plainX o = true) (h : YieldsIn P ops C o v a) : YieldsIf P ops C o v a := by
  refine h.imp (fun ⟨hw, hq⟩ => ⟨hw, fun w hC => ?_⟩) id
  have hq := hq w hC
  unfold Oper.quietAt at hq
  cases hr : (execOp a.eval o).run P w with
  | halt x w' => rw [hr] at hq; simp only [Oper.quietUpon] at hq
  | ok n w' =>
    obtain ⟨u, rfl⟩ := plainX_value hp hr
    rw [hr] at hq
    obtain ⟨rfl, rfl⟩ := hq
    rfl
/-- what is asked of a maker's run: a value, nothing, or a call that hands a value back; the world stays of the class -/
def MkW (P : Program) (C : World → Prop) (om : Oper) (K : Act → World → Prop) (a : Act) : Result Next → Prop
  | .ok (.value v) w' => C w' ∧ K (a.put om.dst v) w'
  | .ok .skip w' => C w' ∧ K (a.put om.dst undef) w'
  | .ok (.enter f args) w' => Calls P f args w' fun e w'' => ∃ v, e = .returned v ∧ C w'' ∧ K (a.put om.dst v) w''
  | _ => False
theorem MkW.mono {om : Oper} {K K' : Act → World → Prop} {a : Act} (hk : ∀ a w, C w → K a w → K' a w) {r : Result Next} (h : MkW P C om K a r) : MkW P C om K' a r := by
  cases r with
  | halt x w => exact h
  | ok n w =>
    cases n
    case value v => exact ⟨h.1, hk _ _ h.1 h.2⟩
    case skip => exact ⟨h.1, hk _ _ h.1 h.2⟩
    case enter f args => exact Calls.mono h fun e w'' ⟨v, x, y, z⟩ => ⟨v, x, y, hk _ _ y z⟩
    all_goals exact h
/-- operation i, the world staying of the class -/
def Dow (P : Program) (ops : Array Oper) (C : World → Prop) (i : Nat) (K : Act → World → Prop) (a : Act) (w : World) : Prop :=
  ∃ o, ops[i]? = some o ∧ ((Region.wanted o (yielded ops a.tmps) = true ∧ MkW P C o K a ((execOp a.eval o).run P w)) ∨ (Region.wanted o (yielded ops a.tmps) = false ∧ C w ∧ K (a.put o.dst undef) w))
theorem Dow.mono {i : Nat} {K K' : Act → World → Prop} {a : Act} {w : World} (hk : ∀ a w, C w → K a w → K' a w) (h : Dow P ops C i K a w) : Dow P ops C i K' a w := by
  obtain ⟨o, ho, ⟨hw, x⟩ | ⟨hw, hC, x⟩⟩ := h
  · exact ⟨o, ho, .inl ⟨hw, x.mono hk⟩⟩
  · exact ⟨o, ho, .inr ⟨hw, hC, hk _ _ hC x⟩⟩
theorem Dow.op {i : Nat} {K : Act → World → Prop} {a : Act} {w : World} (h : Dow P ops C i K a w) : wpOp P ops Q i K a w := by
  obtain ⟨o, ho, ⟨hw, x⟩ | ⟨hw, hC, x⟩⟩ := h
  · unfold wpOp
    simp only [ho, hw, if_true]
    refine .inl ?_
    unfold Oper.wp
    generalize (execOp a.eval o).run P w = r at x
    cases r with
    | halt y w => exact x.elim
    | ok q w =>
      cases q
      case value v => exact x.2
      case enter f args => exact Calls.mono x fun e w'' ⟨v, e1, _, z⟩ => by subst e1; exact z
      case skip => exact x.2
      all_goals exact x.elim
  · unfold wpOp
    simp only [ho, hw, Bool.false_eq_true, if_false]
    exact x
theorem Dow.yields {i : Nat} {o : Oper} {v : Value} {K : Act → World → Prop} {a : Act} {w : World} (ho : ops[i]? = some o) (hC : C w) (hy : YieldsIf P ops C o v a) (hk : K (a.put o.dst v) w) : Dow P ops C i K a w := by
  rcases hy with ⟨hw, hv⟩ | ⟨hw, rfl⟩
  · exact ⟨o, ho, .inl ⟨hw, by rw [hv w hC]; exact ⟨hC, hk⟩⟩⟩
  · exact ⟨o, ho, .inr ⟨hw, hC, hk⟩⟩
theorem Dow.put {j : Nat} {oi oj : Oper} {v : Value} {a : Act} {w : World} {K : Act → World → Prop} (hj : ops[j]? = some oj) (hap : oi.apart ops oj = true) (hsi : ∀ cs b, oi.op ≠ .select cs b) (hsj : ∀ cs b, oj.op ≠ .select cs b)
    (hy : YieldsIf P ops C oi v a) (h : Dow P ops C j K (a.put oi.dst v) w) : Dow P ops C j (fun a' w' => YieldsIf P ops C oi v a' ∧ K (a'.put oi.dst v) w') a w := by
  obtain ⟨h1, h2, h3⟩ := Oper.apart_spec hap
  have keep : ∀ u, YieldsIf P ops C oi v (a.put oj.dst u) := fun u => hy.of_same (execOp_put oi hsi a oj.dst u h3) (wanted_put oi a oj.dst u h3)
  obtain ⟨o, ho, hh⟩ := h
  obtain rfl : o = oj := Option.some.inj (ho.symm.trans hj)
  refine ⟨o, ho, ?_⟩
  rw [wanted_put o a oi.dst v h1] at hh
  rcases hh with ⟨hw, x⟩ | ⟨hw, hC, x⟩
  · refine .inl ⟨hw, ?_⟩
    rw [execOp_put o hsj a oi.dst v h1] at x
    generalize (execOp a.eval o).run P w = r at x
    cases r with
    | halt y w => exact x.elim
    | ok q w =>
      cases q
      case value u => exact ⟨x.1, keep u, by rw [← Act.put_comm a v u h2]; exact x.2⟩
      case enter f args => exact Calls.mono x fun e w'' ⟨u, e1, y, z⟩ => ⟨u, e1, y, keep u, by rw [← Act.put_comm a v u h2]; exact z⟩
      case skip => exact ⟨x.1, keep _, by rw [← Act.put_comm a v undef h2]; exact x.2⟩
      all_goals exact x.elim
  · exact .inr ⟨hw, hC, keep _, by rw [← Act.put_comm a v undef h2]; exact x⟩
/-- f operations of the head are still to come -/
def HeadW (P : Program) (md : Region.Mode) (ops : Array Oper) (C : World → Prop) (n : Nat) (R : Array Bool → Act → World → Prop) : Nat → Array Bool → Act → World → Prop
  | 0 => R
  | f + 1 => fun s a w => Region.ready md ops s ≠ [] ∧ ∀ i, i ∈ Region.ready md ops s → i < n ∧ Dow P ops C i (fun a' w' => C w' ∧ HeadW P md ops C n R f (s.setIfInBounds i true) a' w') a w
theorem headW_any {R : Array Bool → Act → World → Prop} (hR : ∀ s a w, R s a w → wpAny P md ops Q g s a w) (f : Nat) : ∀ s a w, HeadW P md ops C n R f s a w → wpAny P md ops Q (f + g) s a w := by
  induction f with
  | zero => intro s a w h; rw [Nat.zero_add]; exact hR s a w h
  | succ f ih =>
    intro s a w h
    rw [Nat.succ_add]
    exact ⟨fun h0 => (h.1 h0).elim, fun i hi => wpOp_mono (fun a' w' k => ih _ a' w' k.2) (h.2 i hi).2.op⟩
theorem headW_first {i : Nat} {oi : Oper} {v : Value} {R : Array Bool → Act → World → Prop} (hi : ops[i]? = some oi) (hsel : Region.noSelect ops = true)
    (hs : Region.sinkB md ops n = true) (hc : Region.chainB md ops n = true) (hn : n < ops.size) (hin : i < n) (hR : ∀ s a w, R s a w → ∀ j, j ∈ Region.ready md ops s → n ≤ j) (f : Nat) :
    ∀ s a w, C w → HeadInv md ops n s → (∀ j oj, ops[j]? = some oj → j ≠ i → s.getD j true = false → (∀ e ∈ oj.after, Region.binds md e = true → e.on ≠ i) → oi.apart ops oj = true) → i ∈ Region.ready md ops s → YieldsIf P ops C oi v a →
      HeadW P md ops C n R f (s.setIfInBounds i true) (a.put oi.dst v) w → HeadW P md ops C n R (f + 1) s a w := by
  have sel := Region.noSelect_spec hsel
  have lt : ∀ {s : Array Bool} {j : Nat}, HeadInv md ops n s → i ∈ Region.ready md ops s → j ∈ Region.ready md ops s → j < n := by
    intro s j inv hh hj
    refine Nat.lt_of_not_le fun h => ?_
    exact tail_waits hs hc hn inv (n - i) i rfl hin (mem_ready.1 hh).1 j h hj
  induction f with
  | zero =>
    intro s a w hC inv hfree hr hy H
    refine ⟨List.ne_nil_of_mem hr, fun j hj => ⟨lt inv hr hj, ?_⟩⟩
    rcases Decidable.em (j = i) with rfl | hji
    · exact Dow.yields hi hC hy ⟨hC, H⟩
    · have h1 := hR _ _ _ H j (ready_mono hj hji)
      have h2 := lt inv hr hj
      omega
  | succ f ih =>
    intro s a w hC inv hfree hr hy H
    refine ⟨List.ne_nil_of_mem hr, fun j hj => ⟨lt inv hr hj, ?_⟩⟩
    rcases Decidable.em (j = i) with rfl | hji
    · exact Dow.yields hi hC hy ⟨hC, H⟩
    obtain ⟨un, oj, hoj, after⟩ := mem_ready.1 hj
    have apart := hfree j oj hoj hji un fun e he hb heq => by
      have := after e he hb
      rw [heq, getD_both (mem_ready.1 hr).1] at this
      cases this
    refine (Dow.put hoj apart (fun cs b => sel i oi cs b hi) (fun cs b => sel j oj cs b hoj) hy (H.2 j (ready_mono hj hji)).2).mono ?_
    rintro a' w' hC' ⟨hy', _, hk⟩
    refine ⟨hC', ih _ a' w' hC' (inv.set hj (lt inv hr hj)) (fun q ok hk hki unk no => ?_) (ready_mono hr (Ne.symm hji)) hy' (by rw [Array.setIfInBounds_comm _ _ hji]; exact hk)⟩
    refine hfree q ok hk hki ?_ no
    rcases Decidable.em (j = q) with rfl | hjq
    · exact un
    · rwa [getD_set_ne true hjq] at unk
/-- a plan -/
inductive Pl where
  | fin
  | takes (is : List Nat) (k : Pl)
  | make (m : Nat) (k : Pl)
  | fork (m1 m2 : Nat) (k1 k2 : Pl)
def Pl.len : Pl → Nat
  | .fin => 0
  | .takes is k => is.length + k.len
  | .make _ k => k.len + 1
  | .fork _ _ k _ => k.len + 1
def lexTakes (md : Region.Mode) (ops : Array Oper) (n : Nat) : List Nat → (Array Bool → Bool) → Array Bool → Bool
  | [], k, s => k s
  | i :: is, k, s => decide (i < n) && (Region.ready md ops s).contains i && Region.free md ops s i && (match ops[i]? with | some o => plainX o | none => false) && lexTakes md ops n is k (s.setIfInBounds i true)
def lexPl (md : Region.Mode) (ops : Array Oper) (g n : Nat) : Pl → Array Bool → Bool
  | .fin, s => Region.seqB md ops g n s
  | .takes is k, s => lexTakes md ops n is (lexPl md ops g n k) s
  | .make m k, s => decide (Region.ready md ops s = [m]) && decide (m < n) && lexPl md ops g n k (s.setIfInBounds m true)
  | .fork m1 m2 k1 k2, s => (decide (Region.ready md ops s = [m1, m2]) || decide (Region.ready md ops s = [m2, m1])) && decide (m1 < n) && decide (m2 < n) && decide (k1.len = k2.len) && lexPl md ops g n k1 (s.setIfInBounds m1 true) && lexPl md ops g n k2 (s.setIfInBounds m2 true)
def ObPl (P : Program) (ops : Array Oper) (C : World → Prop) (l : List Oper) (K : Act → World → Prop) : Pl → Act → World → Prop
  | .fin, a, w => K a w
  | .takes is k, a, w => wpQuiet P ops C (fun a' => ObPl P ops C l K k a' w) (pickOps l is) a
  | .make m k, a, w => ∃ o, l[m]? = some o ∧ o.guard = none ∧ MkW P C o (ObPl P ops C l K k) a ((execOp a.eval o).run P w)
  | .fork m1 m2 k1 k2, a, w => (∃ o, l[m1]? = some o ∧ o.guard = none ∧ MkW P C o (ObPl P ops C l K k1) a ((execOp a.eval o).run P w)) ∧ (∃ o, l[m2]? = some o ∧ o.guard = none ∧ MkW P C o (ObPl P ops C l K k2) a ((execOp a.eval o).run P w))
theorem headW_takes {R : Array Bool → Act → World → Prop} {l : List Oper} {k : Array Bool → Bool} {f : Nat} {K : Act → World → Prop} (hsel : Region.noSelect ops = true) (hs : Region.sinkB md ops n = true) (hc : Region.chainB md ops n = true) (hn : n < ops.size) (hl : l.toArray = ops)
    (hR : ∀ s a w, R s a w → ∀ j, j ∈ Region.ready md ops s → n ≤ j) (hk : ∀ s a w, C w → HeadInv md ops n s → k s = true → K a w → HeadW P md ops C n R f s a w) (is : List Nat) :
    ∀ (s : Array Bool) (a : Act) (w : World), C w → HeadInv md ops n s → lexTakes md ops n is k s = true → wpQuiet P ops C (fun a' => K a' w) (pickOps l is) a → HeadW P md ops C n R (is.length + f) s a w := by
  induction is with
  | nil => intro s a w hC inv hB h; rw [show ([] : List Nat).length + f = f by simp]; exact hk s a w hC inv (by simpa only [lexTakes] using hB) h
  | cons i is ih =>
    intro s a w hC inv hB h
    simp only [lexTakes, Bool.and_eq_true, decide_eq_true_eq] at hB
    obtain ⟨⟨⟨⟨h1, h3⟩, h4⟩, h5⟩, h6⟩ := hB
    have hr : i ∈ Region.ready md ops s := by simpa using h3
    obtain ⟨_, o, ho, _⟩ := mem_ready.1 hr
    have ho' : l[i]? = some o := by rw [← ho, ← hl]; simp
    rw [ho] at h5
    simp only [pickOps, ho'] at h
    obtain ⟨v, hy, hK⟩ := yieldsIn_of_qOp (K := wpQuiet P ops C _ (pickOps l is)) ho (by unfold qOp; simp only [ho]; exact h)
    rw [show (i :: is).length + f = (is.length + f) + 1 by simp; omega]
    exact headW_first ho hsel hs hc hn h1 hR _ s a w hC inv (Region.free_spec ho h4) hr (yieldsIf_plainX h5 hy) (ih _ _ w hC (inv.set hr h1) h6 hK)
theorem headW_plan {K : Act → World → Prop} (hsel : Region.noSelect ops = true) (hs : Region.sinkB md ops n = true) (hc : Region.chainB md ops n = true) (hn : n < ops.size) {l : List Oper} (hl : l.toArray = ops) (p : Pl) :
    ∀ (s : Array Bool) (a : Act) (w : World), C w → HeadInv md ops n s → lexPl md ops g n p s = true → ObPl P ops C l K p a w → HeadW P md ops C n (fun s a w => Region.seqB md ops g n s = true ∧ K a w) p.len s a w := by
  have one : ∀ {m : Nat} {k : Pl} {s : Array Bool} {a : Act} {w : World}, (∀ (s : Array Bool) (a : Act) (w : World), C w → HeadInv md ops n s → lexPl md ops g n k s = true → ObPl P ops C l K k a w → HeadW P md ops C n (fun s a w => Region.seqB md ops g n s = true ∧ K a w) k.len s a w) →
      HeadInv md ops n s → m ∈ Region.ready md ops s → m < n → lexPl md ops g n k (s.setIfInBounds m true) = true → (∃ o, l[m]? = some o ∧ o.guard = none ∧ MkW P C o (ObPl P ops C l K k) a ((execOp a.eval o).run P w)) →
      Dow P ops C m (fun a' w' => C w' ∧ HeadW P md ops C n (fun s a w => Region.seqB md ops g n s = true ∧ K a w) k.len (s.setIfInBounds m true) a' w') a w := by
    rintro m k s a w ih inv hr hm hB ⟨o, ho, hgd, hk⟩
    exact ⟨o, by rw [← hl]; simpa using ho, .inl ⟨by simp [Region.wanted, hgd], hk.mono fun a' w' hC' x => ⟨hC', ih _ a' w' hC' (inv.set hr hm) hB x⟩⟩⟩
  induction p with
  | fin => intro s a w hC inv hB h; exact ⟨by simpa only [lexPl] using hB, h⟩
  | takes is k ih => intro s a w hC inv hB h; exact headW_takes hsel hs hc hn hl (fun s a w x => seqB_ready x.1) ih is s a w hC inv (by simpa only [lexPl] using hB) h
  | make m k ih =>
    intro s a w hC inv hB h
    simp only [lexPl, Bool.and_eq_true, decide_eq_true_eq] at hB
    obtain ⟨⟨h1, h2⟩, h3⟩ := hB
    refine ⟨by rw [h1]; simp, fun i hi => ?_⟩
    have hi' := hi
    rw [h1] at hi'
    obtain rfl : i = m := by simpa using hi'
    exact ⟨h2, one ih inv hi h2 h3 h⟩
  | fork m1 m2 k1 k2 ih1 ih2 =>
    intro s a w hC inv hB h
    simp only [lexPl, Bool.and_eq_true, Bool.or_eq_true, decide_eq_true_eq] at hB
    obtain ⟨⟨⟨⟨⟨h0, h1⟩, h2⟩, h3⟩, h4⟩, h5⟩ := hB
    refine ⟨by rcases h0 with h0 | h0 <;> rw [h0] <;> simp, fun i hi => ?_⟩
    have hi' : i = m1 ∨ i = m2 := by
      rcases h0 with h0 | h0 <;> rw [h0] at hi <;> simp at hi
      · exact hi
      · exact hi.symm
    rcases hi' with rfl | rfl
    · exact ⟨h1, one ih1 inv hi h1 h4 h.1⟩
    · refine ⟨h2, ?_⟩
      show Dow P ops C i (fun a' w' => C w' ∧ HeadW P md ops C n _ k1.len _ a' w') a w
      rw [h3]
      exact one ih2 inv hi h2 h5 h.2
end
def planB (ops : Array Oper) (p : Pl) (n : Nat) : Bool :=
  Region.noSelect ops && decide (n < ops.size) && decide (p.len = n) && Region.sinkB .any ops n && Region.chainB .any ops n && lexPl .any ops (ops.size - n) n p (Array.replicate ops.size false)
theorem region_plan {P : Program} {id : Nat} {Q : Exit → Act → World → Prop} {a : Act} {w : World} {l : List Oper} (p : Pl) (n : Nat) (hm : P.follows .mixedOrders = true) (hB : planB l.toArray p n = true)
    (h : ObPl P l.toArray (fun w' => ∃ X, w' = gro w X) l (wpList P l.toArray Q (l.drop n)) p a w.drew) : (Code.region id l.toArray true).wp P Q a w := by
  simp only [planB, Bool.and_eq_true, decide_eq_true_eq] at hB
  obtain ⟨⟨⟨⟨⟨b1, b2⟩, b0⟩, b4⟩, b5⟩, b6⟩ := hB
  have z : n < l.length := b2
  have t2 : (l.drop n).length = l.toArray.size - n := List.length_drop
  have hs0 : ∀ j, (Array.replicate l.toArray.size false).getD j false = false := fun j => getD_replicate_false _ j
  have inv : HeadInv .any l.toArray n (Array.replicate l.toArray.size false) :=
    ⟨Array.size_replicate, (fun j oj _ x => by rw [hs0 j] at x; cases x), fun t _ ht => getD_in (by rwa [Array.size_replicate]) (hs0 t)⟩
  have H := headW_plan (P := P) (md := .any) (g := l.toArray.size - n) b1 b4 b5 b2 rfl p _ a w.drew ⟨⟨w.drew, (Below.refl _ w).drew⟩, rfl⟩ inv b6 h
  have G := headW_any (Q := Q) (g := l.toArray.size - n) (fun s a' w' x => by
    have y := wpAny_of_seq (md := .any) (Q' := Q) (P := P) (l.drop n) n s a' w' (fun j => by rw [List.getElem?_drop]; simp) (by rw [t2]; exact x.1) x.2
    rwa [t2] at y) _ _ a _ H
  rw [b0, show n + (l.toArray.size - n) = l.toArray.size from by simp at *; omega] at G
  exact wp_region_any hm G
end Go.Proofs.Ytbdmofmoegmigaa
