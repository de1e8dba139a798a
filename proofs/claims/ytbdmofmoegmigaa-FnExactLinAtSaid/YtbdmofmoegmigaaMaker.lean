/- A region that draws its order: operations that are quiet in a class of worlds, one that makes a new row beside them, and behind both a tail that comes in one order. -/
import Derived.Test.YtbdmofmoegmigaaTail
import Derived.OrdersHeld
namespace Go.Proofs.Ytbdmofmoegmigaa
set_option linter.unusedVariables false
set_option linter.unusedSimpArgs false
open Go.RowKit
/-- an operation that yields a value and does no more -/
def plainOp (o : Oper) : Bool := match o.op with
  | .move _ | .assign _ | .load .. | .fieldAddr .. | .indexAddr .. | .index .. | .binOp .. | .unOp .. => true
  | _ => false
theorem value_of {s : Sem Value} {P : Program} {w w' : World} {n : Next} (h : (do pure (Next.value (← s)) : Sem Next).run P w = .ok n w') : ∃ u, n = .value u := by
  rw [Sem.run_bind] at h
  cases hr : s.run P w with
  | ok v w1 => rw [hr] at h; simp only [Result.andThen_ok, Sem.run_pure] at h; injection h with h1 _; exact ⟨v, h1.symm⟩
  | halt x w1 => rw [hr] at h; simp [Result.andThen] at h
theorem plain_value {o : Oper} (hp : plainOp o = true) {ρ : Operand → Value} {P : Program} {w w' : World} {n : Next} (h : (execOp ρ o).run P w = .ok n w') : ∃ u, n = .value u := by
  unfold plainOp at hp
  unfold execOp at h
  split at hp
  all_goals first | (cases hp; done) | skip
  all_goals
    rename_i ho
    simp only [ho] at h
    first
    | exact value_of h
    | (simp only [Sem.run_pure] at h; injection h with h1 _; exact ⟨_, h1.symm⟩)
section
variable {P : Program} {md : Region.Mode} {ops : Array Oper} {C : World → Prop} {Q : Exit → Act → World → Prop} {m g : Nat}
theorem yieldsIf_plain {o : Oper} {v : Value} {a : Act} (hp : plainOp o = true) (h : YieldsIn P ops C o v a) : YieldsIf P ops C o v a := by
  refine h.imp (fun ⟨hw, hq⟩ => ⟨hw, fun w hC => ?_⟩) id
  have hq := hq w hC
  unfold Oper.quietAt at hq
  cases hr : (execOp a.eval o).run P w with
  | halt x w' => rw [hr] at hq; simp only [Oper.quietUpon] at hq
  | ok n w' =>
    obtain ⟨u, rfl⟩ := plain_value hp hr
    rw [hr] at hq
    obtain ⟨rfl, rfl⟩ := hq
    rfl
theorem yieldsAt_if {o : Oper} {v : Value} {a : Act} {w : World} (hC : C w) (h : YieldsIf P ops C o v a) : YieldsAt P ops w o v a :=
  h.imp (fun ⟨hw, hv⟩ => ⟨hw, .inl (hv w hC)⟩) id
/-- what is asked of the maker's run: a value, or a call that hands one back; the world stays of the class -/
def MkUpon (P : Program) (C : World → Prop) (om : Oper) (K : Act → World → Prop) (a : Act) : Result Next → Prop
  | .ok (.value v) w' => C w' ∧ K (a.put om.dst v) w'
  | .ok (.enter f args) w' => Calls P f args w' fun e w'' => ∃ v, e = .returned v ∧ C w'' ∧ K (a.put om.dst v) w''
  | _ => False
theorem MkUpon.mono {om : Oper} {K K' : Act → World → Prop} {a : Act} (hk : ∀ a w, C w → K a w → K' a w) {r : Result Next} (h : MkUpon P C om K a r) : MkUpon P C om K' a r := by
  cases r with
  | halt x w => exact h
  | ok n w =>
    cases n
    case value v => exact ⟨h.1, hk _ _ h.1 h.2⟩
    case enter f args => exact Calls.mono h fun e w'' ⟨v, x, y, z⟩ => ⟨v, x, y, hk _ _ y z⟩
    all_goals exact h
/-- the maker: from every world of the class -/
def Mk (P : Program) (ops : Array Oper) (C : World → Prop) (om : Oper) (K : Act → World → Prop) (a : Act) : Prop :=
  Region.wanted om (yielded ops a.tmps) = true ∧ ∀ w, C w → MkUpon P C om K a ((execOp a.eval om).run P w)
theorem Mk.mono {om : Oper} {K K' : Act → World → Prop} {a : Act} (hk : ∀ a w, C w → K a w → K' a w) (h : Mk P ops C om K a) : Mk P ops C om K' a :=
  ⟨h.1, fun w hw => (h.2 w hw).mono hk⟩
theorem Mk.op {om : Oper} {K : Act → World → Prop} {a : Act} (hom : ops[m]? = some om) (h : Mk P ops C om K a) {w : World} (hw : C w) : wpOp P ops Q m K a w := by
  have x := h.2 w hw
  unfold wpOp
  simp only [hom, h.1, if_true]
  refine .inl ?_
  unfold Oper.wp
  generalize (execOp a.eval om).run P w = r at x
  cases r with
  | halt y w => exact x.elim
  | ok n w =>
    cases n
    case value v => exact x.2
    case enter f args => exact Calls.mono x fun e w'' ⟨v, e1, _, z⟩ => by subst e1; exact z
    all_goals exact x.elim
theorem Mk.put {oi om : Oper} {v : Value} {a : Act} {K : Act → World → Prop} (hap : oi.apart ops om = true) (hsi : ∀ cs b, oi.op ≠ .select cs b) (hsm : ∀ cs b, om.op ≠ .select cs b)
    (hy : YieldsIf P ops C oi v a) (h : Mk P ops C om K (a.put oi.dst v)) : Mk P ops C om (fun a' w' => YieldsIf P ops C oi v a' ∧ K (a'.put oi.dst v) w') a := by
  obtain ⟨h1, h2, h3⟩ := Oper.apart_spec hap
  obtain ⟨k1, k2⟩ := h
  rw [wanted_put om a oi.dst v h1] at k1
  rw [execOp_put om hsm a oi.dst v h1] at k2
  have keep : ∀ u, YieldsIf P ops C oi v (a.put om.dst u) := fun u => hy.of_same (execOp_put oi hsi a om.dst u h3) (wanted_put oi a om.dst u h3)
  refine ⟨k1, fun w hw => ?_⟩
  have x := k2 w hw
  generalize (execOp a.eval om).run P w = r at x
  cases r with
  | halt y w => exact x.elim
  | ok n w =>
    cases n
    case value u => exact ⟨x.1, keep u, by rw [← Act.put_comm a v u h2]; exact x.2⟩
    case enter f args => exact Calls.mono x fun e w'' ⟨u, e1, y, z⟩ => ⟨u, e1, y, keep u, by rw [← Act.put_comm a v u h2]; exact z⟩
    all_goals exact x.elim
/-- f quiet operations are still to come, and the maker, number m; R: what is asked when all have come -/
def HeadM (P : Program) (md : Region.Mode) (ops : Array Oper) (C : World → Prop) (om : Oper) (m : Nat) (R : Array Bool → Act → World → Prop) : Nat → Array Bool → Act → Prop
  | 0 => fun s a => Region.ready md ops s = [m] ∧ Mk P ops C om (fun a' w' => R (s.setIfInBounds m true) a' w') a
  | f + 1 => fun s a => Region.ready md ops s ≠ [] ∧ ∀ i, i ∈ Region.ready md ops s →
      (i < m ∧ qOp P ops C i (HeadM P md ops C om m R f (s.setIfInBounds i true)) a) ∨
      (i = m ∧ Mk P ops C om (fun a' w' => wpAnyL P md ops w' (m + 1) (fun s' a'' => R s' a'' w') (f + 1) (s.setIfInBounds m true) a') a)
theorem headM_any {om : Oper} {R : Array Bool → Act → World → Prop} (hom : ops[m]? = some om) (hR : ∀ s a w, R s a w → wpAny P md ops Q g s a w) (f : Nat) :
    ∀ s a w, C w → HeadM P md ops C om m R f s a → wpAny P md ops Q (f + 1 + g) s a w := by
  induction f with
  | zero =>
    intro s a w hw h
    rw [show 0 + 1 + g = g + 1 by omega]
    refine ⟨fun h0 => (by rw [h.1] at h0; cases h0), fun i hi => ?_⟩
    rw [h.1] at hi
    obtain rfl : i = m := by simpa using hi
    exact wpOp_mono (fun a' w' x => hR _ _ _ x) (h.2.op hom hw)
  | succ f ih =>
    intro s a w hw h
    rw [show f + 1 + 1 + g = (f + 1 + g) + 1 by omega]
    refine ⟨fun h0 => (h.1 h0).elim, fun i hi => ?_⟩
    rcases h.2 i hi with ⟨_, x⟩ | ⟨rfl, x⟩
    · exact wpOp_of_qOp hw (fun a' w' hw' k => ih _ a' w' hw' k) x
    · exact wpOp_mono (fun a' w' y => wpAny_of_head (fun s' a'' z => hR _ _ _ z) (f + 1) _ a' y) (x.op hom hw)
theorem headM_first {i : Nat} {oi om : Oper} {v : Value} {R : Array Bool → Act → World → Prop} (hom : ops[m]? = some om) (hi : ops[i]? = some oi) (hsel : Region.noSelect ops = true)
    (hs : Region.sinkB md ops (m + 1) = true) (hc : Region.chainB md ops (m + 1) = true) (hn : m + 1 < ops.size) (him : i < m) (hpl : plainOp oi = true ∨ Region.waitsFor md ops m i = true)
    (hR : ∀ s a w, R s a w → ∀ j, j ∈ Region.ready md ops s → m + 1 ≤ j) (f : Nat) :
    ∀ s a, May P md ops C (m + 1) i oi v s a → HeadM P md ops C om m R f (s.setIfInBounds i true) (a.put oi.dst v) → HeadM P md ops C om m R (f + 1) s a := by
  have sel := Region.noSelect_spec hsel
  have late : ∀ {s a}, May P md ops C (m + 1) i oi v s a → m ∈ Region.ready md ops s → YieldsIf P ops C oi v a ∧ oi.apart ops om = true := by
    intro s a k hm
    obtain ⟨un, om', hom', after⟩ := mem_ready.1 hm
    rw [Option.some.inj (hom'.symm.trans hom)] at after
    have no : ∀ e ∈ om.after, Region.binds md e = true → e.on ≠ i := fun e he hb heq => by
      have := after e he hb
      rw [heq, getD_both (mem_ready.1 k.here).1] at this
      cases this
    have pl : plainOp oi = true := by
      rcases hpl with h | h
      · exact h
      · obtain ⟨o', ho', e, he, hb, hon⟩ := Region.waitsFor_spec h
        rw [Option.some.inj (ho'.symm.trans hom)] at he
        exact absurd hon (no e he hb)
    exact ⟨yieldsIf_plain pl k.gives, k.free m _ hom (by omega) un no⟩
  -- behind the maker the quiet operation may still come first
  have behind : ∀ {f s a a' w'}, May P md ops C (m + 1) i oi v s a → m ∈ Region.ready md ops s → C w' → YieldsIf P ops C oi v a' →
      wpAnyL P md ops w' (m + 1) (fun s' a'' => R s' a'' w') f ((s.setIfInBounds i true).setIfInBounds m true) (a'.put oi.dst v) → wpAnyL P md ops w' (m + 1) (fun s' a'' => R s' a'' w') (f + 1) (s.setIfInBounds m true) a' := by
    intro f s a a' w' k hm hC hy H
    refine wpAnyL_first hi sel hs hc hn (by omega) (fun s' a'' x => hR _ _ _ x) f _ a' (k.inv.set hm (by omega)) ?_ (ready_mono k.here (by omega)) (yieldsAt_if hC hy) ?_
    · intro j oj hoj hji un no
      refine k.free j oj hoj hji ?_ no
      rcases Decidable.em (m = j) with rfl | hmj
      · exact (mem_ready.1 hm).1
      · rwa [getD_set_ne true hmj] at un
    · rw [Array.setIfInBounds_comm _ _ (by omega)]; exact H
  induction f with
  | zero =>
    intro s a k H
    refine ⟨List.ne_nil_of_mem k.here, fun j hj => ?_⟩
    rcases Decidable.em (j = i) with rfl | hji
    · exact .inl ⟨him, k.gives.qOp hi H⟩
    · have h1 := ready_mono hj hji
      rw [H.1] at h1
      obtain rfl : j = m := by simpa using h1
      obtain ⟨hy, ap⟩ := late k hj
      refine .inr ⟨rfl, (H.2.put ap (fun cs b => sel i oi cs b hi) (fun cs b => sel j om cs b hom) hy).mono ?_⟩
      rintro a' w' hC ⟨y, r⟩
      exact behind k hj hC y r
  | succ f ih =>
    intro s a k H
    refine ⟨List.ne_nil_of_mem k.here, fun j hj => ?_⟩
    rcases Decidable.em (j = i) with rfl | hji
    · exact .inl ⟨him, k.gives.qOp hi H⟩
    rcases H.2 j (ready_mono hj hji) with ⟨hjm, x⟩ | ⟨rfl, x⟩
    · obtain ⟨un, oj, hoj, after⟩ := mem_ready.1 hj
      have apart := k.free j oj hoj hji un fun e he hb heq => by
        have := after e he hb
        rw [heq, getD_both (mem_ready.1 k.here).1] at this
        cases this
      refine .inl ⟨hjm, qOp_mono ?_ (qOp_put hoj apart (fun cs b => sel i oi cs b hi) (fun cs b => sel j oj cs b hoj) k.gives x)⟩
      rintro a' ⟨hy, hk⟩
      refine ih _ a' ⟨k.inv.set hj (by omega), fun q ok hk hki unk no => ?_, ready_mono k.here (Ne.symm hji), hy⟩ (by rw [Array.setIfInBounds_comm _ _ hji]; exact hk)
      refine k.free q ok hk hki ?_ no
      rcases Decidable.em (j = q) with rfl | hjq
      · exact un
      · rwa [getD_set_ne true hjq] at unk
    · obtain ⟨hy, ap⟩ := late k hj
      refine .inr ⟨rfl, (x.put ap (fun cs b => sel i oi cs b hi) (fun cs b => sel j om cs b hom) hy).mono ?_⟩
      rintro a' w' hC ⟨y, r⟩
      exact behind k hj hC y r
def plainAt (md : Region.Mode) (ops : Array Oper) (m : Nat) : Bool :=
  (List.range m).all fun j => (match ops[j]? with | some o => plainOp o | none => false) || Region.waitsFor md ops m j
theorem plainAt_spec {j : Nat} {oj : Oper} (h : plainAt md ops m = true) (hj : j < m) (ho : ops[j]? = some oj) : plainOp oj = true ∨ Region.waitsFor md ops m j = true := by
  have h1 := List.all_eq_true.1 h j (List.mem_range.2 hj)
  simp only [ho, Bool.or_eq_true] at h1
  exact h1
theorem headM_lex {om : Oper} (hom : ops[m]? = some om) {R : Array Bool → Act → World → Prop} {Lq : Act → Prop} (hsel : Region.noSelect ops = true) (hs : Region.sinkB md ops (m + 1) = true) (hc : Region.chainB md ops (m + 1) = true) (hn : m + 1 < ops.size) (hpl : plainAt md ops m = true)
    (hR : ∀ s a w, R s a w → ∀ j, j ∈ Region.ready md ops s → m + 1 ≤ j)
    (hL : ∀ s a, Region.seqB md ops (g + 1) m s = true → Lq a → Mk P ops C om (fun a' w' => R (s.setIfInBounds m true) a' w') a) (l : List Oper) :
    ∀ (k : Nat) (s : Array Bool) (a : Act), (∀ j, j < l.length → l[j]? = ops[k + j]?) → k + l.length = m → HeadInv md ops (m + 1) s → Region.lexHead md ops (g + 1) l.length k s = true →
      wpQuiet P ops C Lq l a → HeadM P md ops C om m R l.length s a := by
  induction l with
  | nil =>
    intro k s a _ hk _ hB h
    obtain rfl : k = m := hk
    have hB : Region.seqB md ops (g + 1) k s = true := hB
    refine ⟨?_, hL s a hB h⟩
    simp only [Region.seqB, Bool.and_eq_true, decide_eq_true_eq] at hB
    exact hB.1
  | cons o l ih =>
    intro k s a hl hk inv hB h
    rw [List.length_cons] at hk
    have hok : ops[k]? = some o := (hl 0 (Nat.succ_pos _)).symm
    simp only [List.length_cons, Region.lexHead, Bool.and_eq_true] at hB
    have hr : k ∈ Region.ready md ops s := by simpa using hB.1.1
    obtain ⟨v, hy, hK⟩ := yieldsIn_of_qOp (K := wpQuiet P ops C Lq l) hok (by unfold qOp; simp only [hok]; exact h)
    refine headM_first hom hok hsel hs hc hn (by omega) (plainAt_spec hpl (by omega) hok) hR _ s a ⟨inv, Region.free_spec hok hB.1.2, hr, hy⟩ ?_
    refine ih (k + 1) _ _ (fun j hj => ?_) (by omega) (inv.set hr (by omega)) hB.2 hK
    have := hl (j + 1) (Nat.succ_lt_succ hj)
    rw [List.getElem?_cons_succ] at this
    rw [this]; congr 1; omega
end
def makerB (ops : Array Oper) (m : Nat) : Bool :=
  Region.noSelect ops && decide (m + 1 < ops.size) && Region.sinkB .any ops (m + 1) && Region.chainB .any ops (m + 1) && plainAt .any ops m && Region.lexHead .any ops (ops.size - (m + 1) + 1) m 0 (Array.replicate ops.size false)
theorem region_maker {P : Program} {id : Nat} {Q : Exit → Act → World → Prop} {a : Act} {w : World} {C : World → Prop} {l rest : List Oper} {om : Oper} (m : Nat) (hl : l.drop m = om :: rest) (hm : P.follows .mixedOrders = true) (hB : makerB l.toArray m = true)
    (hgd : om.guard = none) (hC : C { w with drawn := w.drawn + 1 })
    (h : wpQuiet P l.toArray C (fun a' => ∀ w', C w' → MkUpon P C om (wpList P l.toArray Q rest) a' ((execOp a'.eval om).run P w')) (l.take m) a) : (Code.region id l.toArray true).wp P Q a w := by
  simp only [makerB, Bool.and_eq_true, decide_eq_true_eq] at hB
  obtain ⟨⟨⟨⟨⟨b1, b2⟩, b3⟩, b4⟩, b5⟩, b6⟩ := hB
  have z : m + 1 < l.length := b2
  have t1 : (l.take m).length = m := by rw [List.length_take]; omega
  have d1 : l.drop (m + 1) = rest := by rw [← List.tail_drop, hl]; rfl
  have hom : l.toArray[m]? = some om := by
    have : (l.drop m)[0]? = some om := by rw [hl]; rfl
    rw [List.getElem?_drop] at this; simpa using this
  have t2 : rest.length = l.toArray.size - (m + 1) := by rw [← d1, List.length_drop]; rfl
  have hs0 : ∀ j, (Array.replicate l.toArray.size false).getD j false = false := fun j => getD_replicate_false _ j
  have inv : HeadInv .any l.toArray (m + 1) (Array.replicate l.toArray.size false) :=
    ⟨Array.size_replicate, (fun j oj _ x => by rw [hs0 j] at x; cases x), fun t _ ht => getD_in (by rwa [Array.size_replicate]) (hs0 t)⟩
  have H := headM_lex (P := P) (C := C) (md := .any) (g := l.toArray.size - (m + 1)) hom (R := fun s a w => Region.seqB .any l.toArray (l.toArray.size - (m + 1)) (m + 1) s = true ∧ wpList P l.toArray Q rest a w) b1 b3 b4 b2 b5
    (fun s a w x => seqB_ready x.1) (fun s a' hsq hLq => by
      simp only [Region.seqB, Bool.and_eq_true] at hsq
      refine ⟨by simp [Region.wanted, hgd], fun w' hw' => ?_⟩
      exact (hLq w' hw').mono fun a'' w'' _ z => ⟨hsq.2, z⟩) (l.take m) 0 _ a (fun j hj => by
    rw [t1] at hj
    rw [List.getElem?_take_of_lt hj, Nat.zero_add]; simp) (by rw [t1, Nat.zero_add]) inv (by rw [t1]; exact b6) h
  rw [t1] at H
  have G := headM_any (P := P) (C := C) (Q := Q) (md := .any) (g := l.toArray.size - (m + 1)) hom (fun s a' w' x => by
    have y := wpAny_of_seq (md := .any) (Q' := Q) (P := P) rest (m + 1) s a' w' (fun j => by rw [← d1, List.getElem?_drop]; simp) (by rw [t2]; exact x.1) x.2
    rwa [t2] at y) m _ a _ hC H
  rw [show m + 1 + (l.toArray.size - (m + 1)) = l.toArray.size from by omega] at G
  exact wp_region_any hm G
/-- the same at the worlds that have grown from w -/
theorem region_grow_maker {P : Program} {id : Nat} {Q : Exit → Act → World → Prop} {a : Act} {w : World} {l rest : List Oper} {om : Oper} (m : Nat) (hl : l.drop m = om :: rest) (hm : P.follows .mixedOrders = true) (hB : makerB l.toArray m = true)
    (hgd : om.guard = none)
    (h : wpQuiet P l.toArray (fun w' => ∃ X, w' = gro w X) (fun a' => ∀ w', Below w.heap.size w w' → ∃ v w'', (execOp a'.eval om).run P w' = .ok (.value v) w'' ∧ Below w.heap.size w w'' ∧ wpList P l.toArray Q rest (a'.put om.dst v) w'') (l.take m) a) : (Code.region id l.toArray true).wp P Q a w := by
  refine region_maker (C := fun w' => ∃ X, w' = gro w X) m hl hm hB hgd ⟨⟨{ w with drawn := w.drawn + 1 }, (Below.refl _ w).drew⟩, rfl⟩ ?_
  refine wpQuiet_mono (fun a' k w' ⟨X, e⟩ => ?_) _ _ h
  subst e
  obtain ⟨v, w'', h1, h2, h3⟩ := k _ X.h
  show MkUpon _ _ _ _ _ ((execOp a'.eval om).run P X.w)
  rw [h1]
  exact ⟨⟨⟨w'', h2⟩, rfl⟩, h3⟩
/-- the same where the maker is a call -/
theorem region_grow_call {P : Program} {id : Nat} {Q : Exit → Act → World → Prop} {a : Act} {w : World} {l rest : List Oper} {om : Oper} (m : Nat) (hl : l.drop m = om :: rest) (hm : P.follows .mixedOrders = true) (hB : makerB l.toArray m = true)
    (hgd : om.guard = none)
    (h : wpQuiet P l.toArray (fun w' => ∃ X, w' = gro w X) (fun a' => ∀ w', Below w.heap.size w w' → ∃ f args, (execOp a'.eval om).run P w' = .ok (.enter f args) w' ∧ Calls P f args w' fun e w'' => ∃ v, e = .returned v ∧ Below w.heap.size w w'' ∧ wpList P l.toArray Q rest (a'.put om.dst v) w'') (l.take m) a) : (Code.region id l.toArray true).wp P Q a w := by
  refine region_maker (C := fun w' => ∃ X, w' = gro w X) m hl hm hB hgd ⟨⟨{ w with drawn := w.drawn + 1 }, (Below.refl _ w).drew⟩, rfl⟩ ?_
  refine wpQuiet_mono (fun a' k w' ⟨X, e⟩ => ?_) _ _ h
  subst e
  obtain ⟨f, args, h1, h2⟩ := k _ X.h
  show MkUpon _ _ _ _ _ ((execOp a'.eval om).run P X.w)
  rw [h1]
  exact Calls.mono h2 fun e w'' ⟨v, x, y, z⟩ => ⟨v, x, ⟨⟨w'', y⟩, rfl⟩, z⟩
end Go.Proofs.Ytbdmofmoegmigaa
