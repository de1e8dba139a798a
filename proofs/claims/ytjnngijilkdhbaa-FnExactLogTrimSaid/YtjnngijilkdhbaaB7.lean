/- Several texts in one: Stab, StabL. -/
import Derived.Test.YtjnngijilkdhbaaBT
namespace Go.Proofs.Ytjnngijilkdhbaa
set_option linter.unusedVariables false
set_option linter.unusedSimpArgs false
open Go.RowKit
section
variable {P : Program} {ops : Array Oper} {Q : Exit → Act → World → Prop} {n g : Nat}
def dstOf (ops : Array Oper) (j : Nat) : Option Tmp := (ops[j]?).bind (·.dst)
/-- the act with the values of some operations put -/
def puts (ops : Array Oper) (V : Nat → Value) : List Nat → Act → Act
  | [], a => a
  | j :: l, a => puts ops V l (a.put (dstOf ops j) (V j))
theorem puts_app (V : Nat → Value) : ∀ (l m : List Nat) (a : Act), puts ops V (l ++ m) a = puts ops V m (puts ops V l a)
  | [], _, _ => rfl
  | j :: l, m, a => puts_app V l m _
theorem puts_congr {V V' : Nat → Value} : ∀ (l : List Nat) (a : Act), (∀ j ∈ l, V j = V' j) → puts ops V l a = puts ops V' l a
  | [], _, _ => rfl
  | j :: l, a, h => by
    unfold puts
    rw [h j (by simp)]
    exact puts_congr l _ (fun k hk => h k (by simp [hk]))
/-- two operations do not write the same slot -/
def Far (x y : Option Tmp) : Prop := ∀ d, x = some d → y ≠ some d
theorem puts_put {V : Nat → Value} {d : Option Tmp} {v : Value} : ∀ (l : List Nat) (a : Act), (∀ j ∈ l, Far d (dstOf ops j)) → puts ops V l (a.put d v) = (puts ops V l a).put d v
  | [], _, _ => rfl
  | j :: l, a, h => by
    unfold puts
    rw [Act.put_comm a v (V j) (h j (by simp))]
    exact puts_put l _ (fun k hk => h k (by simp [hk]))
theorem puts_skip {V : Nat → Value} {x : Operand} : ∀ (l : List Nat) (a : Act), (∀ j ∈ l, ∀ d, dstOf ops j = some d → x ≠ .tmp d) → (puts ops V l a).eval x = a.eval x
  | [], _, _ => rfl
  | j :: l, a, h => by
    unfold puts
    rw [puts_skip l _ (fun k hk => h k (by simp [hk])), Act.eval_put (h j (by simp))]
theorem puts_at {V : Nat → Value} {t : Tmp} {i : Nat} (hi : dstOf ops i = some t) : ∀ (l : List Nat) (a : Act), i ∈ l → l.Nodup → (∀ j ∈ l, j ≠ i → Far (some t) (dstOf ops j)) → (puts ops V l a).eval (.tmp t) = (a.put (some t) (V i)).eval (.tmp t)
  | [], _, h, _, _ => absurd h (by simp)
  | j :: l, a, h, hn, hf => by
    unfold puts
    rw [List.nodup_cons] at hn
    by_cases e : j = i
    · subst e
      rw [hi]
      exact puts_skip l _ (fun k hk d hd e => by cases e; exact hf k (by simp [hk]) (fun e => hn.1 (e ▸ hk)) t rfl hd)
    · have hil : i ∈ l := by
        rcases List.mem_cons.1 h with h | h
        · exact absurd h.symm e
        · exact h
      rw [puts_at hi l _ hil hn.2 (fun k hk hne => hf k (by simp [hk]) hne)]
      have hff := hf j (by simp) e
      rw [← Act.put_comm a (V i) (V j) hff, Act.eval_put (fun d hd e2 => by cases e2; exact hff t rfl hd)]
/-- what is asked of one operation: a value or a call that hands one back; the world grows, the mark holds -/
def StM (P : Program) (o : Oper) (Po : Value → World → Prop) (a : Act) (w : World) : Prop :=
  match (execOp a.eval o).run P w with
  | .ok (.value v) w' => Below w.heap.size w w' ∧ Po v w'
  | .ok (.enter f args) w' => Below w.heap.size w w' ∧ Calls P f args w' fun e w'' => ∃ v, e = .returned v ∧ Below w'.heap.size w' w'' ∧ Po v w''
  | _ => False
def looksB (ops : Array Oper) (j i : Nat) : Bool := match dstOf ops j with
  | some d => match ops[i]? with | some o => (o.looksAt ops).contains d | none => false
  | none => false
def farB (x y : Option Tmp) : Bool := match x with | some d => y != some d | none => true
/-- the shape of the region: D i are the operations that i reads -/
def stabB (ops : Array Oper) (D : List (List Nat)) (n : Nat) : Bool :=
  Region.noSelect ops && decide (n < ops.size) && Region.sinkB .any ops n && Region.chainB .any ops n &&
  (List.range n).all (fun i => match ops[i]? with
    | some o => o.guard.isNone && o.after.all (fun e => !Region.binds .any e || decide (e.on < i)) && (D.getD i []).all (fun j => decide (j < n) && decide (j ≠ i) && Region.waitsFor .any ops i j)
    | none => false) &&
  (List.range n).all (fun i => decide ((D.getD i []).Nodup) && (List.range n).all (fun j => decide (j = i) || (farB (dstOf ops i) (dstOf ops j) && ((D.getD i []).contains j || !looksB ops j i)))) &&
  Region.seqB .any ops (ops.size - n) n ((Array.range ops.size).map fun j => decide (j < n))
def doneL (n : Nat) (s : Array Bool) : List Nat := (List.range n).filter (fun j => s.getD j false)
theorem doneL_set {s : Array Bool} {i : Nat} (hi : i < n) (hs : i < s.size) (hu : s.getD i false = false) : ∃ L1 L2, doneL n s = L1 ++ L2 ∧ doneL n (s.setIfInBounds i true) = L1 ++ i :: L2 ∧ i ∉ L1 ∧ i ∉ L2 := by
  obtain ⟨A, B, hAB⟩ := List.append_of_mem (List.mem_range.2 hi)
  have hnd := List.nodup_range (n := n)
  rw [hAB, List.nodup_append] at hnd
  obtain ⟨_, hB, hd⟩ := hnd
  rw [List.nodup_cons] at hB
  have hA : i ∉ A := fun h => hd i h i (by simp) rfl
  refine ⟨A.filter (fun j => s.getD j false), B.filter (fun j => s.getD j false), ?_, ?_, fun h => hA (List.mem_filter.1 h).1, fun h => hB.1 (List.mem_filter.1 h).1⟩
  · unfold doneL
    rw [hAB, List.filter_append, List.filter_cons, if_neg (by simp [hu])]
  · unfold doneL
    rw [hAB, List.filter_append, List.filter_cons, if_pos (by simp [hs])]
    rw [List.filter_congr (l := A) (p := fun j => (s.setIfInBounds i true).getD j false) (q := fun j => s.getD j false) (fun j hj => getD_set_ne false (fun e => by subst e; exact hA hj)), List.filter_congr (l := B) (p := fun j => (s.setIfInBounds i true).getD j false) (q := fun j => s.getD j false) (fun j hj => getD_set_ne false (fun e => by subst e; exact hB.1 hj))]
theorem least_undone (s : Array Bool) : ∀ k, (∀ j, j < k → s.getD j false = true) ∨ ∃ i, i < k ∧ s.getD i false = false ∧ ∀ j, j < i → s.getD j false = true
  | 0 => .inl fun j h => absurd h (Nat.not_lt_zero _)
  | k + 1 => by
    rcases least_undone s k with h | ⟨i, h1, h2, h3⟩
    · cases e : s.getD k false with
      | false => exact .inr ⟨k, Nat.lt_succ_self _, e, h⟩
      | true =>
        refine .inl fun j hj => ?_
        by_cases h1 : j < k
        · exact h j h1
        · have : j = k := by omega
          rw [this]; exact e
    · exact .inr ⟨i, Nat.lt_succ_of_lt h1, h2, h3⟩
theorem farB_spec {x y : Option Tmp} (h : farB x y = true) : Far x y := by
  intro d hd
  subst hd
  simpa [farB] using h
/-- every order of the operations -/
theorem stab_any {C : World → Prop} {Po : Nat → Value → World → Prop} {D : List (List Nat)} {a0 : Act} {l : List Oper} (hB : stabB l.toArray D n = true)
    (hCs : ∀ w w', Below w.heap.size w w' → C w → C w') (hPs : ∀ j u w w', Below w.heap.size w w' → Po j u w → Po j u w')
    (h : ∀ i, i < n → ∃ o, l[i]? = some o ∧ ∀ V w, C w → (∀ j ∈ D.getD i [], Po j (V j) w) → StM P o (Po i) (puts l.toArray V (D.getD i []) a0) w)
    (hfin : ∀ V w, C w → (∀ j, j < n → Po j (V j) w) → wpList P l.toArray Q (l.drop n) (puts l.toArray V (List.range n) a0) w) :
    ∀ (f : Nat) (s : Array Bool) (w : World) (V : Nat → Value), HeadInv .any l.toArray n s → C w → (doneL n s).length + f = n → (∀ j ∈ doneL n s, Po j (V j) w) → wpAny P .any l.toArray Q (f + (l.toArray.size - n)) s (puts l.toArray V (doneL n s) a0) w := by
  simp only [stabB, Bool.and_eq_true, decide_eq_true_eq, List.all_eq_true, List.mem_range] at hB
  obtain ⟨⟨⟨⟨⟨⟨b1, b2⟩, b3⟩, b4⟩, b5⟩, b6⟩, b7⟩ := hB
  have z : n < l.length := b2
  have t2 : (l.drop n).length = l.toArray.size - n := List.length_drop
  intro f
  induction f with
  | zero =>
    intro s w V inv hC hl hP
    have hall : doneL n s = List.range n := by
      unfold doneL at hl ⊢
      apply List.filter_eq_self.2
      have : ((List.range n).filter (fun j => s.getD j false)).length = (List.range n).length := by rw [List.length_range]; exact hl
      exact List.length_filter_eq_length_iff.1 this
    have hd : ∀ j, j < n → s.getD j false = true := fun j hj => by
      have : j ∈ doneL n s := by rw [hall]; exact List.mem_range.2 hj
      exact (List.mem_filter.1 this).2
    have hs : s = (Array.range l.toArray.size).map fun j => decide (j < n) := by
      apply Array.ext
      · simp [inv.size]
      · intro j h1 h2
        simp only [Array.getElem_map, Array.getElem_range]
        by_cases hj : j < n
        · have := hd j hj
          rw [Array.getD_eq_getD_getElem?, Array.getElem?_eq_getElem h1] at this
          simpa [hj] using this
        · have := inv.tail j (Nat.le_of_not_lt hj) (by rw [← inv.size]; exact h1)
          rw [Array.getD_eq_getD_getElem?, Array.getElem?_eq_getElem h1] at this
          simpa [hj] using this
    have y := wpAny_of_seq (md := .any) (Q' := Q) (P := P) (l.drop n) n s (puts l.toArray V (doneL n s) a0) w (fun j => by rw [List.getElem?_drop, List.getElem?_toArray]) (by rw [t2, hs]; exact b7) (by rw [hall]; exact hfin V w hC (fun j hj => hP j (by rw [hall]; exact List.mem_range.2 hj)))
    rw [t2] at y
    rw [Nat.zero_add]
    exact y
  | succ f ih =>
    intro s w V inv hC hl hP
    rw [show f + 1 + (l.toArray.size - n) = (f + (l.toArray.size - n)) + 1 by omega]
    obtain ⟨i0, h1, h2, h3⟩ : ∃ i, i < n ∧ s.getD i false = false ∧ ∀ j, j < i → s.getD j false = true := by
      rcases least_undone s n with h | h
      · exfalso
        have : doneL n s = List.range n := List.filter_eq_self.2 (fun j hj => h j (List.mem_range.1 hj))
        rw [this, List.length_range] at hl
        omega
      · exact h
    have hin : ∀ {i}, i < n → i < s.size := fun hi => by rw [inv.size]; exact Nat.lt_trans hi z
    refine ⟨fun h0 => ?_, fun i hi => ?_⟩
    · exfalso
      have : i0 ∈ Region.ready .any l.toArray s := by
        refine mem_ready.2 ⟨getD_in (hin h1) h2, ?_⟩
        have := b5 i0 h1
        cases ho : l.toArray[i0]? with
        | none => rw [ho] at this; cases this
        | some o =>
          rw [ho] at this
          simp only [Bool.and_eq_true, Array.all_eq_true_iff_forall_mem, Bool.or_eq_true, decide_eq_true_eq] at this
          refine ⟨o, rfl, fun e he hb => ?_⟩
          rcases this.1.2 e he with h | h
          · rw [hb] at h; cases h
          · exact h3 _ h
      rw [h0] at this
      cases this
    · have hin' : i < n := Nat.lt_of_not_le fun h => tail_waits b3 b4 z inv (n - i0) i0 rfl h1 (getD_in (hin h1) h2) i h hi
      obtain ⟨un, o, ho, haft⟩ := mem_ready.1 hi
      obtain ⟨o', ho', hop⟩ := h i hin'
      have ho2 : l[i]? = some o := by simpa using ho
      obtain rfl : o' = o := Option.some.inj (ho'.symm.trans ho2)
      have hb5 := b5 i hin'
      rw [ho] at hb5
      simp only [Bool.and_eq_true, Array.all_eq_true_iff_forall_mem, Bool.or_eq_true, decide_eq_true_eq, List.all_eq_true] at hb5
      obtain ⟨⟨hg, _⟩, hD⟩ := hb5
      obtain ⟨hDn, hfar⟩ := b6 i hin'
      have hDd : ∀ j ∈ D.getD i [], j ∈ doneL n s := fun j hj => by
        obtain ⟨⟨hjn, hji⟩, hwt⟩ := hD j hj
        obtain ⟨oj, hoj, e, he, hb, hon⟩ := Region.waitsFor_spec hwt
        rw [ho] at hoj
        cases hoj
        have := haft e he hb
        rw [hon] at this
        exact List.mem_filter.2 ⟨List.mem_range.2 hjn, this⟩
      have hEn : (doneL n s).Nodup := List.Pairwise.filter _ List.nodup_range
      have hEi : ∀ j ∈ doneL n s, j < n ∧ j ≠ i := fun j hj => by
        obtain ⟨x1, x2⟩ := List.mem_filter.1 hj
        refine ⟨List.mem_range.1 x1, fun e => ?_⟩
        subst e
        rw [getD_both un] at x2
        cases x2
      have hsel := Region.noSelect_spec b1
      have hex : execOp (puts l.toArray V (doneL n s) a0).eval o' = execOp (puts l.toArray V (D.getD i []) a0).eval o' := by
        refine execOp_congr o' (fun cs b => hsel i o' cs b ho) (fun x hx => ?_)
        by_cases hex : ∃ j t, j ∈ D.getD i [] ∧ dstOf l.toArray j = some t ∧ x = .tmp t
        · obtain ⟨j, t, hj, hjt, rfl⟩ := hex
          have hjE := hDd j hj
          have hdis : ∀ k, k < n → k ≠ j → Far (some t) (dstOf l.toArray k) := fun k hk hkj => by
            have := (b6 j (hEi j hjE).1).2 k hk
            simp only [Bool.or_eq_true, Bool.and_eq_true, decide_eq_true_eq] at this
            rcases this with h | h
            · exact absurd h hkj
            · rw [← hjt]; exact farB_spec h.1
          rw [puts_at hjt _ _ hjE hEn (fun k hk hkj => hdis k (hEi k hk).1 hkj), puts_at hjt _ _ hj hDn (fun k hk hkj => hdis k (hEi k (hDd k hk)).1 hkj)]
        · rw [puts_skip, puts_skip]
          · intro j hj d hd e
            exact hex ⟨j, d, hj, hd, e⟩
          · intro j hj d hd e
            by_cases hjD : j ∈ D.getD i []
            · exact hex ⟨j, d, hjD, hd, e⟩
            · have := hfar j (hEi j hj).1
              simp only [Bool.or_eq_true, Bool.and_eq_true, decide_eq_true_eq, Bool.not_eq_true', List.contains_iff_mem] at this
              rcases this with h | ⟨_, h | h⟩
              · exact (hEi j hj).2 h
              · exact hjD h
              · unfold looksB at h
                rw [hd, ho] at h
                simp only at h
                have hmem : d ∈ o'.looksAt l.toArray := by
                  subst e
                  exact List.mem_append_left _ (List.mem_filterMap.2 ⟨.tmp d, by simpa using hx, rfl⟩)
                have := List.contains_iff_mem.2 hmem
                rw [this] at h
                cases h
      have hst := hop V w hC (fun j hj => hP j (hDd j hj))
      have hdst : dstOf l.toArray i = o'.dst := by unfold dstOf; rw [ho]; rfl
      obtain ⟨L1, L2, e1, e2, n1, n2⟩ := doneL_set hin' (hin hin') (getD_both un)
      have next : ∀ v w', Below w.heap.size w w' → Po i v w' → wpAny P .any l.toArray Q (f + (l.toArray.size - n)) (s.setIfInBounds i true) ((puts l.toArray V (doneL n s) a0).put o'.dst v) w' := fun v w' hb hv => by
        have hV' : (puts l.toArray V (doneL n s) a0).put o'.dst v = puts l.toArray (fun j => if j = i then v else V j) (doneL n (s.setIfInBounds i true)) a0 := by
          rw [e1, e2, puts_app, puts_app, puts_congr (V := V) (V' := fun j => if j = i then v else V j) L1 a0 (fun j hj => by show V j = if j = i then v else V j; rw [if_neg (fun e => by subst e; exact n1 hj)])]
          rw [puts_congr (V := V) (V' := fun j => if j = i then v else V j) L2 _ (fun j hj => by show V j = if j = i then v else V j; rw [if_neg (fun e => by subst e; exact n2 hj)])]
          show _ = puts l.toArray _ L2 (Act.put _ (dstOf l.toArray i) (if i = i then v else V i))
          rw [if_pos rfl, hdst]
          refine (puts_put L2 _ (fun j hj => ?_)).symm
          have hjE := hEi j (by rw [e1]; exact List.mem_append_right _ hj)
          have := hfar j hjE.1
          simp only [Bool.or_eq_true, Bool.and_eq_true, decide_eq_true_eq] at this
          rcases this with h | h
          · exact absurd h hjE.2
          · rw [← hdst]; exact farB_spec h.1
        rw [hV']
        refine ih _ w' _ (inv.set hi hin') (hCs _ _ hb hC) ?_ (fun j hj => ?_)
        · rw [e2, List.length_append, List.length_cons]
          rw [e1, List.length_append] at hl
          omega
        · show Po j (if j = i then v else V j) w'
          by_cases e : j = i
          · subst e; rw [if_pos rfl]; exact hv
          · rw [if_neg e]
            rw [e2] at hj
            refine hPs _ _ _ _ hb (hP j ?_)
            rw [e1]
            rcases List.mem_append.1 hj with h | h
            · exact List.mem_append_left _ h
            · rcases List.mem_cons.1 h with h | h
              · exact absurd h e
              · exact List.mem_append_right _ h
      refine Dow.op (C := fun _ => True) ⟨o', ho, .inl ⟨wanted_none (by simpa using hg), ?_⟩⟩
      rw [hex]
      unfold StM at hst
      generalize (execOp (puts l.toArray V (D.getD i []) a0).eval o').run P w = r at hst
      cases r with
      | halt x w' => exact hst.elim
      | ok q w' =>
        cases q
        case value v => exact ⟨trivial, next v w' hst.1 hst.2⟩
        case enter fn args => exact Calls.mono hst.2 fun e w'' ⟨v, e3, hb, hv⟩ => ⟨v, e3, trivial, next v w'' (btr hst.1 hb) hv⟩
        all_goals exact hst.elim
end
/-- a region that draws its order: each operation by itself, then what lies behind -/
theorem region_stab {P : Program} (C : World → Prop) (Po : Nat → Value → World → Prop) (D : List (List Nat)) (n : Nat) {id : Nat} {Q : Exit → Act → World → Prop} {a : Act} {w : World} {l : List Oper} (hm : P.follows .mixedOrders = true) (hB : stabB l.toArray D n = true)
    (hC : C w.drew) (hCs : ∀ w w', Below w.heap.size w w' → C w → C w') (hPs : ∀ j u w w', Below w.heap.size w w' → Po j u w → Po j u w')
    (h : ∀ i, i < n → ∃ o, l[i]? = some o ∧ ∀ V w, C w → (∀ j ∈ D.getD i [], Po j (V j) w) → StM P o (Po i) (puts l.toArray V (D.getD i []) a) w)
    (hfin : ∀ V w, C w → (∀ j, j < n → Po j (V j) w) → wpList P l.toArray Q (l.drop n) (puts l.toArray V (List.range n) a) w) : (Code.region id l.toArray true).wp P Q a w := by
  have hB' := hB
  simp only [stabB, Bool.and_eq_true, decide_eq_true_eq] at hB'
  have z : n < l.length := hB'.1.1.1.1.1.2
  have hs0 : ∀ j, (Array.replicate l.toArray.size false).getD j false = false := fun j => getD_replicate_false _ j
  have inv : HeadInv .any l.toArray n (Array.replicate l.toArray.size false) :=
    ⟨Array.size_replicate, (fun j oj _ x => by rw [hs0 j] at x; cases x), fun t _ ht => getD_in (by rwa [Array.size_replicate]) (hs0 t)⟩
  have hd : doneL n (Array.replicate l.toArray.size false) = [] := List.filter_eq_nil_iff.2 (fun j _ => by rw [hs0 j]; decide)
  have G := stab_any (P := P) (Q := Q) (a0 := a) hB hCs hPs h hfin n _ w.drew (fun _ => undef) inv hC (by rw [hd]; simp) (by rw [hd]; simp)
  rw [hd, show n + (l.toArray.size - n) = l.toArray.size by simp; omega] at G
  exact wp_region_any hm G
section
variable {P : Program} {o : Oper} {Po : Value → World → Prop} {a : Act} {w : World}
theorem stm_val {v : Value} {w' : World} (h : (execOp a.eval o).run P w = .ok (.value v) w') (hb : Below w.heap.size w w') (hp : Po v w') : StM P o Po a w := by
  unfold StM; rw [h]; exact ⟨hb, hp⟩
theorem stm_quiet {v : Value} (h : (execOp a.eval o).run P w = .ok (.value v) w) (hp : Po v w) : StM P o Po a w := stm_val h (Below.refl _ _) hp
theorem stm_call {f : FuncId} {args : Array Value} (h : (execOp a.eval o).run P w = .ok (.enter f args) w) (hc : Calls P f args w fun e w'' => ∃ v, e = .returned v ∧ Below w.heap.size w w'' ∧ Po v w'') : StM P o Po a w := by
  unfold StM; rw [h]; exact ⟨Below.refl _ _, hc⟩
theorem stm_append {s x : Operand} {t : TypeId} (ho : o.op = .call { callee := .builtin .append, args := #[s, x], argTypes := #[t, t] }) {v u v' : Value} {w' : World} (hs : a.eval s = v) (hx : a.eval x = u)
    (hr : (Builtin.append_ #[t, t] o.type #[v, u]).run P w = .ok v' w') (hb : Below w.heap.size w w') (hp : Po v' w') : StM P o Po a w := by
  refine stm_val ?_ hb hp
  unfold execOp
  simp only [ho, resolve, invoke, builtin, Sem.run_bind, Sem.run_pure, Result.andThen_ok, List.map_toArray, List.map_cons, List.map_nil, hs, hx, hr]
end
end Go.Proofs.Ytjnngijilkdhbaa

namespace Go.Proofs.Ytjnngijilkdhbaa
set_option linter.unusedVariables false
set_option linter.unusedSimpArgs false
open Go.RowKit
/-- what is asked of one operation: a value or a call that hands one back, with R of it -/
def StL (P : Program) (o : Oper) (a : Act) (w : World) (R : Value → World → Prop) : Prop :=
  match (execOp a.eval o).run P w with
  | .ok (.value v) w' => R v w'
  | .ok (.enter f args) w' => Calls P f args w' fun e w'' => ∃ v, e = .returned v ∧ R v w''
  | _ => False
section
variable {P : Program} {ops : Array Oper} {Q : Exit → Act → World → Prop} {n g : Nat}
/-- T: what must have run ahead; K: the marks that an operation uses up -/
def takB (D T K : List (List Nat)) (n : Nat) : Bool :=
  (List.range n).all (fun j => (D.getD j []).all (fun k => decide (k < j)) && (T.getD j []).all (fun k => (D.getD j []).contains k || (D.getD j []).any (fun d => (T.getD d []).contains k))) &&
  (List.range n).all (fun i => (List.range n).all (fun k => decide (i = k) || (D.getD i []).all (fun j => !(K.getD k []).contains j || (T.getD k []).contains i)))
/-- every order of the operations -/
theorem stabL_any {C : World → Prop} {Po : Nat → Value → World → Prop} {D T K : List (List Nat)} {a0 : Act} {l : List Oper} (hB : stabB l.toArray D n = true)
    (hTK : takB D T K n = true)
    (h : ∀ i, i < n → ∃ o, l[i]? = some o ∧ ∀ V w, C w → (∀ j ∈ D.getD i [], Po j (V j) w) → StL P o (puts l.toArray V (D.getD i []) a0) w (fun v w' => C w' ∧ Po i v w' ∧ ∀ j u, j < n → j ≠ i → i ∉ T.getD j [] → j ∉ K.getD i [] → Po j u w → Po j u w'))
    (hfin : ∀ V w, C w → (∀ j, j < n → (∀ i, i < n → j ∉ K.getD i []) → Po j (V j) w) → wpList P l.toArray Q (l.drop n) (puts l.toArray V (List.range n) a0) w) :
    ∀ (f : Nat) (s : Array Bool) (w : World) (V : Nat → Value), HeadInv .any l.toArray n s → C w → (doneL n s).length + f = n → (∀ j ∈ doneL n s, (∀ i ∈ doneL n s, j ∉ K.getD i []) → Po j (V j) w) → wpAny P .any l.toArray Q (f + (l.toArray.size - n)) s (puts l.toArray V (doneL n s) a0) w := by
  simp only [stabB, Bool.and_eq_true, decide_eq_true_eq, List.all_eq_true, List.mem_range] at hB
  obtain ⟨⟨⟨⟨⟨⟨b1, b2⟩, b3⟩, b4⟩, b5⟩, b6⟩, b7⟩ := hB
  have z : n < l.length := b2
  have t2 : (l.drop n).length = l.toArray.size - n := List.length_drop
  simp only [takB, Bool.and_eq_true, decide_eq_true_eq, List.all_eq_true, List.mem_range, Bool.or_eq_true, List.contains_iff_mem, List.any_eq_true, Bool.not_eq_true'] at hTK
  obtain ⟨hT1, hT2⟩ := hTK
  have hTs : ∀ j, j < n → (∀ k ∈ D.getD j [], k < j) ∧ ∀ k ∈ T.getD j [], k ∈ D.getD j [] ∨ ∃ d, d ∈ D.getD j [] ∧ k ∈ T.getD d [] := fun j hj => hT1 j hj
  have hKs : ∀ i, i < n → ∀ k, k < n → i ≠ k → ∀ j ∈ D.getD i [], j ∈ K.getD k [] → i ∈ T.getD k [] := fun i hi k hk hne j hj hjk => by
    rcases hT2 i hi k hk with h | h
    · exact absurd h hne
    · rcases h j hj with h | h
      · rw [List.contains_iff_mem.2 hjk] at h; cases h
      · exact h
  intro f
  induction f with
  | zero =>
    intro s w V inv hC hl hP
    have hall : doneL n s = List.range n := by
      unfold doneL at hl ⊢
      apply List.filter_eq_self.2
      have : ((List.range n).filter (fun j => s.getD j false)).length = (List.range n).length := by rw [List.length_range]; exact hl
      exact List.length_filter_eq_length_iff.1 this
    have hd : ∀ j, j < n → s.getD j false = true := fun j hj => by
      have : j ∈ doneL n s := by rw [hall]; exact List.mem_range.2 hj
      exact (List.mem_filter.1 this).2
    have hs : s = (Array.range l.toArray.size).map fun j => decide (j < n) := by
      apply Array.ext
      · simp [inv.size]
      · intro j h1 h2
        simp only [Array.getElem_map, Array.getElem_range]
        by_cases hj : j < n
        · have := hd j hj
          rw [Array.getD_eq_getD_getElem?, Array.getElem?_eq_getElem h1] at this
          simpa [hj] using this
        · have := inv.tail j (Nat.le_of_not_lt hj) (by rw [← inv.size]; exact h1)
          rw [Array.getD_eq_getD_getElem?, Array.getElem?_eq_getElem h1] at this
          simpa [hj] using this
    have y := wpAny_of_seq (md := .any) (Q' := Q) (P := P) (l.drop n) n s (puts l.toArray V (doneL n s) a0) w (fun j => by rw [List.getElem?_drop, List.getElem?_toArray]) (by rw [t2, hs]; exact b7) (by rw [hall]; exact hfin V w hC (fun j hj hk => hP j (by rw [hall]; exact List.mem_range.2 hj) (fun i hi => hk i (by rw [hall] at hi; exact List.mem_range.1 hi))))
    rw [t2] at y
    rw [Nat.zero_add]
    exact y
  | succ f ih =>
    intro s w V inv hC hl hP
    rw [show f + 1 + (l.toArray.size - n) = (f + (l.toArray.size - n)) + 1 by omega]
    obtain ⟨i0, h1, h2, h3⟩ : ∃ i, i < n ∧ s.getD i false = false ∧ ∀ j, j < i → s.getD j false = true := by
      rcases least_undone s n with h | h
      · exfalso
        have : doneL n s = List.range n := List.filter_eq_self.2 (fun j hj => h j (List.mem_range.1 hj))
        rw [this, List.length_range] at hl
        omega
      · exact h
    have hin : ∀ {i}, i < n → i < s.size := fun hi => by rw [inv.size]; exact Nat.lt_trans hi z
    refine ⟨fun h0 => ?_, fun i hi => ?_⟩
    · exfalso
      have : i0 ∈ Region.ready .any l.toArray s := by
        refine mem_ready.2 ⟨getD_in (hin h1) h2, ?_⟩
        have := b5 i0 h1
        cases ho : l.toArray[i0]? with
        | none => rw [ho] at this; cases this
        | some o =>
          rw [ho] at this
          simp only [Bool.and_eq_true, Array.all_eq_true_iff_forall_mem, Bool.or_eq_true, decide_eq_true_eq] at this
          refine ⟨o, rfl, fun e he hb => ?_⟩
          rcases this.1.2 e he with h | h
          · rw [hb] at h; cases h
          · exact h3 _ h
      rw [h0] at this
      cases this
    · have hin' : i < n := Nat.lt_of_not_le fun h => tail_waits b3 b4 z inv (n - i0) i0 rfl h1 (getD_in (hin h1) h2) i h hi
      obtain ⟨un, o, ho, haft⟩ := mem_ready.1 hi
      obtain ⟨o', ho', hop⟩ := h i hin'
      have ho2 : l[i]? = some o := by simpa using ho
      obtain rfl : o' = o := Option.some.inj (ho'.symm.trans ho2)
      have hb5 := b5 i hin'
      rw [ho] at hb5
      simp only [Bool.and_eq_true, Array.all_eq_true_iff_forall_mem, Bool.or_eq_true, decide_eq_true_eq, List.all_eq_true] at hb5
      obtain ⟨⟨hg, _⟩, hD⟩ := hb5
      obtain ⟨hDn, hfar⟩ := b6 i hin'
      have hDd : ∀ j ∈ D.getD i [], j ∈ doneL n s := fun j hj => by
        obtain ⟨⟨hjn, hji⟩, hwt⟩ := hD j hj
        obtain ⟨oj, hoj, e, he, hb, hon⟩ := Region.waitsFor_spec hwt
        rw [ho] at hoj
        cases hoj
        have := haft e he hb
        rw [hon] at this
        exact List.mem_filter.2 ⟨List.mem_range.2 hjn, this⟩
      have hEn : (doneL n s).Nodup := List.Pairwise.filter _ List.nodup_range
      have hEi : ∀ j ∈ doneL n s, j < n ∧ j ≠ i := fun j hj => by
        obtain ⟨x1, x2⟩ := List.mem_filter.1 hj
        refine ⟨List.mem_range.1 x1, fun e => ?_⟩
        subst e
        rw [getD_both un] at x2
        cases x2
      have hsel := Region.noSelect_spec b1
      have hex : execOp (puts l.toArray V (doneL n s) a0).eval o' = execOp (puts l.toArray V (D.getD i []) a0).eval o' := by
        refine execOp_congr o' (fun cs b => hsel i o' cs b ho) (fun x hx => ?_)
        by_cases hex : ∃ j t, j ∈ D.getD i [] ∧ dstOf l.toArray j = some t ∧ x = .tmp t
        · obtain ⟨j, t, hj, hjt, rfl⟩ := hex
          have hjE := hDd j hj
          have hdis : ∀ k, k < n → k ≠ j → Far (some t) (dstOf l.toArray k) := fun k hk hkj => by
            have := (b6 j (hEi j hjE).1).2 k hk
            simp only [Bool.or_eq_true, Bool.and_eq_true, decide_eq_true_eq] at this
            rcases this with h | h
            · exact absurd h hkj
            · rw [← hjt]; exact farB_spec h.1
          rw [puts_at hjt _ _ hjE hEn (fun k hk hkj => hdis k (hEi k hk).1 hkj), puts_at hjt _ _ hj hDn (fun k hk hkj => hdis k (hEi k (hDd k hk)).1 hkj)]
        · rw [puts_skip, puts_skip]
          · intro j hj d hd e
            exact hex ⟨j, d, hj, hd, e⟩
          · intro j hj d hd e
            by_cases hjD : j ∈ D.getD i []
            · exact hex ⟨j, d, hjD, hd, e⟩
            · have := hfar j (hEi j hj).1
              simp only [Bool.or_eq_true, Bool.and_eq_true, decide_eq_true_eq, Bool.not_eq_true', List.contains_iff_mem] at this
              rcases this with h | ⟨_, h | h⟩
              · exact (hEi j hj).2 h
              · exact hjD h
              · unfold looksB at h
                rw [hd, ho] at h
                simp only at h
                have hmem : d ∈ o'.looksAt l.toArray := by
                  subst e
                  exact List.mem_append_left _ (List.mem_filterMap.2 ⟨.tmp d, by simpa using hx, rfl⟩)
                have := List.contains_iff_mem.2 hmem
                rw [this] at h
                cases h
      have hopenD : ∀ k ∈ doneL n s, ∀ d ∈ D.getD k [], d ∈ doneL n s := fun k hk d hik => by
        have hb5k := b5 k (hEi k hk).1
        cases hok : l.toArray[k]? with
        | none => rw [hok] at hb5k; cases hb5k
        | some ok =>
          rw [hok] at hb5k
          simp only [Bool.and_eq_true, Array.all_eq_true_iff_forall_mem, Bool.or_eq_true, decide_eq_true_eq, List.all_eq_true] at hb5k
          obtain ⟨⟨hdn, _⟩, hwt⟩ := hb5k.2 d hik
          obtain ⟨oj, hoj, e, he, hb, hon⟩ := Region.waitsFor_spec hwt
          have hd := inv.closed k oj hoj (List.mem_filter.1 hk).2 e he hb
          rw [hon] at hd
          exact List.mem_filter.2 ⟨List.mem_range.2 hdn, hd⟩
      have hT : ∀ (m k : Nat), k < m → k ∈ doneL n s → ∀ d ∈ T.getD k [], d ∈ doneL n s := by
        intro m
        induction m with
        | zero => intro k h; omega
        | succ m ihm =>
          intro k _ hk d hd
          obtain ⟨t1, t2⟩ := hTs k (hEi k hk).1
          rcases t2 d hd with h | ⟨d2, h2, h3⟩
          · exact hopenD k hk d h
          · have := t1 d2 h2
            exact ihm d2 (by omega) (hopenD k hk d2 h2) d h3
      have hopen : ∀ k ∈ doneL n s, i ∉ T.getD k [] := fun k hk hik => by
        have := (List.mem_filter.1 (hT (k + 1) k (Nat.lt_succ_self _) hk i hik)).2
        rw [getD_both un] at this
        cases this
      have hst := hop V w hC (fun j hj => hP j (hDd j hj) (fun k hk hjk => hopen k hk (hKs i hin' k (hEi k hk).1 (fun e => (hEi k hk).2 e.symm) j hj hjk)))
      have hdst : dstOf l.toArray i = o'.dst := by unfold dstOf; rw [ho]; rfl
      obtain ⟨L1, L2, e1, e2, n1, n2⟩ := doneL_set hin' (hin hin') (getD_both un)
      have next : ∀ v w', C w' ∧ Po i v w' ∧ (∀ j u, j < n → j ≠ i → i ∉ T.getD j [] → j ∉ K.getD i [] → Po j u w → Po j u w') → wpAny P .any l.toArray Q (f + (l.toArray.size - n)) (s.setIfInBounds i true) ((puts l.toArray V (doneL n s) a0).put o'.dst v) w' := fun v w' ⟨hC', hv, hb⟩ => by
        have hV' : (puts l.toArray V (doneL n s) a0).put o'.dst v = puts l.toArray (fun j => if j = i then v else V j) (doneL n (s.setIfInBounds i true)) a0 := by
          rw [e1, e2, puts_app, puts_app, puts_congr (V := V) (V' := fun j => if j = i then v else V j) L1 a0 (fun j hj => by show V j = if j = i then v else V j; rw [if_neg (fun e => by subst e; exact n1 hj)])]
          rw [puts_congr (V := V) (V' := fun j => if j = i then v else V j) L2 _ (fun j hj => by show V j = if j = i then v else V j; rw [if_neg (fun e => by subst e; exact n2 hj)])]
          show _ = puts l.toArray _ L2 (Act.put _ (dstOf l.toArray i) (if i = i then v else V i))
          rw [if_pos rfl, hdst]
          refine (puts_put L2 _ (fun j hj => ?_)).symm
          have hjE := hEi j (by rw [e1]; exact List.mem_append_right _ hj)
          have := hfar j hjE.1
          simp only [Bool.or_eq_true, Bool.and_eq_true, decide_eq_true_eq] at this
          rcases this with h | h
          · exact absurd h hjE.2
          · rw [← hdst]; exact farB_spec h.1
        rw [hV']
        refine ih _ w' _ (inv.set hi hin') hC' ?_ (fun j hj hjk => ?_)
        · rw [e2, List.length_append, List.length_cons]
          rw [e1, List.length_append] at hl
          omega
        · show Po j (if j = i then v else V j) w'
          by_cases e : j = i
          · subst e; rw [if_pos rfl]; exact hv
          · rw [if_neg e]
            have hsub : ∀ k ∈ doneL n s, k ∈ doneL n (s.setIfInBounds i true) := fun k hk => by
              rw [e2]
              rw [e1] at hk
              rcases List.mem_append.1 hk with h | h
              · exact List.mem_append_left _ h
              · exact List.mem_append_right _ (List.mem_cons_of_mem _ h)
            have hiM : i ∈ doneL n (s.setIfInBounds i true) := by rw [e2]; exact List.mem_append_right _ (List.mem_cons_self ..)
            have hjE : j ∈ doneL n s := by
              rw [e1]
              rw [e2] at hj
              rcases List.mem_append.1 hj with h | h
              · exact List.mem_append_left _ h
              · rcases List.mem_cons.1 h with h | h
                · exact absurd h e
                · exact List.mem_append_right _ h
            exact hb j _ (hEi j hjE).1 e (hopen j hjE) (hjk i hiM) (hP j hjE (fun k hk => hjk k (hsub k hk)))
      refine Dow.op (C := fun _ => True) ⟨o', ho, .inl ⟨wanted_none (by simpa using hg), ?_⟩⟩
      rw [hex]
      unfold StL at hst
      generalize (execOp (puts l.toArray V (D.getD i []) a0).eval o').run P w = r at hst
      cases r with
      | halt x w' => exact hst.elim
      | ok q w' =>
        cases q
        case value v => exact ⟨trivial, next v w' hst⟩
        case enter fn args => exact Calls.mono hst fun e w'' ⟨v, e3, hv⟩ => ⟨v, e3, trivial, next v w'' hv⟩
        all_goals exact hst.elim
end
/-- a region that draws its order: each operation by itself, then what lies behind -/
theorem region_stabL {P : Program} (C : World → Prop) (Po : Nat → Value → World → Prop) (D T K : List (List Nat)) (n : Nat) {id : Nat} {Q : Exit → Act → World → Prop} {a : Act} {w : World} {l : List Oper} (hm : P.follows .mixedOrders = true) (hB : stabB l.toArray D n = true)
    (hTK : takB D T K n = true)
    (hC : C w.drew)
    (h : ∀ i, i < n → ∃ o, l[i]? = some o ∧ ∀ V w, C w → (∀ j ∈ D.getD i [], Po j (V j) w) → StL P o (puts l.toArray V (D.getD i []) a) w (fun v w' => C w' ∧ Po i v w' ∧ ∀ j u, j < n → j ≠ i → i ∉ T.getD j [] → j ∉ K.getD i [] → Po j u w → Po j u w'))
    (hfin : ∀ V w, C w → (∀ j, j < n → (∀ i, i < n → j ∉ K.getD i []) → Po j (V j) w) → wpList P l.toArray Q (l.drop n) (puts l.toArray V (List.range n) a) w) : (Code.region id l.toArray true).wp P Q a w := by
  have hB' := hB
  simp only [stabB, Bool.and_eq_true, decide_eq_true_eq] at hB'
  have z : n < l.length := hB'.1.1.1.1.1.2
  have hs0 : ∀ j, (Array.replicate l.toArray.size false).getD j false = false := fun j => getD_replicate_false _ j
  have inv : HeadInv .any l.toArray n (Array.replicate l.toArray.size false) :=
    ⟨Array.size_replicate, (fun j oj _ x => by rw [hs0 j] at x; cases x), fun t _ ht => getD_in (by rwa [Array.size_replicate]) (hs0 t)⟩
  have hd : doneL n (Array.replicate l.toArray.size false) = [] := List.filter_eq_nil_iff.2 (fun j _ => by rw [hs0 j]; decide)
  have G := stabL_any (P := P) (Q := Q) (T := T) (K := K) (a0 := a) hB hTK h hfin n _ w.drew (fun _ => undef) inv hC (by rw [hd]; simp) (by rw [hd]; simp)
  rw [hd, show n + (l.toArray.size - n) = l.toArray.size by simp; omega] at G
  exact wp_region_any hm G
section
variable {P : Program} {o : Oper} {a : Act} {w : World} {R : Value → World → Prop}
theorem stl_val {v : Value} {w' : World} (h : (execOp a.eval o).run P w = .ok (.value v) w') (hr : R v w') : StL P o a w R := by
  unfold StL; rw [h]; exact hr
theorem stl_call {f : FuncId} {args : Array Value} (h : (execOp a.eval o).run P w = .ok (.enter f args) w) (hc : Calls P f args w fun e w'' => ∃ v, e = .returned v ∧ R v w'') : StL P o a w R := by
  unfold StL; rw [h]; exact hc
theorem stl_append {s x : Operand} {t : TypeId} (ho : o.op = .call { callee := .builtin .append, args := #[s, x], argTypes := #[t, t] }) {v u v' : Value} {w' : World} (hs : a.eval s = v) (hx : a.eval x = u)
    (hr : (Builtin.append_ #[t, t] o.type #[v, u]).run P w = .ok v' w') (h : R v' w') : StL P o a w R := by
  refine stl_val ?_ h
  unfold execOp
  simp only [ho, resolve, invoke, builtin, Sem.run_bind, Sem.run_pure, Result.andThen_ok, List.map_toArray, List.map_cons, List.map_nil, hs, hx, hr]
end
end Go.Proofs.Ytjnngijilkdhbaa
