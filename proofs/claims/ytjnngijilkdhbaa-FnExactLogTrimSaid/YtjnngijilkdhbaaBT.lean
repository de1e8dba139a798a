/- Several texts in one: Tail, Maker, Perm, Multi, Plan. -/
import Derived.Test.YtjnngijilkdhbaaBase
import Derived.StillTail
import Derived.OrdersHeld
namespace Go.Proofs.Ytjnngijilkdhbaa
set_option linter.unusedVariables false
set_option linter.unusedSimpArgs false
open Go.RowKit
section
variable {P : Program} {md : Region.Mode} {ops : Array Oper} {C : World → Prop} {n g : Nat}
/-- the head in whatever order is picked; L is asked when f operations have come -/
def HeadQ (P : Program) (md : Region.Mode) (ops : Array Oper) (C : World → Prop) (n : Nat) (L : Array Bool → Act → Prop) : Nat → Array Bool → Act → Prop
  | 0 => L
  | f + 1 => fun s a => Region.ready md ops s ≠ [] ∧ ∀ i, i ∈ Region.ready md ops s → i < n ∧ qOp P ops C i (HeadQ P md ops C n L f (s.setIfInBounds i true)) a
theorem headQ_any {L : Array Bool → Act → Prop} {Q : Exit → Act → World → Prop} (hL : ∀ s a w, C w → L s a → wpAny P md ops Q g s a w) (f : Nat) :
    ∀ s a w, C w → HeadQ P md ops C n L f s a → wpAny P md ops Q (f + g) s a w := by
  induction f with
  | zero => intro s a w hw h; rw [Nat.zero_add]; exact hL s a w hw h
  | succ f ih =>
    intro s a w hw h
    rw [Nat.succ_add]
    exact ⟨fun h0 => (h.1 h0).elim, fun i hi => wpOp_of_qOp hw (fun a' w' hw' k => ih _ a' w' hw' k) (h.2 i hi).2⟩
/-- what is known of a state of the head in which operation i may come first -/
structure May (P : Program) (md : Region.Mode) (ops : Array Oper) (C : World → Prop) (n i : Nat) (oi : Oper) (v : Value) (s : Array Bool) (a : Act) : Prop where
  inv : HeadInv md ops n s
  free : ∀ j oj, ops[j]? = some oj → j ≠ i → s.getD j true = false → (∀ e ∈ oj.after, Region.binds md e = true → e.on ≠ i) → oi.apart ops oj = true
  here : i ∈ Region.ready md ops s
  gives : YieldsIn P ops C oi v a
theorem May.lt {i : Nat} {oi : Oper} {v : Value} {s : Array Bool} {a : Act} (m : May P md ops C n i oi v s a) (hs : Region.sinkB md ops n = true) (hc : Region.chainB md ops n = true) (hn : n < ops.size) (hin : i < n) {j : Nat} (hj : j ∈ Region.ready md ops s) : j < n := by
  refine Nat.lt_of_not_le fun h => ?_
  exact tail_waits hs hc hn m.inv (n - i) i rfl hin (mem_ready.1 m.here).1 j h hj
theorem headQ_first {i : Nat} {oi : Oper} {v : Value} {L : Array Bool → Act → Prop} (hi : ops[i]? = some oi) (hsel : Region.noSelect ops = true)
    (hs : Region.sinkB md ops n = true) (hc : Region.chainB md ops n = true) (hn : n < ops.size) (hin : i < n) (hL : ∀ s a, L s a → ∀ j, j ∈ Region.ready md ops s → n ≤ j) (f : Nat) :
    ∀ s a, May P md ops C n i oi v s a → HeadQ P md ops C n L f (s.setIfInBounds i true) (a.put oi.dst v) → HeadQ P md ops C n L (f + 1) s a := by
  have sel := Region.noSelect_spec hsel
  induction f with
  | zero =>
    intro s a m H
    refine ⟨List.ne_nil_of_mem m.here, fun j hj => ⟨m.lt hs hc hn hin hj, ?_⟩⟩
    rcases Decidable.em (j = i) with rfl | hji
    · exact m.gives.qOp hi H
    · have h1 := hL _ _ H j (ready_mono hj hji)
      have h2 := m.lt hs hc hn hin hj
      omega
  | succ f ih =>
    intro s a m H
    refine ⟨List.ne_nil_of_mem m.here, fun j hj => ⟨m.lt hs hc hn hin hj, ?_⟩⟩
    rcases Decidable.em (j = i) with rfl | hji
    · exact m.gives.qOp hi H
    obtain ⟨un, oj, hoj, after⟩ := mem_ready.1 hj
    have apart := m.free j oj hoj hji un fun e he hb heq => by
      have := after e he hb
      rw [heq, getD_both (mem_ready.1 m.here).1] at this
      cases this
    refine qOp_mono ?_ (qOp_put hoj apart (fun cs b => sel i oi cs b hi) (fun cs b => sel j oj cs b hoj) m.gives (H.2 j (ready_mono hj hji)).2)
    rintro a' ⟨hy, hk⟩
    refine ih _ a' ⟨m.inv.set hj (m.lt hs hc hn hin hj), fun k ok hk hki unk no => ?_, ready_mono m.here (Ne.symm hji), hy⟩ (by rw [Array.setIfInBounds_comm _ _ hji]; exact hk)
    refine m.free k ok hk hki ?_ no
    rcases Decidable.em (j = k) with rfl | hjk
    · exact un
    · rwa [getD_set_ne true hjk] at unk
theorem headQ_lex {Lq : Act → Prop} (hsel : Region.noSelect ops = true) (hs : Region.sinkB md ops n = true) (hc : Region.chainB md ops n = true) (hn : n < ops.size) (l : List Oper) :
    ∀ (k : Nat) (s : Array Bool) (a : Act), (∀ j, j < l.length → l[j]? = ops[k + j]?) → k + l.length = n → HeadInv md ops n s → Region.lexHead md ops g l.length k s = true →
      wpQuiet P ops C Lq l a → HeadQ P md ops C n (fun s' a' => Region.seqB md ops g n s' = true ∧ Lq a') l.length s a := by
  induction l with
  | nil =>
    intro k s a _ hk _ hB h
    obtain rfl : k = n := hk
    exact ⟨hB, h⟩
  | cons o l ih =>
    intro k s a hl hk inv hB h
    rw [List.length_cons] at hk
    have hok : ops[k]? = some o := (hl 0 (Nat.succ_pos _)).symm
    simp only [List.length_cons, Region.lexHead, Bool.and_eq_true] at hB
    have hr : k ∈ Region.ready md ops s := by simpa using hB.1.1
    obtain ⟨v, hy, hK⟩ := yieldsIn_of_qOp (K := wpQuiet P ops C Lq l) hok (by unfold qOp; simp only [hok]; exact h)
    refine headQ_first hok hsel hs hc hn (by omega) (fun s' a' x => seqB_ready x.1) _ s a ⟨inv, Region.free_spec hok hB.1.2, hr, hy⟩ ?_
    refine ih (k + 1) _ _ (fun j hj => ?_) (by omega) (inv.set hr (by omega)) hB.2 hK
    have := hl (j + 1) (Nat.succ_lt_succ hj)
    rw [List.getElem?_cons_succ] at this
    rw [this]; congr 1; omega
end
theorem wpQuiet_mono {P : Program} {ops : Array Oper} {C : World → Prop} {K K' : Act → Prop} (h : ∀ a, K a → K' a) : ∀ (l : List Oper) (a : Act), wpQuiet P ops C K l a → wpQuiet P ops C K' l a
  | [], a, x => h a x
  | o :: l, a, x => by
    unfold wpQuiet at x ⊢
    split
    · rename_i hw; rw [if_pos hw] at x; exact Oper.quiet_mono (fun a' y => wpQuiet_mono h l a' y) x
    · rename_i hw; rw [if_neg hw] at x; exact wpQuiet_mono h l _ x
theorem region_quiet_tail {P : Program} {id : Nat} {Q : Exit → Act → World → Prop} {a : Act} {w : World} {C : World → Prop} {l : List Oper} (n : Nat) (hm : P.follows .mixedOrders = true) (hB : Region.lexTailB .any l.toArray n = true)
    (hC : C { w with drawn := w.drawn + 1 }) (h : wpQuiet P l.toArray C (fun a' => ∀ w', C w' → wpList P l.toArray Q (l.drop n) a' w') (l.take n) a) : (Code.region id l.toArray true).wp P Q a w := by
  simp only [Region.lexTailB, Bool.and_eq_true, decide_eq_true_eq] at hB
  obtain ⟨⟨⟨⟨b1, b2⟩, b3⟩, b4⟩, b5⟩ := hB
  have z : n < l.length := b2
  have t1 : (l.take n).length = n := by rw [List.length_take]; omega
  have t2 : (l.drop n).length = l.toArray.size - n := List.length_drop
  have hs0 : ∀ j, (Array.replicate l.toArray.size false).getD j false = false := fun j => getD_replicate_false _ j
  have inv : HeadInv .any l.toArray n (Array.replicate l.toArray.size false) :=
    ⟨Array.size_replicate, (fun j oj _ x => by rw [hs0 j] at x; cases x), fun t _ ht => getD_in (by rwa [Array.size_replicate]) (hs0 t)⟩
  have H := headQ_lex (P := P) (C := C) (md := .any) (g := l.toArray.size - n) b1 b3 b4 b2 (l.take n) 0 _ a (fun j hj => by
    rw [t1] at hj
    rw [List.getElem?_take_of_lt hj, Nat.zero_add]; simp) (by rw [t1, Nat.zero_add]) inv (by rw [t1]; exact b5) h
  rw [t1] at H
  have G := headQ_any (Q := Q) (g := l.toArray.size - n) (fun s a' w' hw' x => by
    have y := wpAny_of_seq (md := .any) (Q' := Q) (P := P) (l.drop n) n s a' w' (fun j => by rw [List.getElem?_drop]; simp) (by rw [t2]; exact x.1) (x.2 w' hw')
    rwa [t2] at y) n _ a _ hC H
  rw [show n + (l.toArray.size - n) = l.toArray.size from by omega] at G
  exact wp_region_any hm G
/-- the same at the worlds that have grown from w -/
theorem region_grow_tail {P : Program} {id : Nat} {Q : Exit → Act → World → Prop} {a : Act} {w : World} {l : List Oper} (n : Nat) (hm : P.follows .mixedOrders = true) (hB : Region.lexTailB .any l.toArray n = true)
    (h : wpQuiet P l.toArray (fun w' => ∃ X, w' = gro w X) (fun a' => ∀ w', Below w.heap.size w w' → wpList P l.toArray Q (l.drop n) a' w') (l.take n) a) : (Code.region id l.toArray true).wp P Q a w := by
  refine region_quiet_tail (C := fun w' => ∃ X, w' = gro w X) n hm hB ⟨⟨{ w with drawn := w.drawn + 1 }, (Below.refl _ w).drew⟩, rfl⟩ ?_
  exact wpQuiet_mono (fun a' k w' ⟨X, e⟩ => by subst e; exact k _ X.h) _ _ h
/-- the same at w after some draws -/
theorem region_drew_tail {P : Program} {id : Nat} {Q : Exit → Act → World → Prop} {a : Act} {w : World} {l : List Oper} (n : Nat) (hm : P.follows .mixedOrders = true) (hB : Region.lexTailB .any l.toArray n = true)
    (h : wpQuiet P l.toArray (fun w' => ∃ k, w' = w.drewN k) (fun a' => ∀ k, wpList P l.toArray Q (l.drop n) a' (w.drewN k)) (l.take n) a) : (Code.region id l.toArray true).wp P Q a w := by
  refine region_quiet_tail (C := fun w' => ∃ k, w' = w.drewN k) n hm hB ⟨1, rfl⟩ ?_
  exact wpQuiet_mono (fun a' x w' ⟨k, e⟩ => by subst e; exact x k) _ _ h
theorem set_drewN (w : World) (n : Nat) (a : Addr) (v : Value) : (w.drewN n).setCell a v = (w.setCell a v).drewN n := rfl
end Go.Proofs.Ytjnngijilkdhbaa

namespace Go.Proofs.Ytjnngijilkdhbaa
set_option linter.unusedVariables false
set_option linter.unusedSimpArgs false
open Go.RowKit
/-- an operation that yields a value and does no more -/
def plainOp (o : Oper) : Bool := match o.op with
  | .move _ | .assign _ | .load .. | .fieldAddr .. | .indexAddr .. | .index .. | .binOp .. | .unOp .. => true
  | _ => false
theorem value_of {s : Sem Value} {P : Program} {w w' : World} {n : Next} (h : (do pure (Next.value (← s)) : Sem Next).run P w = .ok n w') : ∃ u, n = .value u := by
  rw [Sem.run_bind] at h
  cases hr : s.run P w with
  | ok v w1 => rw [hr] at h; simp only [Result.andThen_ok, Sem.run_pure] at h; injection h with h1 _; exact ⟨v, h1.symm⟩
  | halt x w1 => rw [hr] at h; simp [Result.andThen] at h
theorem plain_value {o : Oper} (hp : plainOp o = true) {ρ : Operand → Value} {P : Program} {w w' : World} {n : Next} (h : (execOp ρ o).run P w = .ok n w') : ∃ u, n = .value u := by
  unfold plainOp at hp
  unfold execOp at h
  split at hp
  all_goals first | (cases hp; done) | skip
  all_goals
    rename_i ho
    simp only [ho] at h
    first
    | exact value_of h
    | (simp only [Sem.run_pure] at h; injection h with h1 _; exact ⟨_, h1.symm⟩)
section
variable {P : Program} {md : Region.Mode} {ops : Array Oper} {C : World → Prop} {Q : Exit → Act → World → Prop} {m g : Nat}
theorem yieldsIf_plain {o : Oper} {v : Value} {a : Act} (hp : plainOp o = true) (h : YieldsIn P ops C o v a) : YieldsIf P ops C o v a := by
  refine h.imp (fun ⟨hw, hq⟩ => ⟨hw, fun w hC => ?_⟩) id
  have hq := hq w hC
  unfold Oper.quietAt at hq
  cases hr : (execOp a.eval o).run P w with
  | halt x w' => rw [hr] at hq; simp only [Oper.quietUpon] at hq
  | ok n w' =>
    obtain ⟨u, rfl⟩ := plain_value hp hr
    rw [hr] at hq
    obtain ⟨rfl, rfl⟩ := hq
    rfl
theorem yieldsAt_if {o : Oper} {v : Value} {a : Act} {w : World} (hC : C w) (h : YieldsIf P ops C o v a) : YieldsAt P ops w o v a :=
  h.imp (fun ⟨hw, hv⟩ => ⟨hw, .inl (hv w hC)⟩) id
/-- what is asked of the maker's run: a value, or a call that hands one back; the world stays of the class -/
def MkUpon (P : Program) (C : World → Prop) (om : Oper) (K : Act → World → Prop) (a : Act) : Result Next → Prop
  | .ok (.value v) w' => C w' ∧ K (a.put om.dst v) w'
  | .ok (.enter f args) w' => Calls P f args w' fun e w'' => ∃ v, e = .returned v ∧ C w'' ∧ K (a.put om.dst v) w''
  | _ => False
theorem MkUpon.mono {om : Oper} {K K' : Act → World → Prop} {a : Act} (hk : ∀ a w, C w → K a w → K' a w) {r : Result Next} (h : MkUpon P C om K a r) : MkUpon P C om K' a r := by
  cases r with
  | halt x w => exact h
  | ok n w =>
    cases n
    case value v => exact ⟨h.1, hk _ _ h.1 h.2⟩
    case enter f args => exact Calls.mono h fun e w'' ⟨v, x, y, z⟩ => ⟨v, x, y, hk _ _ y z⟩
    all_goals exact h
/-- the maker: from every world of the class -/
def Mk (P : Program) (ops : Array Oper) (C : World → Prop) (om : Oper) (K : Act → World → Prop) (a : Act) : Prop :=
  Region.wanted om (yielded ops a.tmps) = true ∧ ∀ w, C w → MkUpon P C om K a ((execOp a.eval om).run P w)
theorem Mk.mono {om : Oper} {K K' : Act → World → Prop} {a : Act} (hk : ∀ a w, C w → K a w → K' a w) (h : Mk P ops C om K a) : Mk P ops C om K' a :=
  ⟨h.1, fun w hw => (h.2 w hw).mono hk⟩
theorem Mk.op {om : Oper} {K : Act → World → Prop} {a : Act} (hom : ops[m]? = some om) (h : Mk P ops C om K a) {w : World} (hw : C w) : wpOp P ops Q m K a w := by
  have x := h.2 w hw
  unfold wpOp
  simp only [hom, h.1, if_true]
  refine .inl ?_
  unfold Oper.wp
  generalize (execOp a.eval om).run P w = r at x
  cases r with
  | halt y w => exact x.elim
  | ok n w =>
    cases n
    case value v => exact x.2
    case enter f args => exact Calls.mono x fun e w'' ⟨v, e1, _, z⟩ => by subst e1; exact z
    all_goals exact x.elim
theorem Mk.put {oi om : Oper} {v : Value} {a : Act} {K : Act → World → Prop} (hap : oi.apart ops om = true) (hsi : ∀ cs b, oi.op ≠ .select cs b) (hsm : ∀ cs b, om.op ≠ .select cs b)
    (hy : YieldsIf P ops C oi v a) (h : Mk P ops C om K (a.put oi.dst v)) : Mk P ops C om (fun a' w' => YieldsIf P ops C oi v a' ∧ K (a'.put oi.dst v) w') a := by
  obtain ⟨h1, h2, h3⟩ := Oper.apart_spec hap
  obtain ⟨k1, k2⟩ := h
  rw [wanted_put om a oi.dst v h1] at k1
  rw [execOp_put om hsm a oi.dst v h1] at k2
  have keep : ∀ u, YieldsIf P ops C oi v (a.put om.dst u) := fun u => hy.of_same (execOp_put oi hsi a om.dst u h3) (wanted_put oi a om.dst u h3)
  refine ⟨k1, fun w hw => ?_⟩
  have x := k2 w hw
  generalize (execOp a.eval om).run P w = r at x
  cases r with
  | halt y w => exact x.elim
  | ok n w =>
    cases n
    case value u => exact ⟨x.1, keep u, by rw [← Act.put_comm a v u h2]; exact x.2⟩
    case enter f args => exact Calls.mono x fun e w'' ⟨u, e1, y, z⟩ => ⟨u, e1, y, keep u, by rw [← Act.put_comm a v u h2]; exact z⟩
    all_goals exact x.elim
/-- f quiet operations are still to come, and the maker, number m; R: what is asked when all have come -/
def HeadM (P : Program) (md : Region.Mode) (ops : Array Oper) (C : World → Prop) (om : Oper) (m : Nat) (R : Array Bool → Act → World → Prop) : Nat → Array Bool → Act → Prop
  | 0 => fun s a => Region.ready md ops s = [m] ∧ Mk P ops C om (fun a' w' => R (s.setIfInBounds m true) a' w') a
  | f + 1 => fun s a => Region.ready md ops s ≠ [] ∧ ∀ i, i ∈ Region.ready md ops s →
      (i < m ∧ qOp P ops C i (HeadM P md ops C om m R f (s.setIfInBounds i true)) a) ∨
      (i = m ∧ Mk P ops C om (fun a' w' => wpAnyL P md ops w' (m + 1) (fun s' a'' => R s' a'' w') (f + 1) (s.setIfInBounds m true) a') a)
theorem headM_any {om : Oper} {R : Array Bool → Act → World → Prop} (hom : ops[m]? = some om) (hR : ∀ s a w, R s a w → wpAny P md ops Q g s a w) (f : Nat) :
    ∀ s a w, C w → HeadM P md ops C om m R f s a → wpAny P md ops Q (f + 1 + g) s a w := by
  induction f with
  | zero =>
    intro s a w hw h
    rw [show 0 + 1 + g = g + 1 by omega]
    refine ⟨fun h0 => (by rw [h.1] at h0; cases h0), fun i hi => ?_⟩
    rw [h.1] at hi
    obtain rfl : i = m := by simpa using hi
    exact wpOp_mono (fun a' w' x => hR _ _ _ x) (h.2.op hom hw)
  | succ f ih =>
    intro s a w hw h
    rw [show f + 1 + 1 + g = (f + 1 + g) + 1 by omega]
    refine ⟨fun h0 => (h.1 h0).elim, fun i hi => ?_⟩
    rcases h.2 i hi with ⟨_, x⟩ | ⟨rfl, x⟩
    · exact wpOp_of_qOp hw (fun a' w' hw' k => ih _ a' w' hw' k) x
    · exact wpOp_mono (fun a' w' y => wpAny_of_head (fun s' a'' z => hR _ _ _ z) (f + 1) _ a' y) (x.op hom hw)
theorem headM_first {i : Nat} {oi om : Oper} {v : Value} {R : Array Bool → Act → World → Prop} (hom : ops[m]? = some om) (hi : ops[i]? = some oi) (hsel : Region.noSelect ops = true)
    (hs : Region.sinkB md ops (m + 1) = true) (hc : Region.chainB md ops (m + 1) = true) (hn : m + 1 < ops.size) (him : i < m) (hpl : plainOp oi = true ∨ Region.waitsFor md ops m i = true)
    (hR : ∀ s a w, R s a w → ∀ j, j ∈ Region.ready md ops s → m + 1 ≤ j) (f : Nat) :
    ∀ s a, May P md ops C (m + 1) i oi v s a → HeadM P md ops C om m R f (s.setIfInBounds i true) (a.put oi.dst v) → HeadM P md ops C om m R (f + 1) s a := by
  have sel := Region.noSelect_spec hsel
  have late : ∀ {s a}, May P md ops C (m + 1) i oi v s a → m ∈ Region.ready md ops s → YieldsIf P ops C oi v a ∧ oi.apart ops om = true := by
    intro s a k hm
    obtain ⟨un, om', hom', after⟩ := mem_ready.1 hm
    rw [Option.some.inj (hom'.symm.trans hom)] at after
    have no : ∀ e ∈ om.after, Region.binds md e = true → e.on ≠ i := fun e he hb heq => by
      have := after e he hb
      rw [heq, getD_both (mem_ready.1 k.here).1] at this
      cases this
    have pl : plainOp oi = true := by
      rcases hpl with h | h
      · exact h
      · obtain ⟨o', ho', e, he, hb, hon⟩ := Region.waitsFor_spec h
        rw [Option.some.inj (ho'.symm.trans hom)] at he
        exact absurd hon (no e he hb)
    exact ⟨yieldsIf_plain pl k.gives, k.free m _ hom (by omega) un no⟩
  -- behind the maker the quiet operation may still come first
  have behind : ∀ {f s a a' w'}, May P md ops C (m + 1) i oi v s a → m ∈ Region.ready md ops s → C w' → YieldsIf P ops C oi v a' →
      wpAnyL P md ops w' (m + 1) (fun s' a'' => R s' a'' w') f ((s.setIfInBounds i true).setIfInBounds m true) (a'.put oi.dst v) → wpAnyL P md ops w' (m + 1) (fun s' a'' => R s' a'' w') (f + 1) (s.setIfInBounds m true) a' := by
    intro f s a a' w' k hm hC hy H
    refine wpAnyL_first hi sel hs hc hn (by omega) (fun s' a'' x => hR _ _ _ x) f _ a' (k.inv.set hm (by omega)) ?_ (ready_mono k.here (by omega)) (yieldsAt_if hC hy) ?_
    · intro j oj hoj hji un no
      refine k.free j oj hoj hji ?_ no
      rcases Decidable.em (m = j) with rfl | hmj
      · exact (mem_ready.1 hm).1
      · rwa [getD_set_ne true hmj] at un
    · rw [Array.setIfInBounds_comm _ _ (by omega)]; exact H
  induction f with
  | zero =>
    intro s a k H
    refine ⟨List.ne_nil_of_mem k.here, fun j hj => ?_⟩
    rcases Decidable.em (j = i) with rfl | hji
    · exact .inl ⟨him, k.gives.qOp hi H⟩
    · have h1 := ready_mono hj hji
      rw [H.1] at h1
      obtain rfl : j = m := by simpa using h1
      obtain ⟨hy, ap⟩ := late k hj
      refine .inr ⟨rfl, (H.2.put ap (fun cs b => sel i oi cs b hi) (fun cs b => sel j om cs b hom) hy).mono ?_⟩
      rintro a' w' hC ⟨y, r⟩
      exact behind k hj hC y r
  | succ f ih =>
    intro s a k H
    refine ⟨List.ne_nil_of_mem k.here, fun j hj => ?_⟩
    rcases Decidable.em (j = i) with rfl | hji
    · exact .inl ⟨him, k.gives.qOp hi H⟩
    rcases H.2 j (ready_mono hj hji) with ⟨hjm, x⟩ | ⟨rfl, x⟩
    · obtain ⟨un, oj, hoj, after⟩ := mem_ready.1 hj
      have apart := k.free j oj hoj hji un fun e he hb heq => by
        have := after e he hb
        rw [heq, getD_both (mem_ready.1 k.here).1] at this
        cases this
      refine .inl ⟨hjm, qOp_mono ?_ (qOp_put hoj apart (fun cs b => sel i oi cs b hi) (fun cs b => sel j oj cs b hoj) k.gives x)⟩
      rintro a' ⟨hy, hk⟩
      refine ih _ a' ⟨k.inv.set hj (by omega), fun q ok hk hki unk no => ?_, ready_mono k.here (Ne.symm hji), hy⟩ (by rw [Array.setIfInBounds_comm _ _ hji]; exact hk)
      refine k.free q ok hk hki ?_ no
      rcases Decidable.em (j = q) with rfl | hjq
      · exact un
      · rwa [getD_set_ne true hjq] at unk
    · obtain ⟨hy, ap⟩ := late k hj
      refine .inr ⟨rfl, (x.put ap (fun cs b => sel i oi cs b hi) (fun cs b => sel j om cs b hom) hy).mono ?_⟩
      rintro a' w' hC ⟨y, r⟩
      exact behind k hj hC y r
def plainAt (md : Region.Mode) (ops : Array Oper) (m : Nat) : Bool :=
  (List.range m).all fun j => (match ops[j]? with | some o => plainOp o | none => false) || Region.waitsFor md ops m j
theorem plainAt_spec {j : Nat} {oj : Oper} (h : plainAt md ops m = true) (hj : j < m) (ho : ops[j]? = some oj) : plainOp oj = true ∨ Region.waitsFor md ops m j = true := by
  have h1 := List.all_eq_true.1 h j (List.mem_range.2 hj)
  simp only [ho, Bool.or_eq_true] at h1
  exact h1
theorem headM_lex {om : Oper} (hom : ops[m]? = some om) {R : Array Bool → Act → World → Prop} {Lq : Act → Prop} (hsel : Region.noSelect ops = true) (hs : Region.sinkB md ops (m + 1) = true) (hc : Region.chainB md ops (m + 1) = true) (hn : m + 1 < ops.size) (hpl : plainAt md ops m = true)
    (hR : ∀ s a w, R s a w → ∀ j, j ∈ Region.ready md ops s → m + 1 ≤ j)
    (hL : ∀ s a, Region.seqB md ops (g + 1) m s = true → Lq a → Mk P ops C om (fun a' w' => R (s.setIfInBounds m true) a' w') a) (l : List Oper) :
    ∀ (k : Nat) (s : Array Bool) (a : Act), (∀ j, j < l.length → l[j]? = ops[k + j]?) → k + l.length = m → HeadInv md ops (m + 1) s → Region.lexHead md ops (g + 1) l.length k s = true →
      wpQuiet P ops C Lq l a → HeadM P md ops C om m R l.length s a := by
  induction l with
  | nil =>
    intro k s a _ hk _ hB h
    obtain rfl : k = m := hk
    have hB : Region.seqB md ops (g + 1) k s = true := hB
    refine ⟨?_, hL s a hB h⟩
    simp only [Region.seqB, Bool.and_eq_true, decide_eq_true_eq] at hB
    exact hB.1
  | cons o l ih =>
    intro k s a hl hk inv hB h
    rw [List.length_cons] at hk
    have hok : ops[k]? = some o := (hl 0 (Nat.succ_pos _)).symm
    simp only [List.length_cons, Region.lexHead, Bool.and_eq_true] at hB
    have hr : k ∈ Region.ready md ops s := by simpa using hB.1.1
    obtain ⟨v, hy, hK⟩ := yieldsIn_of_qOp (K := wpQuiet P ops C Lq l) hok (by unfold qOp; simp only [hok]; exact h)
    refine headM_first hom hok hsel hs hc hn (by omega) (plainAt_spec hpl (by omega) hok) hR _ s a ⟨inv, Region.free_spec hok hB.1.2, hr, hy⟩ ?_
    refine ih (k + 1) _ _ (fun j hj => ?_) (by omega) (inv.set hr (by omega)) hB.2 hK
    have := hl (j + 1) (Nat.succ_lt_succ hj)
    rw [List.getElem?_cons_succ] at this
    rw [this]; congr 1; omega
end
def makerB (ops : Array Oper) (m : Nat) : Bool :=
  Region.noSelect ops && decide (m + 1 < ops.size) && Region.sinkB .any ops (m + 1) && Region.chainB .any ops (m + 1) && plainAt .any ops m && Region.lexHead .any ops (ops.size - (m + 1) + 1) m 0 (Array.replicate ops.size false)
theorem region_maker {P : Program} {id : Nat} {Q : Exit → Act → World → Prop} {a : Act} {w : World} {C : World → Prop} {l rest : List Oper} {om : Oper} (m : Nat) (hl : l.drop m = om :: rest) (hm : P.follows .mixedOrders = true) (hB : makerB l.toArray m = true)
    (hgd : om.guard = none) (hC : C { w with drawn := w.drawn + 1 })
    (h : wpQuiet P l.toArray C (fun a' => ∀ w', C w' → MkUpon P C om (wpList P l.toArray Q rest) a' ((execOp a'.eval om).run P w')) (l.take m) a) : (Code.region id l.toArray true).wp P Q a w := by
  simp only [makerB, Bool.and_eq_true, decide_eq_true_eq] at hB
  obtain ⟨⟨⟨⟨⟨b1, b2⟩, b3⟩, b4⟩, b5⟩, b6⟩ := hB
  have z : m + 1 < l.length := b2
  have t1 : (l.take m).length = m := by rw [List.length_take]; omega
  have d1 : l.drop (m + 1) = rest := by rw [← List.tail_drop, hl]; rfl
  have hom : l.toArray[m]? = some om := by
    have : (l.drop m)[0]? = some om := by rw [hl]; rfl
    rw [List.getElem?_drop] at this; simpa using this
  have t2 : rest.length = l.toArray.size - (m + 1) := by rw [← d1, List.length_drop]; rfl
  have hs0 : ∀ j, (Array.replicate l.toArray.size false).getD j false = false := fun j => getD_replicate_false _ j
  have inv : HeadInv .any l.toArray (m + 1) (Array.replicate l.toArray.size false) :=
    ⟨Array.size_replicate, (fun j oj _ x => by rw [hs0 j] at x; cases x), fun t _ ht => getD_in (by rwa [Array.size_replicate]) (hs0 t)⟩
  have H := headM_lex (P := P) (C := C) (md := .any) (g := l.toArray.size - (m + 1)) hom (R := fun s a w => Region.seqB .any l.toArray (l.toArray.size - (m + 1)) (m + 1) s = true ∧ wpList P l.toArray Q rest a w) b1 b3 b4 b2 b5
    (fun s a w x => seqB_ready x.1) (fun s a' hsq hLq => by
      simp only [Region.seqB, Bool.and_eq_true] at hsq
      refine ⟨by simp [Region.wanted, hgd], fun w' hw' => ?_⟩
      exact (hLq w' hw').mono fun a'' w'' _ z => ⟨hsq.2, z⟩) (l.take m) 0 _ a (fun j hj => by
    rw [t1] at hj
    rw [List.getElem?_take_of_lt hj, Nat.zero_add]; simp) (by rw [t1, Nat.zero_add]) inv (by rw [t1]; exact b6) h
  rw [t1] at H
  have G := headM_any (P := P) (C := C) (Q := Q) (md := .any) (g := l.toArray.size - (m + 1)) hom (fun s a' w' x => by
    have y := wpAny_of_seq (md := .any) (Q' := Q) (P := P) rest (m + 1) s a' w' (fun j => by rw [← d1, List.getElem?_drop]; simp) (by rw [t2]; exact x.1) x.2
    rwa [t2] at y) m _ a _ hC H
  rw [show m + 1 + (l.toArray.size - (m + 1)) = l.toArray.size from by omega] at G
  exact wp_region_any hm G
/-- the same at the worlds that have grown from w -/
theorem region_grow_maker {P : Program} {id : Nat} {Q : Exit → Act → World → Prop} {a : Act} {w : World} {l rest : List Oper} {om : Oper} (m : Nat) (hl : l.drop m = om :: rest) (hm : P.follows .mixedOrders = true) (hB : makerB l.toArray m = true)
    (hgd : om.guard = none)
    (h : wpQuiet P l.toArray (fun w' => ∃ X, w' = gro w X) (fun a' => ∀ w', Below w.heap.size w w' → ∃ v w'', (execOp a'.eval om).run P w' = .ok (.value v) w'' ∧ Below w.heap.size w w'' ∧ wpList P l.toArray Q rest (a'.put om.dst v) w'') (l.take m) a) : (Code.region id l.toArray true).wp P Q a w := by
  refine region_maker (C := fun w' => ∃ X, w' = gro w X) m hl hm hB hgd ⟨⟨{ w with drawn := w.drawn + 1 }, (Below.refl _ w).drew⟩, rfl⟩ ?_
  refine wpQuiet_mono (fun a' k w' ⟨X, e⟩ => ?_) _ _ h
  subst e
  obtain ⟨v, w'', h1, h2, h3⟩ := k _ X.h
  show MkUpon _ _ _ _ _ ((execOp a'.eval om).run P X.w)
  rw [h1]
  exact ⟨⟨⟨w'', h2⟩, rfl⟩, h3⟩
/-- the same where the maker is a call -/
theorem region_grow_call {P : Program} {id : Nat} {Q : Exit → Act → World → Prop} {a : Act} {w : World} {l rest : List Oper} {om : Oper} (m : Nat) (hl : l.drop m = om :: rest) (hm : P.follows .mixedOrders = true) (hB : makerB l.toArray m = true)
    (hgd : om.guard = none)
    (h : wpQuiet P l.toArray (fun w' => ∃ X, w' = gro w X) (fun a' => ∀ w', Below w.heap.size w w' → ∃ f args, (execOp a'.eval om).run P w' = .ok (.enter f args) w' ∧ Calls P f args w' fun e w'' => ∃ v, e = .returned v ∧ Below w.heap.size w w'' ∧ wpList P l.toArray Q rest (a'.put om.dst v) w'') (l.take m) a) : (Code.region id l.toArray true).wp P Q a w := by
  refine region_maker (C := fun w' => ∃ X, w' = gro w X) m hl hm hB hgd ⟨⟨{ w with drawn := w.drawn + 1 }, (Below.refl _ w).drew⟩, rfl⟩ ?_
  refine wpQuiet_mono (fun a' k w' ⟨X, e⟩ => ?_) _ _ h
  subst e
  obtain ⟨f, args, h1, h2⟩ := k _ X.h
  show MkUpon _ _ _ _ _ ((execOp a'.eval om).run P X.w)
  rw [h1]
  exact Calls.mono h2 fun e w'' ⟨v, x, y, z⟩ => ⟨v, x, ⟨⟨w'', y⟩, rfl⟩, z⟩
end Go.Proofs.Ytjnngijilkdhbaa

namespace Go.Proofs.Ytjnngijilkdhbaa
set_option linter.unusedVariables false
set_option linter.unusedSimpArgs false
open Go.RowKit
section
variable {P : Program} {md : Region.Mode} {ops : Array Oper} {C : World → Prop} {Q : Exit → Act → World → Prop} {m n g : Nat}
/-- f quiet operations are still to come, and the maker, number m; R: what is asked when all have come -/
def HeadP (P : Program) (md : Region.Mode) (ops : Array Oper) (C : World → Prop) (om : Oper) (m n : Nat) (R : Array Bool → Act → World → Prop) : Nat → Array Bool → Act → Prop
  | 0 => fun s a => Region.ready md ops s = [m] ∧ Mk P ops C om (fun a' w' => R (s.setIfInBounds m true) a' w') a
  | f + 1 => fun s a => Region.ready md ops s ≠ [] ∧ ∀ i, i ∈ Region.ready md ops s →
      ((i < n ∧ i ≠ m) ∧ qOp P ops C i (HeadP P md ops C om m n R f (s.setIfInBounds i true)) a) ∨
      (i = m ∧ Mk P ops C om (fun a' w' => wpAnyL P md ops w' n (fun s' a'' => R s' a'' w') (f + 1) (s.setIfInBounds m true) a') a)
theorem headP_any {om : Oper} {R : Array Bool → Act → World → Prop} (hom : ops[m]? = some om) (hR : ∀ s a w, R s a w → wpAny P md ops Q g s a w) (f : Nat) :
    ∀ s a w, C w → HeadP P md ops C om m n R f s a → wpAny P md ops Q (f + 1 + g) s a w := by
  induction f with
  | zero =>
    intro s a w hw h
    rw [show 0 + 1 + g = g + 1 by omega]
    refine ⟨fun h0 => (by rw [h.1] at h0; cases h0), fun i hi => ?_⟩
    rw [h.1] at hi
    obtain rfl : i = m := by simpa using hi
    exact wpOp_mono (fun a' w' x => hR _ _ _ x) (h.2.op hom hw)
  | succ f ih =>
    intro s a w hw h
    rw [show f + 1 + 1 + g = (f + 1 + g) + 1 by omega]
    refine ⟨fun h0 => (h.1 h0).elim, fun i hi => ?_⟩
    rcases h.2 i hi with ⟨_, x⟩ | ⟨rfl, x⟩
    · exact wpOp_of_qOp hw (fun a' w' hw' k => ih _ a' w' hw' k) x
    · exact wpOp_mono (fun a' w' y => wpAny_of_head (fun s' a'' z => hR _ _ _ z) (f + 1) _ a' y) (x.op hom hw)
theorem headP_first {i : Nat} {oi om : Oper} {v : Value} {R : Array Bool → Act → World → Prop} (hmn : m < n) (hom : ops[m]? = some om) (hi : ops[i]? = some oi) (hsel : Region.noSelect ops = true)
    (hs : Region.sinkB md ops n = true) (hc : Region.chainB md ops n = true) (hn : n < ops.size) (him : i < n ∧ i ≠ m) (hpl : plainOp oi = true ∨ Region.waitsFor md ops m i = true)
    (hR : ∀ s a w, R s a w → ∀ j, j ∈ Region.ready md ops s → n ≤ j) (f : Nat) :
    ∀ s a, May P md ops C n i oi v s a → HeadP P md ops C om m n R f (s.setIfInBounds i true) (a.put oi.dst v) → HeadP P md ops C om m n R (f + 1) s a := by
  have sel := Region.noSelect_spec hsel
  have late : ∀ {s a}, May P md ops C n i oi v s a → m ∈ Region.ready md ops s → YieldsIf P ops C oi v a ∧ oi.apart ops om = true := by
    intro s a k hm
    obtain ⟨un, om', hom', after⟩ := mem_ready.1 hm
    rw [Option.some.inj (hom'.symm.trans hom)] at after
    have no : ∀ e ∈ om.after, Region.binds md e = true → e.on ≠ i := fun e he hb heq => by
      have := after e he hb
      rw [heq, getD_both (mem_ready.1 k.here).1] at this
      cases this
    have pl : plainOp oi = true := by
      rcases hpl with h | h
      · exact h
      · obtain ⟨o', ho', e, he, hb, hon⟩ := Region.waitsFor_spec h
        rw [Option.some.inj (ho'.symm.trans hom)] at he
        exact absurd hon (no e he hb)
    exact ⟨yieldsIf_plain pl k.gives, k.free m _ hom (Ne.symm him.2) un no⟩
  -- behind the maker the quiet operation may still come first
  have behind : ∀ {f s a a' w'}, May P md ops C n i oi v s a → m ∈ Region.ready md ops s → C w' → YieldsIf P ops C oi v a' →
      wpAnyL P md ops w' n (fun s' a'' => R s' a'' w') f ((s.setIfInBounds i true).setIfInBounds m true) (a'.put oi.dst v) → wpAnyL P md ops w' n (fun s' a'' => R s' a'' w') (f + 1) (s.setIfInBounds m true) a' := by
    intro f s a a' w' k hm hC hy H
    refine wpAnyL_first hi sel hs hc hn him.1 (fun s' a'' x => hR _ _ _ x) f _ a' (k.inv.set hm hmn) ?_ (ready_mono k.here him.2) (yieldsAt_if hC hy) ?_
    · intro j oj hoj hji un no
      refine k.free j oj hoj hji ?_ no
      rcases Decidable.em (m = j) with rfl | hmj
      · exact (mem_ready.1 hm).1
      · rwa [getD_set_ne true hmj] at un
    · rw [Array.setIfInBounds_comm _ _ (Ne.symm him.2)]; exact H
  induction f with
  | zero =>
    intro s a k H
    refine ⟨List.ne_nil_of_mem k.here, fun j hj => ?_⟩
    rcases Decidable.em (j = i) with rfl | hji
    · exact .inl ⟨him, k.gives.qOp hi H⟩
    · have h1 := ready_mono hj hji
      rw [H.1] at h1
      obtain rfl : j = m := by simpa using h1
      obtain ⟨hy, ap⟩ := late k hj
      refine .inr ⟨rfl, (H.2.put ap (fun cs b => sel i oi cs b hi) (fun cs b => sel j om cs b hom) hy).mono ?_⟩
      rintro a' w' hC ⟨y, r⟩
      exact behind k hj hC y r
  | succ f ih =>
    intro s a k H
    refine ⟨List.ne_nil_of_mem k.here, fun j hj => ?_⟩
    rcases Decidable.em (j = i) with rfl | hji
    · exact .inl ⟨him, k.gives.qOp hi H⟩
    rcases H.2 j (ready_mono hj hji) with ⟨hjm, x⟩ | ⟨rfl, x⟩
    · obtain ⟨un, oj, hoj, after⟩ := mem_ready.1 hj
      have apart := k.free j oj hoj hji un fun e he hb heq => by
        have := after e he hb
        rw [heq, getD_both (mem_ready.1 k.here).1] at this
        cases this
      refine .inl ⟨hjm, qOp_mono ?_ (qOp_put hoj apart (fun cs b => sel i oi cs b hi) (fun cs b => sel j oj cs b hoj) k.gives x)⟩
      rintro a' ⟨hy, hk⟩
      refine ih _ a' ⟨k.inv.set hj hjm.1, fun q ok hk hki unk no => ?_, ready_mono k.here (Ne.symm hji), hy⟩ (by rw [Array.setIfInBounds_comm _ _ hji]; exact hk)
      refine k.free q ok hk hki ?_ no
      rcases Decidable.em (j = q) with rfl | hjq
      · exact un
      · rwa [getD_set_ne true hjq] at unk
    · obtain ⟨hy, ap⟩ := late k hj
      refine .inr ⟨rfl, (x.put ap (fun cs b => sel i oi cs b hi) (fun cs b => sel j om cs b hom) hy).mono ?_⟩
      rintro a' w' hC ⟨y, r⟩
      exact behind k hj hC y r
/-- the operations with the indices is may be taken first, in that order; behind them comes m alone, and then the rest from n on in one order -/
def lexP (md : Region.Mode) (ops : Array Oper) (g n m : Nat) : List Nat → Array Bool → Bool
  | [], s => decide (Region.ready md ops s = [m]) && Region.seqB md ops g n (s.setIfInBounds m true)
  | i :: is, s => decide (i < n) && decide (i ≠ m) && (Region.ready md ops s).contains i && Region.free md ops s i &&
      ((match ops[i]? with | some o => plainOp o | none => false) || Region.waitsFor md ops m i) && lexP md ops g n m is (s.setIfInBounds i true)
def pickOps (l : List Oper) : List Nat → List Oper
  | [] => []
  | i :: is => match l[i]? with
    | some o => o :: pickOps l is
    | none => []
theorem headP_lex {om : Oper} (hmn : m < n) (hom : ops[m]? = some om) {R : Array Bool → Act → World → Prop} {Lq : Act → Prop} (hsel : Region.noSelect ops = true) (hs : Region.sinkB md ops n = true) (hc : Region.chainB md ops n = true) (hn : n < ops.size)
    (hR : ∀ s a w, R s a w → ∀ j, j ∈ Region.ready md ops s → n ≤ j)
    (hL : ∀ (s : Array Bool) a, Region.seqB md ops g n (s.setIfInBounds m true) = true → Lq a → Mk P ops C om (fun a' w' => R (s.setIfInBounds m true) a' w') a) {l : List Oper} (hl : l.toArray = ops) (is : List Nat) :
    ∀ (s : Array Bool) (a : Act), HeadInv md ops n s → lexP md ops g n m is s = true → wpQuiet P ops C Lq (pickOps l is) a → HeadP P md ops C om m n R is.length s a := by
  induction is with
  | nil =>
    intro s a inv hB h
    simp only [lexP, Bool.and_eq_true, decide_eq_true_eq] at hB
    exact ⟨hB.1, hL s a hB.2 h⟩
  | cons i is ih =>
    intro s a inv hB h
    simp only [lexP, Bool.and_eq_true, decide_eq_true_eq, Bool.or_eq_true] at hB
    obtain ⟨⟨⟨⟨⟨h1, h2⟩, h3⟩, h4⟩, h5⟩, h6⟩ := hB
    have hr : i ∈ Region.ready md ops s := by simpa using h3
    obtain ⟨_, o, ho, _⟩ := mem_ready.1 hr
    have ho' : l[i]? = some o := by rw [← ho, ← hl]; simp
    rw [ho] at h5
    simp only [pickOps, ho'] at h
    obtain ⟨v, hy, hK⟩ := yieldsIn_of_qOp (K := wpQuiet P ops C Lq (pickOps l is)) ho (by unfold qOp; simp only [ho]; exact h)
    exact headP_first hmn hom ho hsel hs hc hn ⟨h1, h2⟩ h5 hR _ s a ⟨inv, Region.free_spec ho h4, hr, hy⟩ (ih _ _ (inv.set hr h1) h6 hK)
end
def permB (ops : Array Oper) (is : List Nat) (m n : Nat) : Bool :=
  Region.noSelect ops && decide (n < ops.size) && decide (m < n) && decide (is.length + 1 = n) && Region.sinkB .any ops n && Region.chainB .any ops n && lexP .any ops (ops.size - n) n m is (Array.replicate ops.size false)
theorem region_perm {P : Program} {id : Nat} {Q : Exit → Act → World → Prop} {a : Act} {w : World} {C : World → Prop} {l : List Oper} {om : Oper} (is : List Nat) (m n : Nat) (hom : l[m]? = some om) (hm : P.follows .mixedOrders = true) (hB : permB l.toArray is m n = true)
    (hgd : om.guard = none) (hC : C { w with drawn := w.drawn + 1 })
    (h : wpQuiet P l.toArray C (fun a' => ∀ w', C w' → MkUpon P C om (wpList P l.toArray Q (l.drop n)) a' ((execOp a'.eval om).run P w')) (pickOps l is) a) : (Code.region id l.toArray true).wp P Q a w := by
  simp only [permB, Bool.and_eq_true, decide_eq_true_eq] at hB
  obtain ⟨⟨⟨⟨⟨⟨b1, b2⟩, b3⟩, b0⟩, b4⟩, b5⟩, b6⟩ := hB
  have z : n < l.length := b2
  have hom' : l.toArray[m]? = some om := by rw [← hom]; simp
  have t2 : (l.drop n).length = l.toArray.size - n := List.length_drop
  have hs0 : ∀ j, (Array.replicate l.toArray.size false).getD j false = false := fun j => getD_replicate_false _ j
  have inv : HeadInv .any l.toArray n (Array.replicate l.toArray.size false) :=
    ⟨Array.size_replicate, (fun j oj _ x => by rw [hs0 j] at x; cases x), fun t _ ht => getD_in (by rwa [Array.size_replicate]) (hs0 t)⟩
  have H := headP_lex (P := P) (C := C) (md := .any) (g := l.toArray.size - n) b3 hom' (R := fun s a w => Region.seqB .any l.toArray (l.toArray.size - n) n s = true ∧ wpList P l.toArray Q (l.drop n) a w) b1 b4 b5 b2
    (fun s a w x => seqB_ready x.1) (fun s a' hsq hLq => ⟨by simp [Region.wanted, hgd], fun w' hw' => (hLq w' hw').mono fun a'' w'' _ y => ⟨hsq, y⟩⟩) rfl is _ a inv b6 h
  have G := headP_any (P := P) (C := C) (Q := Q) (md := .any) (g := l.toArray.size - n) hom' (fun s a' w' x => by
    have y := wpAny_of_seq (md := .any) (Q' := Q) (P := P) (l.drop n) n s a' w' (fun j => by rw [List.getElem?_drop]; simp) (by rw [t2]; exact x.1) x.2
    rwa [t2] at y) is.length _ a _ hC H
  rw [show is.length + 1 + (l.toArray.size - n) = l.toArray.size from by simp at *; omega] at G
  exact wp_region_any hm G
/-- at the worlds that have grown from w; the maker is a call -/
theorem region_grow_pcall {P : Program} {id : Nat} {Q : Exit → Act → World → Prop} {a : Act} {w : World} {l : List Oper} {om : Oper} (is : List Nat) (m n : Nat) (hom : l[m]? = some om) (hm : P.follows .mixedOrders = true) (hB : permB l.toArray is m n = true)
    (hgd : om.guard = none)
    (h : wpQuiet P l.toArray (fun w' => ∃ X, w' = gro w X) (fun a' => ∀ w', Below w.heap.size w w' → ∃ f args, (execOp a'.eval om).run P w' = .ok (.enter f args) w' ∧ Calls P f args w' fun e w'' => ∃ v, e = .returned v ∧ Below w.heap.size w w'' ∧ wpList P l.toArray Q (l.drop n) (a'.put om.dst v) w'') (pickOps l is) a) : (Code.region id l.toArray true).wp P Q a w := by
  refine region_perm (C := fun w' => ∃ X, w' = gro w X) is m n hom hm hB hgd ⟨⟨{ w with drawn := w.drawn + 1 }, (Below.refl _ w).drew⟩, rfl⟩ ?_
  refine wpQuiet_mono (fun a' k w' ⟨X, e⟩ => ?_) _ _ h
  subst e
  obtain ⟨f, args, h1, h2⟩ := k _ X.h
  show MkUpon _ _ _ _ _ ((execOp a'.eval om).run P X.w)
  rw [h1]
  exact Calls.mono h2 fun e w'' ⟨v, x, y, z⟩ => ⟨v, x, ⟨⟨w'', y⟩, rfl⟩, z⟩
/-- the same where the maker yields a value -/
theorem region_grow_pmaker {P : Program} {id : Nat} {Q : Exit → Act → World → Prop} {a : Act} {w : World} {l : List Oper} {om : Oper} (is : List Nat) (m n : Nat) (hom : l[m]? = some om) (hm : P.follows .mixedOrders = true) (hB : permB l.toArray is m n = true)
    (hgd : om.guard = none)
    (h : wpQuiet P l.toArray (fun w' => ∃ X, w' = gro w X) (fun a' => ∀ w', Below w.heap.size w w' → ∃ v w'', (execOp a'.eval om).run P w' = .ok (.value v) w'' ∧ Below w.heap.size w w'' ∧ wpList P l.toArray Q (l.drop n) (a'.put om.dst v) w'') (pickOps l is) a) : (Code.region id l.toArray true).wp P Q a w := by
  refine region_perm (C := fun w' => ∃ X, w' = gro w X) is m n hom hm hB hgd ⟨⟨{ w with drawn := w.drawn + 1 }, (Below.refl _ w).drew⟩, rfl⟩ ?_
  refine wpQuiet_mono (fun a' k w' ⟨X, e⟩ => ?_) _ _ h
  subst e
  obtain ⟨v, w'', h1, h2, h3⟩ := k _ X.h
  show MkUpon _ _ _ _ _ ((execOp a'.eval om).run P X.w)
  rw [h1]
  exact ⟨⟨⟨w'', h2⟩, rfl⟩, h3⟩
end Go.Proofs.Ytjnngijilkdhbaa

namespace Go.Proofs.Ytjnngijilkdhbaa
set_option linter.unusedVariables false
set_option linter.unusedSimpArgs false
open Go.RowKit
section
variable {P : Program} {md : Region.Mode} {ops : Array Oper} {C : World → Prop} {Q : Exit → Act → World → Prop} {n g : Nat}
/-- operation i, the world staying of the class -/
def Dos (P : Program) (ops : Array Oper) (C : World → Prop) (i : Nat) (K : Act → World → Prop) (a : Act) (w : World) : Prop :=
  ∃ o, ops[i]? = some o ∧ ((Region.wanted o (yielded ops a.tmps) = true ∧ MkUpon P C o K a ((execOp a.eval o).run P w)) ∨ (Region.wanted o (yielded ops a.tmps) = false ∧ C w ∧ K (a.put o.dst undef) w))
theorem Dos.mono {i : Nat} {K K' : Act → World → Prop} {a : Act} {w : World} (hk : ∀ a w, C w → K a w → K' a w) (h : Dos P ops C i K a w) : Dos P ops C i K' a w := by
  obtain ⟨o, ho, ⟨hw, x⟩ | ⟨hw, hC, x⟩⟩ := h
  · exact ⟨o, ho, .inl ⟨hw, x.mono hk⟩⟩
  · exact ⟨o, ho, .inr ⟨hw, hC, hk _ _ hC x⟩⟩
theorem Dos.op {i : Nat} {K : Act → World → Prop} {a : Act} {w : World} (h : Dos P ops C i K a w) : wpOp P ops Q i K a w := by
  obtain ⟨o, ho, ⟨hw, x⟩ | ⟨hw, hC, x⟩⟩ := h
  · unfold wpOp
    simp only [ho, hw, if_true]
    refine .inl ?_
    unfold Oper.wp
    generalize (execOp a.eval o).run P w = r at x
    cases r with
    | halt y w => exact x.elim
    | ok q w =>
      cases q
      case value v => exact x.2
      case enter f args => exact Calls.mono x fun e w'' ⟨v, e1, _, z⟩ => by subst e1; exact z
      all_goals exact x.elim
  · unfold wpOp
    simp only [ho, hw, Bool.false_eq_true, if_false]
    exact x
theorem Dos.yields {i : Nat} {o : Oper} {v : Value} {K : Act → World → Prop} {a : Act} {w : World} (ho : ops[i]? = some o) (hC : C w) (hy : YieldsIf P ops C o v a) (hk : K (a.put o.dst v) w) : Dos P ops C i K a w := by
  rcases hy with ⟨hw, hv⟩ | ⟨hw, rfl⟩
  · exact ⟨o, ho, .inl ⟨hw, by rw [hv w hC]; exact ⟨hC, hk⟩⟩⟩
  · exact ⟨o, ho, .inr ⟨hw, hC, hk⟩⟩
theorem Dos.put {j : Nat} {oi oj : Oper} {v : Value} {a : Act} {w : World} {K : Act → World → Prop} (hj : ops[j]? = some oj) (hap : oi.apart ops oj = true) (hsi : ∀ cs b, oi.op ≠ .select cs b) (hsj : ∀ cs b, oj.op ≠ .select cs b)
    (hy : YieldsIf P ops C oi v a) (h : Dos P ops C j K (a.put oi.dst v) w) : Dos P ops C j (fun a' w' => YieldsIf P ops C oi v a' ∧ K (a'.put oi.dst v) w') a w := by
  obtain ⟨h1, h2, h3⟩ := Oper.apart_spec hap
  have keep : ∀ u, YieldsIf P ops C oi v (a.put oj.dst u) := fun u => hy.of_same (execOp_put oi hsi a oj.dst u h3) (wanted_put oi a oj.dst u h3)
  obtain ⟨o, ho, hh⟩ := h
  obtain rfl : o = oj := Option.some.inj (ho.symm.trans hj)
  refine ⟨o, ho, ?_⟩
  rw [wanted_put o a oi.dst v h1] at hh
  rcases hh with ⟨hw, x⟩ | ⟨hw, hC, x⟩
  · refine .inl ⟨hw, ?_⟩
    rw [execOp_put o hsj a oi.dst v h1] at x
    generalize (execOp a.eval o).run P w = r at x
    cases r with
    | halt y w => exact x.elim
    | ok q w =>
      cases q
      case value u => exact ⟨x.1, keep u, by rw [← Act.put_comm a v u h2]; exact x.2⟩
      case enter f args => exact Calls.mono x fun e w'' ⟨u, e1, y, z⟩ => ⟨u, e1, y, keep u, by rw [← Act.put_comm a v u h2]; exact z⟩
      all_goals exact x.elim
  · exact .inr ⟨hw, hC, keep _, by rw [← Act.put_comm a v undef h2]; exact x⟩
/-- f operations of the head are still to come -/
def HeadD (P : Program) (md : Region.Mode) (ops : Array Oper) (C : World → Prop) (n : Nat) (R : Array Bool → Act → World → Prop) : Nat → Array Bool → Act → World → Prop
  | 0 => R
  | f + 1 => fun s a w => Region.ready md ops s ≠ [] ∧ ∀ i, i ∈ Region.ready md ops s → i < n ∧ Dos P ops C i (fun a' w' => C w' ∧ HeadD P md ops C n R f (s.setIfInBounds i true) a' w') a w
theorem headD_any {R : Array Bool → Act → World → Prop} (hR : ∀ s a w, R s a w → wpAny P md ops Q g s a w) (f : Nat) : ∀ s a w, HeadD P md ops C n R f s a w → wpAny P md ops Q (f + g) s a w := by
  induction f with
  | zero => intro s a w h; rw [Nat.zero_add]; exact hR s a w h
  | succ f ih =>
    intro s a w h
    rw [Nat.succ_add]
    exact ⟨fun h0 => (h.1 h0).elim, fun i hi => wpOp_mono (fun a' w' k => ih _ a' w' k.2) (h.2 i hi).2.op⟩
theorem headD_first {i : Nat} {oi : Oper} {v : Value} {R : Array Bool → Act → World → Prop} (hi : ops[i]? = some oi) (hsel : Region.noSelect ops = true)
    (hs : Region.sinkB md ops n = true) (hc : Region.chainB md ops n = true) (hn : n < ops.size) (hin : i < n) (hR : ∀ s a w, R s a w → ∀ j, j ∈ Region.ready md ops s → n ≤ j) (f : Nat) :
    ∀ s a w, C w → HeadInv md ops n s → (∀ j oj, ops[j]? = some oj → j ≠ i → s.getD j true = false → (∀ e ∈ oj.after, Region.binds md e = true → e.on ≠ i) → oi.apart ops oj = true) → i ∈ Region.ready md ops s → YieldsIf P ops C oi v a →
      HeadD P md ops C n R f (s.setIfInBounds i true) (a.put oi.dst v) w → HeadD P md ops C n R (f + 1) s a w := by
  have sel := Region.noSelect_spec hsel
  have lt : ∀ {s : Array Bool} {j : Nat}, HeadInv md ops n s → i ∈ Region.ready md ops s → j ∈ Region.ready md ops s → j < n := by
    intro s j inv hh hj
    refine Nat.lt_of_not_le fun h => ?_
    exact tail_waits hs hc hn inv (n - i) i rfl hin (mem_ready.1 hh).1 j h hj
  induction f with
  | zero =>
    intro s a w hC inv hfree hr hy H
    refine ⟨List.ne_nil_of_mem hr, fun j hj => ⟨lt inv hr hj, ?_⟩⟩
    rcases Decidable.em (j = i) with rfl | hji
    · exact Dos.yields hi hC hy ⟨hC, H⟩
    · have h1 := hR _ _ _ H j (ready_mono hj hji)
      have h2 := lt inv hr hj
      omega
  | succ f ih =>
    intro s a w hC inv hfree hr hy H
    refine ⟨List.ne_nil_of_mem hr, fun j hj => ⟨lt inv hr hj, ?_⟩⟩
    rcases Decidable.em (j = i) with rfl | hji
    · exact Dos.yields hi hC hy ⟨hC, H⟩
    obtain ⟨un, oj, hoj, after⟩ := mem_ready.1 hj
    have apart := hfree j oj hoj hji un fun e he hb heq => by
      have := after e he hb
      rw [heq, getD_both (mem_ready.1 hr).1] at this
      cases this
    refine (Dos.put hoj apart (fun cs b => sel i oi cs b hi) (fun cs b => sel j oj cs b hoj) hy (H.2 j (ready_mono hj hji)).2).mono ?_
    rintro a' w' hC' ⟨hy', _, hk⟩
    refine ⟨hC', ih _ a' w' hC' (inv.set hj (lt inv hr hj)) (fun q ok hk hki unk no => ?_) (ready_mono hr (Ne.symm hji)) hy' (by rw [Array.setIfInBounds_comm _ _ hji]; exact hk)⟩
    refine hfree q ok hk hki ?_ no
    rcases Decidable.em (j = q) with rfl | hjq
    · exact un
    · rwa [getD_set_ne true hjq] at unk
/-- the operations with the indices is may be taken first, in that order; behind them come ms alone, one behind the other, and then the rest from n on -/
def lexD (md : Region.Mode) (ops : Array Oper) (g n : Nat) : List Nat → List Nat → Array Bool → Bool
  | [], [], s => Region.seqB md ops g n s
  | [], m :: ms, s => decide (Region.ready md ops s = [m]) && decide (m < n) && lexD md ops g n [] ms (s.setIfInBounds m true)
  | i :: is, ms, s => decide (i < n) && (Region.ready md ops s).contains i && Region.free md ops s i &&
      (match ops[i]? with | some o => plainOp o | none => false) && lexD md ops g n is ms (s.setIfInBounds i true)
/-- the makers, one behind the other, and then K -/
def MkAll (P : Program) (C : World → Prop) (K : Act → World → Prop) : List Oper → Act → World → Prop
  | [], a, w => K a w
  | o :: os, a, w => o.guard = none ∧ MkUpon P C o (MkAll P C K os) a ((execOp a.eval o).run P w)
theorem headD_makers {K : Act → World → Prop} {l : List Oper} (hl : l.toArray = ops) (ms : List Nat) : ∀ (s : Array Bool) (a : Act) (w : World), C w → lexD md ops g n [] ms s = true → (pickOps l ms).length = ms.length → MkAll P C K (pickOps l ms) a w →
    HeadD P md ops C n (fun s a w => Region.seqB md ops g n s = true ∧ K a w) ms.length s a w := by
  induction ms with
  | nil => intro s a w hC hB _ h; exact ⟨by simpa only [lexD] using hB, h⟩
  | cons m ms ih =>
    intro s a w hC hB hlen h
    simp only [lexD, Bool.and_eq_true, decide_eq_true_eq] at hB
    obtain ⟨⟨h1, h2⟩, h3⟩ := hB
    refine ⟨by rw [h1]; simp, fun i hi => ?_⟩
    rw [h1] at hi
    obtain rfl : i = m := by simpa using hi
    refine ⟨h2, ?_⟩
    cases ho : l[i]? with
    | none => simp [pickOps, ho] at hlen
    | some o =>
      simp only [pickOps, ho, List.length_cons, Nat.add_right_cancel_iff] at hlen h
      obtain ⟨hgd, hm⟩ := h
      refine ⟨o, by rw [← hl]; simpa using ho, .inl ⟨by simp [Region.wanted, hgd], hm.mono fun a' w' hC' k => ⟨hC', ih _ a' w' hC' h3 hlen k⟩⟩⟩
theorem headD_lex {K : Act → World → Prop} (hsel : Region.noSelect ops = true) (hs : Region.sinkB md ops n = true) (hc : Region.chainB md ops n = true) (hn : n < ops.size) {l : List Oper} (hl : l.toArray = ops) (ms : List Nat) (hlen : (pickOps l ms).length = ms.length) (is : List Nat) :
    ∀ (s : Array Bool) (a : Act) (w : World), C w → HeadInv md ops n s → lexD md ops g n is ms s = true → wpQuiet P ops C (fun a' => ∀ w', C w' → MkAll P C K (pickOps l ms) a' w') (pickOps l is) a →
      HeadD P md ops C n (fun s a w => Region.seqB md ops g n s = true ∧ K a w) (is.length + ms.length) s a w := by
  induction is with
  | nil =>
    intro s a w hC inv hB h
    rw [show ([] : List Nat).length + ms.length = ms.length by simp]
    exact headD_makers hl ms s a w hC hB hlen (h w hC)
  | cons i is ih =>
    intro s a w hC inv hB h
    simp only [lexD, Bool.and_eq_true, decide_eq_true_eq] at hB
    obtain ⟨⟨⟨⟨h1, h3⟩, h4⟩, h5⟩, h6⟩ := hB
    have hr : i ∈ Region.ready md ops s := by simpa using h3
    obtain ⟨_, o, ho, _⟩ := mem_ready.1 hr
    have ho' : l[i]? = some o := by rw [← ho, ← hl]; simp
    rw [ho] at h5
    simp only [pickOps, ho'] at h
    obtain ⟨v, hy, hK⟩ := yieldsIn_of_qOp (K := wpQuiet P ops C _ (pickOps l is)) ho (by unfold qOp; simp only [ho]; exact h)
    rw [show (i :: is).length + ms.length = (is.length + ms.length) + 1 by simp; omega]
    exact headD_first ho hsel hs hc hn h1 (fun s a w x => seqB_ready x.1) _ s a w hC inv (Region.free_spec ho h4) hr (yieldsIf_plain h5 hy) (ih _ _ w hC (inv.set hr h1) h6 hK)
end
def multiB (ops : Array Oper) (is ms : List Nat) (n : Nat) : Bool :=
  Region.noSelect ops && decide (n < ops.size) && decide (is.length + ms.length = n) && Region.sinkB .any ops n && Region.chainB .any ops n && lexD .any ops (ops.size - n) n is ms (Array.replicate ops.size false)
theorem region_multi {P : Program} {id : Nat} {Q : Exit → Act → World → Prop} {a : Act} {w : World} {C : World → Prop} {l : List Oper} (is ms : List Nat) (n : Nat) (hm : P.follows .mixedOrders = true) (hB : multiB l.toArray is ms n = true) (hlen : (pickOps l ms).length = ms.length)
    (hC : C { w with drawn := w.drawn + 1 })
    (h : wpQuiet P l.toArray C (fun a' => ∀ w', C w' → MkAll P C (wpList P l.toArray Q (l.drop n)) (pickOps l ms) a' w') (pickOps l is) a) : (Code.region id l.toArray true).wp P Q a w := by
  simp only [multiB, Bool.and_eq_true, decide_eq_true_eq] at hB
  obtain ⟨⟨⟨⟨⟨b1, b2⟩, b0⟩, b4⟩, b5⟩, b6⟩ := hB
  have z : n < l.length := b2
  have t2 : (l.drop n).length = l.toArray.size - n := List.length_drop
  have hs0 : ∀ j, (Array.replicate l.toArray.size false).getD j false = false := fun j => getD_replicate_false _ j
  have inv : HeadInv .any l.toArray n (Array.replicate l.toArray.size false) :=
    ⟨Array.size_replicate, (fun j oj _ x => by rw [hs0 j] at x; cases x), fun t _ ht => getD_in (by rwa [Array.size_replicate]) (hs0 t)⟩
  have H := headD_lex (P := P) (C := C) (md := .any) (g := l.toArray.size - n) b1 b4 b5 b2 rfl ms hlen is _ a _ hC inv b6 h
  have G := headD_any (Q := Q) (g := l.toArray.size - n) (fun s a' w' x => by
    have y := wpAny_of_seq (md := .any) (Q' := Q) (P := P) (l.drop n) n s a' w' (fun j => by rw [List.getElem?_drop]; simp) (by rw [t2]; exact x.1) x.2
    rwa [t2] at y) _ _ a _ H
  rw [b0, show n + (l.toArray.size - n) = l.toArray.size from by simp at *; omega] at G
  exact wp_region_any hm G
/-- at the worlds that have grown from w: two calls -/
theorem region_grow_two {P : Program} {id : Nat} {Q : Exit → Act → World → Prop} {a : Act} {w : World} {l : List Oper} {o1 o2 : Oper} (is : List Nat) (m1 m2 n : Nat) (h1 : l[m1]? = some o1) (h2 : l[m2]? = some o2) (hm : P.follows .mixedOrders = true) (hB : multiB l.toArray is [m1, m2] n = true)
    (g1 : o1.guard = none) (g2 : o2.guard = none)
    (h : wpQuiet P l.toArray (fun w' => ∃ X, w' = gro w X) (fun a' => ∀ w', Below w.heap.size w w' → ∃ f args, (execOp a'.eval o1).run P w' = .ok (.enter f args) w' ∧ Calls P f args w' fun e w'' => ∃ v, e = .returned v ∧ Below w.heap.size w w'' ∧
      ∃ f2 args2, (execOp (a'.put o1.dst v).eval o2).run P w'' = .ok (.enter f2 args2) w'' ∧ Calls P f2 args2 w'' fun e w''' => ∃ v2, e = .returned v2 ∧ Below w.heap.size w w''' ∧ wpList P l.toArray Q (l.drop n) ((a'.put o1.dst v).put o2.dst v2) w''') (pickOps l is) a) : (Code.region id l.toArray true).wp P Q a w := by
  have hp : pickOps l [m1, m2] = [o1, o2] := by simp [pickOps, h1, h2]
  refine region_multi (C := fun w' => ∃ X, w' = gro w X) is [m1, m2] n hm hB (by rw [hp]; rfl) ⟨⟨{ w with drawn := w.drawn + 1 }, (Below.refl _ w).drew⟩, rfl⟩ ?_
  rw [hp]
  refine wpQuiet_mono (fun a' k w' ⟨X, e⟩ => ?_) _ _ h
  subst e
  obtain ⟨f, args, x1, x2⟩ := k _ X.h
  refine ⟨g1, ?_⟩
  show MkUpon _ _ _ _ _ ((execOp a'.eval o1).run P X.w)
  rw [x1]
  refine Calls.mono x2 fun e w'' ⟨v, y1, y2, f2, args2, y3, y4⟩ => ⟨v, y1, ⟨⟨w'', y2⟩, rfl⟩, g2, ?_⟩
  rw [y3]
  exact Calls.mono y4 fun e w''' ⟨v2, u1, u2, u3⟩ => ⟨v2, u1, ⟨⟨w''', u2⟩, rfl⟩, u3⟩
end Go.Proofs.Ytjnngijilkdhbaa

namespace Go.Proofs.Ytjnngijilkdhbaa
set_option linter.unusedVariables false
set_option linter.unusedSimpArgs false
open Go.RowKit
/-- an operation that yields a value and does no more, the parts of a pair among them -/
def plainX (o : Oper) : Bool := plainOp o || (match o.op with | .extract .. | .build .. | .slice .. | .convert .. | .makeInterface .. | .pick .. | .nilCheck _ => true | .call c => (match c.callee with | .builtin .len => true | _ => false) | _ => false)
theorem plainX_value {o : Oper} (hp : plainX o = true) {ρ : Operand → Value} {P : Program} {w w' : World} {n : Next} (h : (execOp ρ o).run P w = .ok n w') : ∃ u, n = .value u := by
  unfold plainX at hp
  rw [Bool.or_eq_true] at hp
  rcases hp with hp | hp
  · exact plain_value hp h
  · split at hp
    · rename_i ho
      unfold execOp at h
      simp only [ho] at h
      exact value_of h
    · rename_i ho
      unfold execOp at h
      simp only [ho] at h
      exact value_of h
    · rename_i ho
      unfold execOp at h
      simp only [ho] at h
      exact value_of h
    · rename_i ho
      unfold execOp at h
      simp only [ho] at h
      exact value_of h
    · rename_i ho
      unfold execOp at h
      simp only [ho] at h
      exact value_of h
    · rename_i c x y ho
      unfold execOp at h
      simp only [ho] at h
      rw [Sem.run_bind] at h
      generalize (asBool (ρ c)).run P w = r at h
      cases r with
      | ok v w1 => simp only [Result.andThen_ok, Sem.run_pure] at h; injection h with h1 _; exact ⟨_, h1.symm⟩
      | halt x w1 => simp [Result.andThen] at h
    · rename_i x ho
      unfold execOp at h
      simp only [ho] at h
      repeat' (split at h)
      all_goals first
        | (simp only [Sem.run_pure] at h; injection h with h1 _; exact ⟨_, h1.symm⟩)
        | (simp [runtimePanic] at h; done)
        | (simp only [Sem.run_bind, run_program, Result.andThen_ok] at h
           generalize Sem.run P (nilAhead _ _ _ _) w = r at h
           cases r with
           | ok v w1 =>
             simp only [Result.andThen_ok] at h
             split at h
             · simp [unsupported, Result.andThen] at h
             · simp only [Sem.run_pure] at h; injection h with h1 _; exact ⟨_, h1.symm⟩
           | halt x w1 => simp [Result.andThen] at h)
    · rename_i c ho
      split at hp
      · rename_i hc
        unfold execOp at h
        simp only [ho] at h
        unfold resolve at h
        simp only [hc, Sem.run_bind, Sem.run_pure, Result.andThen_ok] at h
        unfold invoke builtin at h
        exact value_of h
      · cases hp
    · cases hp
section
variable {P : Program} {md : Region.Mode} {ops : Array Oper} {C : World → Prop} {Q : Exit → Act → World → Prop} {n g : Nat}
theorem yieldsIf_plainX {o : Oper} {v : Value} {a : Act} (hp : plainX o = true) (h : YieldsIn P ops C o v a) : YieldsIf P ops C o v a := by
  refine h.imp (fun ⟨hw, hq⟩ => ⟨hw, fun w hC => ?_⟩) id
  have hq := hq w hC
  unfold Oper.quietAt at hq
  cases hr : (execOp a.eval o).run P w with
  | halt x w' => rw [hr] at hq; simp only [Oper.quietUpon] at hq
  | ok n w' =>
    obtain ⟨u, rfl⟩ := plainX_value hp hr
    rw [hr] at hq
    obtain ⟨rfl, rfl⟩ := hq
    rfl
/-- what is asked of a maker's run: a value, nothing, or a call that hands a value back; the world stays of the class -/
def MkW (P : Program) (C : World → Prop) (om : Oper) (K : Act → World → Prop) (a : Act) : Result Next → Prop
  | .ok (.value v) w' => C w' ∧ K (a.put om.dst v) w'
  | .ok .skip w' => C w' ∧ K (a.put om.dst undef) w'
  | .ok (.enter f args) w' => Calls P f args w' fun e w'' => ∃ v, e = .returned v ∧ C w'' ∧ K (a.put om.dst v) w''
  | _ => False
theorem MkW.mono {om : Oper} {K K' : Act → World → Prop} {a : Act} (hk : ∀ a w, C w → K a w → K' a w) {r : Result Next} (h : MkW P C om K a r) : MkW P C om K' a r := by
  cases r with
  | halt x w => exact h
  | ok n w =>
    cases n
    case value v => exact ⟨h.1, hk _ _ h.1 h.2⟩
    case skip => exact ⟨h.1, hk _ _ h.1 h.2⟩
    case enter f args => exact Calls.mono h fun e w'' ⟨v, x, y, z⟩ => ⟨v, x, y, hk _ _ y z⟩
    all_goals exact h
/-- operation i, the world staying of the class -/
def Dow (P : Program) (ops : Array Oper) (C : World → Prop) (i : Nat) (K : Act → World → Prop) (a : Act) (w : World) : Prop :=
  ∃ o, ops[i]? = some o ∧ ((Region.wanted o (yielded ops a.tmps) = true ∧ MkW P C o K a ((execOp a.eval o).run P w)) ∨ (Region.wanted o (yielded ops a.tmps) = false ∧ C w ∧ K (a.put o.dst undef) w))
theorem Dow.mono {i : Nat} {K K' : Act → World → Prop} {a : Act} {w : World} (hk : ∀ a w, C w → K a w → K' a w) (h : Dow P ops C i K a w) : Dow P ops C i K' a w := by
  obtain ⟨o, ho, ⟨hw, x⟩ | ⟨hw, hC, x⟩⟩ := h
  · exact ⟨o, ho, .inl ⟨hw, x.mono hk⟩⟩
  · exact ⟨o, ho, .inr ⟨hw, hC, hk _ _ hC x⟩⟩
theorem Dow.op {i : Nat} {K : Act → World → Prop} {a : Act} {w : World} (h : Dow P ops C i K a w) : wpOp P ops Q i K a w := by
  obtain ⟨o, ho, ⟨hw, x⟩ | ⟨hw, hC, x⟩⟩ := h
  · unfold wpOp
    simp only [ho, hw, if_true]
    refine .inl ?_
    unfold Oper.wp
    generalize (execOp a.eval o).run P w = r at x
    cases r with
    | halt y w => exact x.elim
    | ok q w =>
      cases q
      case value v => exact x.2
      case enter f args => exact Calls.mono x fun e w'' ⟨v, e1, _, z⟩ => by subst e1; exact z
      case skip => exact x.2
      all_goals exact x.elim
  · unfold wpOp
    simp only [ho, hw, Bool.false_eq_true, if_false]
    exact x
theorem Dow.yields {i : Nat} {o : Oper} {v : Value} {K : Act → World → Prop} {a : Act} {w : World} (ho : ops[i]? = some o) (hC : C w) (hy : YieldsIf P ops C o v a) (hk : K (a.put o.dst v) w) : Dow P ops C i K a w := by
  rcases hy with ⟨hw, hv⟩ | ⟨hw, rfl⟩
  · exact ⟨o, ho, .inl ⟨hw, by rw [hv w hC]; exact ⟨hC, hk⟩⟩⟩
  · exact ⟨o, ho, .inr ⟨hw, hC, hk⟩⟩
theorem Dow.put {j : Nat} {oi oj : Oper} {v : Value} {a : Act} {w : World} {K : Act → World → Prop} (hj : ops[j]? = some oj) (hap : oi.apart ops oj = true) (hsi : ∀ cs b, oi.op ≠ .select cs b) (hsj : ∀ cs b, oj.op ≠ .select cs b)
    (hy : YieldsIf P ops C oi v a) (h : Dow P ops C j K (a.put oi.dst v) w) : Dow P ops C j (fun a' w' => YieldsIf P ops C oi v a' ∧ K (a'.put oi.dst v) w') a w := by
  obtain ⟨h1, h2, h3⟩ := Oper.apart_spec hap
  have keep : ∀ u, YieldsIf P ops C oi v (a.put oj.dst u) := fun u => hy.of_same (execOp_put oi hsi a oj.dst u h3) (wanted_put oi a oj.dst u h3)
  obtain ⟨o, ho, hh⟩ := h
  obtain rfl : o = oj := Option.some.inj (ho.symm.trans hj)
  refine ⟨o, ho, ?_⟩
  rw [wanted_put o a oi.dst v h1] at hh
  rcases hh with ⟨hw, x⟩ | ⟨hw, hC, x⟩
  · refine .inl ⟨hw, ?_⟩
    rw [execOp_put o hsj a oi.dst v h1] at x
    generalize (execOp a.eval o).run P w = r at x
    cases r with
    | halt y w => exact x.elim
    | ok q w =>
      cases q
      case value u => exact ⟨x.1, keep u, by rw [← Act.put_comm a v u h2]; exact x.2⟩
      case enter f args => exact Calls.mono x fun e w'' ⟨u, e1, y, z⟩ => ⟨u, e1, y, keep u, by rw [← Act.put_comm a v u h2]; exact z⟩
      case skip => exact ⟨x.1, keep _, by rw [← Act.put_comm a v undef h2]; exact x.2⟩
      all_goals exact x.elim
  · exact .inr ⟨hw, hC, keep _, by rw [← Act.put_comm a v undef h2]; exact x⟩
/-- f operations of the head are still to come -/
def HeadW (P : Program) (md : Region.Mode) (ops : Array Oper) (C : World → Prop) (n : Nat) (R : Array Bool → Act → World → Prop) : Nat → Array Bool → Act → World → Prop
  | 0 => R
  | f + 1 => fun s a w => Region.ready md ops s ≠ [] ∧ ∀ i, i ∈ Region.ready md ops s → i < n ∧ Dow P ops C i (fun a' w' => C w' ∧ HeadW P md ops C n R f (s.setIfInBounds i true) a' w') a w
theorem headW_any {R : Array Bool → Act → World → Prop} (hR : ∀ s a w, R s a w → wpAny P md ops Q g s a w) (f : Nat) : ∀ s a w, HeadW P md ops C n R f s a w → wpAny P md ops Q (f + g) s a w := by
  induction f with
  | zero => intro s a w h; rw [Nat.zero_add]; exact hR s a w h
  | succ f ih =>
    intro s a w h
    rw [Nat.succ_add]
    exact ⟨fun h0 => (h.1 h0).elim, fun i hi => wpOp_mono (fun a' w' k => ih _ a' w' k.2) (h.2 i hi).2.op⟩
theorem headW_first {i : Nat} {oi : Oper} {v : Value} {R : Array Bool → Act → World → Prop} (hi : ops[i]? = some oi) (hsel : Region.noSelect ops = true)
    (hs : Region.sinkB md ops n = true) (hc : Region.chainB md ops n = true) (hn : n < ops.size) (hin : i < n) (hR : ∀ s a w, R s a w → ∀ j, j ∈ Region.ready md ops s → n ≤ j) (f : Nat) :
    ∀ s a w, C w → HeadInv md ops n s → (∀ j oj, ops[j]? = some oj → j ≠ i → s.getD j true = false → (∀ e ∈ oj.after, Region.binds md e = true → e.on ≠ i) → oi.apart ops oj = true) → i ∈ Region.ready md ops s → YieldsIf P ops C oi v a →
      HeadW P md ops C n R f (s.setIfInBounds i true) (a.put oi.dst v) w → HeadW P md ops C n R (f + 1) s a w := by
  have sel := Region.noSelect_spec hsel
  have lt : ∀ {s : Array Bool} {j : Nat}, HeadInv md ops n s → i ∈ Region.ready md ops s → j ∈ Region.ready md ops s → j < n := by
    intro s j inv hh hj
    refine Nat.lt_of_not_le fun h => ?_
    exact tail_waits hs hc hn inv (n - i) i rfl hin (mem_ready.1 hh).1 j h hj
  induction f with
  | zero =>
    intro s a w hC inv hfree hr hy H
    refine ⟨List.ne_nil_of_mem hr, fun j hj => ⟨lt inv hr hj, ?_⟩⟩
    rcases Decidable.em (j = i) with rfl | hji
    · exact Dow.yields hi hC hy ⟨hC, H⟩
    · have h1 := hR _ _ _ H j (ready_mono hj hji)
      have h2 := lt inv hr hj
      omega
  | succ f ih =>
    intro s a w hC inv hfree hr hy H
    refine ⟨List.ne_nil_of_mem hr, fun j hj => ⟨lt inv hr hj, ?_⟩⟩
    rcases Decidable.em (j = i) with rfl | hji
    · exact Dow.yields hi hC hy ⟨hC, H⟩
    obtain ⟨un, oj, hoj, after⟩ := mem_ready.1 hj
    have apart := hfree j oj hoj hji un fun e he hb heq => by
      have := after e he hb
      rw [heq, getD_both (mem_ready.1 hr).1] at this
      cases this
    refine (Dow.put hoj apart (fun cs b => sel i oi cs b hi) (fun cs b => sel j oj cs b hoj) hy (H.2 j (ready_mono hj hji)).2).mono ?_
    rintro a' w' hC' ⟨hy', _, hk⟩
    refine ⟨hC', ih _ a' w' hC' (inv.set hj (lt inv hr hj)) (fun q ok hk hki unk no => ?_) (ready_mono hr (Ne.symm hji)) hy' (by rw [Array.setIfInBounds_comm _ _ hji]; exact hk)⟩
    refine hfree q ok hk hki ?_ no
    rcases Decidable.em (j = q) with rfl | hjq
    · exact un
    · rwa [getD_set_ne true hjq] at unk
/-- a plan -/
inductive Pl where
  | fin
  | takes (is : List Nat) (k : Pl)
  | make (m : Nat) (k : Pl)
  | fork (m1 m2 : Nat) (k1 k2 : Pl)
def Pl.len : Pl → Nat
  | .fin => 0
  | .takes is k => is.length + k.len
  | .make _ k => k.len + 1
  | .fork _ _ k _ => k.len + 1
def lexTakes (md : Region.Mode) (ops : Array Oper) (n : Nat) : List Nat → (Array Bool → Bool) → Array Bool → Bool
  | [], k, s => k s
  | i :: is, k, s => decide (i < n) && (Region.ready md ops s).contains i && Region.free md ops s i && (match ops[i]? with | some o => plainX o | none => false) && lexTakes md ops n is k (s.setIfInBounds i true)
def lexPl (md : Region.Mode) (ops : Array Oper) (g n : Nat) : Pl → Array Bool → Bool
  | .fin, s => Region.seqB md ops g n s
  | .takes is k, s => lexTakes md ops n is (lexPl md ops g n k) s
  | .make m k, s => decide (Region.ready md ops s = [m]) && decide (m < n) && lexPl md ops g n k (s.setIfInBounds m true)
  | .fork m1 m2 k1 k2, s => (decide (Region.ready md ops s = [m1, m2]) || decide (Region.ready md ops s = [m2, m1])) && decide (m1 < n) && decide (m2 < n) && decide (k1.len = k2.len) && lexPl md ops g n k1 (s.setIfInBounds m1 true) && lexPl md ops g n k2 (s.setIfInBounds m2 true)
/-- a maker, that runs or (its guard not met) does not -/
def ObM (P : Program) (ops : Array Oper) (C : World → Prop) (o : Oper) (K : Act → World → Prop) (a : Act) (w : World) : Prop :=
  (Region.wanted o (yielded ops a.tmps) = true ∧ MkW P C o K a ((execOp a.eval o).run P w)) ∨ (Region.wanted o (yielded ops a.tmps) = false ∧ C w ∧ K (a.put o.dst undef) w)
theorem wanted_none {ops : Array Oper} {o : Oper} {a : Act} (hg : o.guard = none) : Region.wanted o (yielded ops a.tmps) = true := by simp [Region.wanted, hg]
def ObPl (P : Program) (ops : Array Oper) (C : World → Prop) (l : List Oper) (K : Act → World → Prop) : Pl → Act → World → Prop
  | .fin, a, w => K a w
  | .takes is k, a, w => wpQuiet P ops C (fun a' => ObPl P ops C l K k a' w) (pickOps l is) a
  | .make m k, a, w => ∃ o, l[m]? = some o ∧ ObM P ops C o (ObPl P ops C l K k) a w
  | .fork m1 m2 k1 k2, a, w => (∃ o, l[m1]? = some o ∧ ObM P ops C o (ObPl P ops C l K k1) a w) ∧ (∃ o, l[m2]? = some o ∧ ObM P ops C o (ObPl P ops C l K k2) a w)
theorem headW_takes {R : Array Bool → Act → World → Prop} {l : List Oper} {k : Array Bool → Bool} {f : Nat} {K : Act → World → Prop} (hsel : Region.noSelect ops = true) (hs : Region.sinkB md ops n = true) (hc : Region.chainB md ops n = true) (hn : n < ops.size) (hl : l.toArray = ops)
    (hR : ∀ s a w, R s a w → ∀ j, j ∈ Region.ready md ops s → n ≤ j) (hk : ∀ s a w, C w → HeadInv md ops n s → k s = true → K a w → HeadW P md ops C n R f s a w) (is : List Nat) :
    ∀ (s : Array Bool) (a : Act) (w : World), C w → HeadInv md ops n s → lexTakes md ops n is k s = true → wpQuiet P ops C (fun a' => K a' w) (pickOps l is) a → HeadW P md ops C n R (is.length + f) s a w := by
  induction is with
  | nil => intro s a w hC inv hB h; rw [show ([] : List Nat).length + f = f by simp]; exact hk s a w hC inv (by simpa only [lexTakes] using hB) h
  | cons i is ih =>
    intro s a w hC inv hB h
    simp only [lexTakes, Bool.and_eq_true, decide_eq_true_eq] at hB
    obtain ⟨⟨⟨⟨h1, h3⟩, h4⟩, h5⟩, h6⟩ := hB
    have hr : i ∈ Region.ready md ops s := by simpa using h3
    obtain ⟨_, o, ho, _⟩ := mem_ready.1 hr
    have ho' : l[i]? = some o := by rw [← ho, ← hl]; simp
    rw [ho] at h5
    simp only [pickOps, ho'] at h
    obtain ⟨v, hy, hK⟩ := yieldsIn_of_qOp (K := wpQuiet P ops C _ (pickOps l is)) ho (by unfold qOp; simp only [ho]; exact h)
    rw [show (i :: is).length + f = (is.length + f) + 1 by simp; omega]
    exact headW_first ho hsel hs hc hn h1 hR _ s a w hC inv (Region.free_spec ho h4) hr (yieldsIf_plainX h5 hy) (ih _ _ w hC (inv.set hr h1) h6 hK)
theorem headW_plan {K : Act → World → Prop} (hsel : Region.noSelect ops = true) (hs : Region.sinkB md ops n = true) (hc : Region.chainB md ops n = true) (hn : n < ops.size) {l : List Oper} (hl : l.toArray = ops) (p : Pl) :
    ∀ (s : Array Bool) (a : Act) (w : World), C w → HeadInv md ops n s → lexPl md ops g n p s = true → ObPl P ops C l K p a w → HeadW P md ops C n (fun s a w => Region.seqB md ops g n s = true ∧ K a w) p.len s a w := by
  have one : ∀ {m : Nat} {k : Pl} {s : Array Bool} {a : Act} {w : World}, (∀ (s : Array Bool) (a : Act) (w : World), C w → HeadInv md ops n s → lexPl md ops g n k s = true → ObPl P ops C l K k a w → HeadW P md ops C n (fun s a w => Region.seqB md ops g n s = true ∧ K a w) k.len s a w) →
      HeadInv md ops n s → m ∈ Region.ready md ops s → m < n → lexPl md ops g n k (s.setIfInBounds m true) = true → (∃ o, l[m]? = some o ∧ ObM P ops C o (ObPl P ops C l K k) a w) →
      Dow P ops C m (fun a' w' => C w' ∧ HeadW P md ops C n (fun s a w => Region.seqB md ops g n s = true ∧ K a w) k.len (s.setIfInBounds m true) a' w') a w := by
    rintro m k s a w ih inv hr hm hB ⟨o, ho, hk⟩
    exact ⟨o, by rw [← hl]; simpa using ho, hk.imp (fun ⟨hw, x⟩ => ⟨hw, x.mono fun a' w' hC' x => ⟨hC', ih _ a' w' hC' (inv.set hr hm) hB x⟩⟩) (fun ⟨hw, hC', x⟩ => ⟨hw, hC', hC', ih _ _ w hC' (inv.set hr hm) hB x⟩)⟩
  induction p with
  | fin => intro s a w hC inv hB h; exact ⟨by simpa only [lexPl] using hB, h⟩
  | takes is k ih => intro s a w hC inv hB h; exact headW_takes hsel hs hc hn hl (fun s a w x => seqB_ready x.1) ih is s a w hC inv (by simpa only [lexPl] using hB) h
  | make m k ih =>
    intro s a w hC inv hB h
    simp only [lexPl, Bool.and_eq_true, decide_eq_true_eq] at hB
    obtain ⟨⟨h1, h2⟩, h3⟩ := hB
    refine ⟨by rw [h1]; simp, fun i hi => ?_⟩
    have hi' := hi
    rw [h1] at hi'
    obtain rfl : i = m := by simpa using hi'
    exact ⟨h2, one ih inv hi h2 h3 h⟩
  | fork m1 m2 k1 k2 ih1 ih2 =>
    intro s a w hC inv hB h
    simp only [lexPl, Bool.and_eq_true, Bool.or_eq_true, decide_eq_true_eq] at hB
    obtain ⟨⟨⟨⟨⟨h0, h1⟩, h2⟩, h3⟩, h4⟩, h5⟩ := hB
    refine ⟨by rcases h0 with h0 | h0 <;> rw [h0] <;> simp, fun i hi => ?_⟩
    have hi' : i = m1 ∨ i = m2 := by
      rcases h0 with h0 | h0 <;> rw [h0] at hi <;> simp at hi
      · exact hi
      · exact hi.symm
    rcases hi' with rfl | rfl
    · exact ⟨h1, one ih1 inv hi h1 h4 h.1⟩
    · refine ⟨h2, ?_⟩
      show Dow P ops C i (fun a' w' => C w' ∧ HeadW P md ops C n _ k1.len _ a' w') a w
      rw [h3]
      exact one ih2 inv hi h2 h5 h.2
end
def planB (ops : Array Oper) (p : Pl) (n : Nat) : Bool :=
  Region.noSelect ops && decide (n < ops.size) && decide (p.len = n) && Region.sinkB .any ops n && Region.chainB .any ops n && lexPl .any ops (ops.size - n) n p (Array.replicate ops.size false)
theorem region_plan {P : Program} {id : Nat} {Q : Exit → Act → World → Prop} {a : Act} {w : World} {l : List Oper} (p : Pl) (n : Nat) (hm : P.follows .mixedOrders = true) (hB : planB l.toArray p n = true)
    (h : ObPl P l.toArray (fun w' => ∃ X, w' = gro w X) l (wpList P l.toArray Q (l.drop n)) p a w.drew) : (Code.region id l.toArray true).wp P Q a w := by
  simp only [planB, Bool.and_eq_true, decide_eq_true_eq] at hB
  obtain ⟨⟨⟨⟨⟨b1, b2⟩, b0⟩, b4⟩, b5⟩, b6⟩ := hB
  have z : n < l.length := b2
  have t2 : (l.drop n).length = l.toArray.size - n := List.length_drop
  have hs0 : ∀ j, (Array.replicate l.toArray.size false).getD j false = false := fun j => getD_replicate_false _ j
  have inv : HeadInv .any l.toArray n (Array.replicate l.toArray.size false) :=
    ⟨Array.size_replicate, (fun j oj _ x => by rw [hs0 j] at x; cases x), fun t _ ht => getD_in (by rwa [Array.size_replicate]) (hs0 t)⟩
  have H := headW_plan (P := P) (md := .any) (g := l.toArray.size - n) b1 b4 b5 b2 rfl p _ a w.drew ⟨⟨w.drew, (Below.refl _ w).drew⟩, rfl⟩ inv b6 h
  have G := headW_any (Q := Q) (g := l.toArray.size - n) (fun s a' w' x => by
    have y := wpAny_of_seq (md := .any) (Q' := Q) (P := P) (l.drop n) n s a' w' (fun j => by rw [List.getElem?_drop]; simp) (by rw [t2]; exact x.1) x.2
    rwa [t2] at y) _ _ a _ H
  rw [b0, show n + (l.toArray.size - n) = l.toArray.size from by simp at *; omega] at G
  exact wp_region_any hm G
end Go.Proofs.Ytjnngijilkdhbaa
