/- Maps whose keys the program compares by their parts: what they hold, said key by key. -/
import Derived.MapKept
import Derived.MapFrom
import Derived.LaidEql
import Derived.Laws.StructEq
import Derived.Maps.OwnOps
import Derived.WalkKit
namespace Go.Proofs.Ytanfljajafelgaa
set_option linter.unusedVariables false
set_option linter.unusedSimpArgs false
/-- keys of a type that are told apart, in the worlds C, by what they are -/
structure KeyM (P : Program) (kt : TypeId) (C : World → Prop) (K : Value → Prop) : Prop where
  kind : ∃ d, P.underlying kt = some d ∧ ∀ a b, Instr.sameNow d a b = none
  check : ∀ e k w, K k → (Instr.checkKey e 10000 kt k).run P w = .ok () w
  eql : ∀ a b w, C w → K a → K b → ∃ r, (Op.equal kt a b).run P w = .ok r w ∧ (r = true ↔ a = b)
  stay : ∀ a, K a → Instr.sameBits 10000 a a = true
/-- block M is a map of keys K that holds F -/
def OwnM (w : World) (K : Value → Prop) (M : Nat) (F : Value → Option Value) : Prop :=
  ∃ es clock, w.heap[M]? = some (.map es clock) ∧ (∀ x ∈ es.toList, K x.key ∧ F x.key = some x.val) ∧ (es.toList.map (·.key)).Nodup ∧ ∀ k v, F k = some v → ∃ x ∈ es.toList, x.key = k
theorem OwnM.lt {w : World} {K : Value → Prop} {M : Nat} {F : Value → Option Value} (h : OwnM w K M F) : M < w.heap.size := by
  obtain ⟨es, clock, hb, _⟩ := h
  exact (Array.getElem?_eq_some_iff.1 hb).1
theorem OwnM.of_block {w w' : World} {K : Value → Prop} {M : Nat} {F : Value → Option Value} (h : OwnM w K M F) (e : w'.heap[M]? = w.heap[M]?) : OwnM w' K M F := by
  obtain ⟨es, clock, hb, hr⟩ := h
  exact ⟨es, clock, e.trans hb, hr⟩
theorem OwnM.new (w : World) (K : Value → Prop) : OwnM (w.alloc (.map #[] 0)) K w.heap.size (fun _ => none) :=
  ⟨#[], 0, (MapKept.heap_alloc w _).1, by simp, by simp, fun _ _ h => by cases h⟩
theorem OwnM.key {w : World} {K : Value → Prop} {M : Nat} {F : Value → Option Value} (h : OwnM w K M F) {k v : Value} (hk : F k = some v) : K k := by
  obtain ⟨es, clock, hb, h1, _, h3⟩ := h
  obtain ⟨x, hx, rfl⟩ := h3 k v hk
  exact (h1 x hx).1
section
variable {P : Program} {kt : TypeId} {C : World → Prop} {K : Value → Prop}
theorem find_asking (KM : KeyM P kt C K) {k : Value} {w : World} (hC : C w) (hk : K k) : ∀ (l : List MapEntry) (i : Nat), (∀ x ∈ l, K x.key) →
    ((Instr.findAsking kt k l i).run P w = .ok none w ∧ ∀ x ∈ l, x.key ≠ k) ∨ ∃ j e, (Instr.findAsking kt k l i).run P w = .ok (some (i + j, e.val)) w ∧ l[j]? = some e ∧ e.key = k
  | [], _, _ => .inl ⟨rfl, by simp⟩
  | e :: es, i, h => by
    obtain ⟨r, hr, hiff⟩ := KM.eql k e.key w hC hk (h e (.head _))
    cases r with
    | true => exact .inr ⟨0, e, by simp [Instr.findAsking, hr, Result.andThen], rfl, (hiff.1 rfl).symm⟩
    | false =>
      have hne : e.key ≠ k := fun q => by have := hiff.2 q.symm; cases this
      rcases find_asking KM hC hk es (i + 1) (fun x hx => h x (.tail _ hx)) with ⟨h1, h2⟩ | ⟨j, e', h1, h2, h3⟩
      · exact .inl ⟨by simp [Instr.findAsking, hr, h1, Result.andThen], fun x hx => by
          cases hx with
          | head => exact hne
          | tail _ hx => exact h2 x hx⟩
      · exact .inr ⟨j + 1, e', by simp [Instr.findAsking, hr, h1, Result.andThen]; omega, by simpa using h2, h3⟩
theorem find_key (KM : KeyM P kt C K) {k : Value} {w : World} (hC : C w) (hk : K k) (l : List MapEntry) (h : ∀ x ∈ l, K x.key) :
    ((Instr.findKey kt k l).run P w = .ok none w ∧ ∀ x ∈ l, x.key ≠ k) ∨ ∃ j e, (Instr.findKey kt k l).run P w = .ok (some (j, e.val)) w ∧ l[j]? = some e ∧ e.key = k := by
  obtain ⟨d, hd, hn⟩ := KM.kind
  cases l with
  | nil => exact .inl ⟨by simp [Instr.findKey, run_underlying hd, Result.andThen, Instr.findNow], by simp⟩
  | cons e es =>
    have e0 : (Instr.findKey kt k (e :: es)).run P w = (Instr.findAsking kt k (e :: es)).run P w := by
      simp [Instr.findKey, run_underlying hd, Result.andThen, Instr.findNow, hn]
    rw [e0]
    rcases find_asking KM hC hk (e :: es) 0 h with h1 | ⟨j, e', h1, h2⟩
    · exact .inl h1
    · exact .inr ⟨j, e', by simpa using h1, h2⟩
/-- a look-up with ok -/
theorem OwnM.look {w : World} {M : Nat} {F : Value → Option Value} (h : OwnM w K M F) (KM : KeyM P kt C K) (hC : C w) {t et : TypeId} (ht : P.underlying t = some (.map kt et)) {z : Value} (hz : (zeroValue et).run P w = .ok z w) {k : Value} (hk : K k) :
    (Instr.lookup t (.map (some M)) k true).run P w = .ok (.tuple #[(F k).getD z, .bool (F k).isSome]) w := by
  obtain ⟨es, clock, hb, h1, h2, h3⟩ := h
  rcases find_key KM hC hk es.toList (fun x hx => (h1 x hx).1) with ⟨h4, h5⟩ | ⟨j, e, h4, h5, rfl⟩
  · have hF : F k = none := by
      cases hf : F k with
      | none => rfl
      | some v =>
        obtain ⟨x, hx, e⟩ := h3 k v hf
        exact absurd e (h5 x hx)
    simp [Instr.lookup, run_underlying ht, MapKept.run_getObj_map hb, KM.check _ _ _ hk, h4, hz, hF, Result.andThen]
  · have hF := (h1 e (List.mem_of_getElem? h5)).2
    simp [Instr.lookup, run_underlying ht, MapKept.run_getObj_map hb, KM.check _ _ _ hk, h4, hF, Result.andThen]
/-- a look-up without ok -/
theorem OwnM.look1 {w : World} {M : Nat} {F : Value → Option Value} (h : OwnM w K M F) (KM : KeyM P kt C K) (hC : C w) {t et : TypeId} (ht : P.underlying t = some (.map kt et)) {z : Value} (hz : (zeroValue et).run P w = .ok z w) {k : Value} (hk : K k) :
    (Instr.lookup t (.map (some M)) k false).run P w = .ok ((F k).getD z) w := by
  obtain ⟨es, clock, hb, h1, h2, h3⟩ := h
  rcases find_key KM hC hk es.toList (fun x hx => (h1 x hx).1) with ⟨h4, h5⟩ | ⟨j, e, h4, h5, rfl⟩
  · have hF : F k = none := by
      cases hf : F k with
      | none => rfl
      | some v =>
        obtain ⟨x, hx, e⟩ := h3 k v hf
        exact absurd e (h5 x hx)
    simp [Instr.lookup, run_underlying ht, MapKept.run_getObj_map hb, KM.check _ _ _ hk, h4, hz, hF, Result.andThen]
  · have hF := (h1 e (List.mem_of_getElem? h5)).2
    simp [Instr.lookup, run_underlying ht, MapKept.run_getObj_map hb, KM.check _ _ _ hk, h4, hF, Result.andThen]
/-- a function with one value set -/
structure SetM (F F' : Value → Option Value) (k v : Value) : Prop where
  same : F' k = some v
  other : ∀ x, x ≠ k → F' x = F x
theorem setM_is (F : Value → Option Value) (k v : Value) : ∃ F', SetM F F' k v := by
  classical
  exact ⟨fun x => if x = k then some v else F x, by simp, fun x h => by simp [h]⟩
theorem grown_setB {w : World} {M : Nat} {o o' : Obj} (hb : w.heap[M]? = some o) : w.grownBy { w with heap := w.heap.setIfInBounds M o' } (some M) :=
  ⟨rfl, rfl, rfl, by simp, fun i _ hi => (MapKept.heap_set hb).2 i (fun e => hi (by rw [e]))⟩
/-- a store -/
theorem OwnM.put {w : World} {M : Nat} {F : Value → Option Value} (h : OwnM w K M F) (KM : KeyM P kt C K) (hC : C w) {t et : TypeId} (ht : P.underlying t = some (.map kt et)) {k : Value} (hk : K k) (v : Value) :
    ∃ w' F', (Instr.mapUpdate t (.map (some M)) k v).run P w = .ok () w' ∧ SetM F F' k v ∧ OwnM w' K M F' ∧ w.grownBy w' (some M) := by
  obtain ⟨F', hS⟩ := setM_is F k v
  obtain ⟨es, clock, hb, h1, h2, h3⟩ := h
  rcases find_key KM hC hk es.toList (fun x hx => (h1 x hx).1) with ⟨h4, h5⟩ | ⟨j, e, h4, h5, h6⟩
  · refine ⟨{ w with heap := w.heap.setIfInBounds M (.map (es.push { key := k, val := v, born := clock }) (clock + 1)) }, F', ?_, hS, ⟨_, _, (MapKept.heap_set hb).1, ?_, ?_, ?_⟩, grown_setB hb⟩
    · simp [Instr.mapUpdate, run_underlying ht, MapKept.run_getObj_map hb, KM.check _ _ _ hk, h4, MapKept.run_setObj_map _ hb, Result.andThen]
    · intro x hx
      simp only [Array.toList_push, List.mem_append, List.mem_singleton] at hx
      rcases hx with hx | rfl
      · exact ⟨(h1 x hx).1, by rw [hS.other _ (h5 x hx)]; exact (h1 x hx).2⟩
      · exact ⟨hk, hS.same⟩
    · simp only [Array.toList_push, List.map_append, List.map_cons, List.map_nil]
      refine List.nodup_append.2 ⟨h2, by simp, ?_⟩
      intro a ha b hb'
      simp only [List.mem_singleton] at hb'
      subst hb'
      obtain ⟨x, hx, rfl⟩ := List.mem_map.1 ha
      exact h5 x hx
    · intro k' v' hf
      by_cases e : k' = k
      · exact ⟨_, by simp; exact .inr rfl, e.symm⟩
      · rw [hS.other _ e] at hf
        obtain ⟨x, hx, hx'⟩ := h3 k' v' hf
        exact ⟨x, by simp only [Array.toList_push, List.mem_append]; exact .inl hx, hx'⟩
  · have hj : es[j]? = some e := by simpa using h5
    subst h6
    refine ⟨{ w with heap := w.heap.setIfInBounds M (.map (es.modify j fun x => { x with key := e.key, val := v }) clock) }, F', ?_, hS, ⟨_, _, (MapKept.heap_set hb).1, ?_, ?_, ?_⟩, grown_setB hb⟩
    · simp [Instr.mapUpdate, run_underlying ht, MapKept.run_getObj_map hb, KM.check _ _ _ hk, h4, hj, Instr.keyThatStays, KM.stay _ hk, MapKept.run_setObj_map _ hb, Result.andThen]
    · intro x hx
      rw [Array.mem_toList_iff, Array.mem_iff_getElem?] at hx
      obtain ⟨i, hi⟩ := hx
      rw [Array.getElem?_modify] at hi
      split at hi
      · rename_i hij
        subst hij
        rw [hj] at hi
        simp at hi
        subst hi
        exact ⟨hk, hS.same⟩
      · rename_i hij
        have hx' := MapFrom.at_mem hi
        have hne : x.key ≠ e.key := by
          intro hxe
          have hi1 : (es.toList.map (·.key))[i]? = some x.key := by simp [hi]
          have hj1 : (es.toList.map (·.key))[j]? = some x.key := by simp [hj, hxe]
          have hl : i < (es.toList.map (·.key)).length := (List.getElem?_eq_some_iff.1 hi1).1
          exact hij ((List.getElem?_inj hl h2).1 (hi1.trans hj1.symm)).symm
        exact ⟨(h1 x hx').1, by rw [hS.other _ hne]; exact (h1 x hx').2⟩
    · rw [MapKept.modify_keys j _ (fun e' he => by rw [hj] at he; injection he with he; rw [← he])]; exact h2
    · intro k' v' hf
      have hkeys := MapKept.modify_keys (es := es) j (fun x => { x with key := e.key, val := v }) (fun e' he => by rw [hj] at he; injection he with he; rw [← he])
      have hmem : k' ∈ es.toList.map (·.key) := by
        by_cases e' : k' = e.key
        · rw [e']; exact List.mem_map.2 ⟨e, List.mem_of_getElem? h5, rfl⟩
        · rw [hS.other _ e'] at hf
          obtain ⟨x, hx, hx'⟩ := h3 k' v' hf
          exact List.mem_map.2 ⟨x, hx, hx'⟩
      rw [← hkeys] at hmem
      obtain ⟨x, hx, hx'⟩ := List.mem_map.1 hmem
      exact ⟨x, hx, hx'⟩
end
theorem wpList_lookM {P : Program} (w : World) {ops : Array Oper} {rest : List Oper} {o : Oper} {a : Act} {Q : Exit → Act → World → Prop}
    (hg : o.guard = none) (m x : Operand) (t : TypeId) (hop : o.op = Op.lookup t m x true) (v : Value) (M : Nat) (k : Value)
    (hm : a.eval m = .map (some M)) (hx : a.eval x = k) (hrun : (Instr.lookup t (.map (some M)) k true).run P w = .ok v w)
    (hK : wpList P ops Q rest (a.put o.dst v) w) : wpList P ops Q (o :: rest) a w := by
  refine wpList_plain hg fun K' hK' => ?_
  unfold Oper.wp
  simp [execOp, hop, hm, hx, hrun, Result.andThen]
  exact hK' _ _ hK
theorem wpList_putM {P : Program} (w : World) {ops : Array Oper} {rest : List Oper} {o : Oper} {a : Act} {Q : Exit → Act → World → Prop}
    (hg : o.guard = none) (m x y : Operand) (t : TypeId) (hop : o.op = Op.mapUpdate t m x y) (k v : Value) (M : Nat) (w' : World)
    (hm : a.eval m = .map (some M)) (hx : a.eval x = k) (hy : a.eval y = v) (hrun : (Instr.mapUpdate t (.map (some M)) k v).run P w = .ok () w')
    (hK : wpList P ops Q rest (a.put o.dst undef) w') : wpList P ops Q (o :: rest) a w := by
  refine wpList_plain hg fun K' hK' => ?_
  unfold Oper.wp
  simp [execOp, hop, hm, hx, hy, hrun, Result.andThen]
  exact hK' _ _ hK
end Go.Proofs.Ytanfljajafelgaa
