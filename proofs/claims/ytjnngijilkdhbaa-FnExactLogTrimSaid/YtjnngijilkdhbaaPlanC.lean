/- Steps of a plan at a class of worlds. -/
import Derived.Test.YtjnngijilkdhbaaPlanB
namespace Go.Proofs.Ytjnngijilkdhbaa
set_option linter.unusedVariables false
set_option linter.unusedSimpArgs false
open Go.RowKit
theorem region_planC {P : Program} (C : World → Prop) {id : Nat} {Q : Exit → Act → World → Prop} {a : Act} {w : World} {l : List Oper} (p : Pl) (n : Nat) (hm : P.follows .mixedOrders = true) (hB : planB l.toArray p n = true)
    (hC : C w.drew) (h : ObPl P l.toArray C l (wpList P l.toArray Q (l.drop n)) p a w.drew) : (Code.region id l.toArray true).wp P Q a w := by
  simp only [planB, Bool.and_eq_true, decide_eq_true_eq] at hB
  obtain ⟨⟨⟨⟨⟨b1, b2⟩, b0⟩, b4⟩, b5⟩, b6⟩ := hB
  have z : n < l.length := b2
  have t2 : (l.drop n).length = l.toArray.size - n := List.length_drop
  have hs0 : ∀ j, (Array.replicate l.toArray.size false).getD j false = false := fun j => getD_replicate_false _ j
  have inv : HeadInv .any l.toArray n (Array.replicate l.toArray.size false) :=
    ⟨Array.size_replicate, (fun j oj _ x => by rw [hs0 j] at x; cases x), fun t _ ht => getD_in (by rwa [Array.size_replicate]) (hs0 t)⟩
  have H := headW_plan (P := P) (md := .any) (g := l.toArray.size - n) b1 b4 b5 b2 rfl p _ a w.drew hC inv b6 h
  have G := headW_any (Q := Q) (g := l.toArray.size - n) (fun s a' w' x => by
    have y := wpAny_of_seq (md := .any) (Q' := Q) (P := P) (l.drop n) n s a' w' (fun j => by rw [List.getElem?_drop]; simp) (by rw [t2]; exact x.1) x.2
    rwa [t2] at y) _ _ a _ H
  rw [b0, show n + (l.toArray.size - n) = l.toArray.size from by simp at *; omega] at G
  exact wp_region_any hm G
section
variable {P : Program} {ops : Array Oper} {l : List Oper} {K : Act → World → Prop} {a : Act} {w : World} {m : Nat} {k : Pl} {om : Oper} {C : World → Prop}
theorem planC_call (hl : l[m]? = some om) (hg : om.guard = none) (f : FuncId) (args : Array Value) (h : (execOp a.eval om).run P w = .ok (.enter f args) w)
    (hc : Calls P f args w fun e w'' => ∃ v, e = .returned v ∧ C w'' ∧ ObPl P ops C l K k (a.put om.dst v) w'') : ObPl P ops C l K (.make m k) a w := by
  refine ⟨om, hl, .inl ⟨wanted_none hg, ?_⟩⟩
  rw [h]
  exact hc
theorem planC_val (hl : l[m]? = some om) (hg : om.guard = none) (v : Value) {w'' : World} (h : (execOp a.eval om).run P w = .ok (.value v) w'') (hb : C w'')
    (hk : ObPl P ops C l K k (a.put om.dst v) w'') : ObPl P ops C l K (.make m k) a w := by
  refine ⟨om, hl, .inl ⟨wanted_none hg, ?_⟩⟩
  rw [h]
  exact ⟨hb, hk⟩
theorem quiet_doC {Q : Act → Prop} {o : Oper} {rest : List Oper} (hg : o.guard = none) (v : Value) (h : ∀ w, C w → (execOp a.eval o).run P w = .ok (.value v) w) (hk : wpQuiet P ops C Q rest (a.put o.dst v)) : wpQuiet P ops C Q (o :: rest) a := by
  have hw : Region.wanted o (yielded ops a.tmps) = true := by simp [Region.wanted, hg]
  unfold wpQuiet
  rw [if_pos hw]
  refine ⟨v, fun w hw => ?_, hk⟩
  unfold Oper.quietAt
  rw [h w hw]
  exact ⟨rfl, rfl⟩
end
end Go.Proofs.Ytjnngijilkdhbaa
