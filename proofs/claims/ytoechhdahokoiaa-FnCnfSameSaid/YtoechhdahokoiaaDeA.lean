/- Drawn clauses in memory: l10Cnf. -/
import Derived.Test.YtoechhdahokoiaaDcB
import Derived.Test.YtoechhdahokoiaaCcA
import Derived.Test.YtoechhdahokoiaaPlanC
namespace Go.Proofs.Ytoechhdahokoiaa
set_option linter.unusedVariables false
set_option linter.unusedSimpArgs false
open Go.RowKit
structure CRow where
  a : Option Addr
  c : Nat
  l : List Int
deriving Inhabited
def CRow.val (d : CRow) : Value := .slice d.a d.l.length d.c
def flatC (ds : List CRow) : List Value := ds.map CRow.val
/-- a clause in memory of its own from lo up -/
def CrN (lo : Nat) (w : World) (d : CRow) : Prop := d.l.length = 0 ∨ ∃ g off, d.a = some ⟨g, off, none⟩ ∧ lo ≤ g ∧ g < w.heap.size ∧ ∀ k, k < d.l.length → w.cell? ⟨g, off + k, none⟩ = some (.int .i64 (d.l.getD k 0))
def apC (v : Value) (A : Option Addr) : Prop := ∀ g off, A = some ⟨g, off, none⟩ → v.ownBlock ≠ some g
/-- a drawn list of clauses: its rows from lo, its clauses from lo2 up -/
def CL (lo lo2 : Nat) (w : World) (v : Value) (ds : List CRow) : Prop :=
  w.ownsRow lo 32 1 v ds.length (flatC ds) ∧ ∀ d ∈ ds, CrN lo2 w d ∧ (d.l.length ≠ 0 → apC v d.a) ∧ d.l.length ≤ 61
def llsC (ds : List CRow) : Lls := ⟨fun k => (ds.getD k default).l.length, fun k j => (ds.getD k default).l.getD j 0⟩
theorem CrN.grow {lo : Nat} {w w' : World} {d : CRow} {row : Option Nat} (h : CrN lo w d) (hg : w.grownBy w' row) (hr : ∀ r, row = some r → r < lo ∨ (d.l.length ≠ 0 → ∀ off, d.a ≠ some ⟨r, off, none⟩)) : CrN lo w' d := by
  rcases h with h | ⟨g, off, e, h1, h2, h3⟩
  · exact .inl h
  · by_cases h0 : d.l.length = 0
    · exact .inl h0
    · refine .inr ⟨g, off, e, h1, Nat.lt_of_lt_of_le h2 hg.size, fun k hk => hg.cell (h3 k hk) fun e2 => ?_⟩
      rcases hr g e2.symm with h4 | h4
      · omega
      · exact h4 h0 off e
theorem CrN.below {lo : Nat} {w w' : World} {d : CRow} (h : CrN lo w d) (hb : Below w.heap.size w w') : CrN lo w' d := by
  rcases h with h | ⟨g, off, e, h1, h2, h3⟩
  · exact .inl h
  · exact .inr ⟨g, off, e, h1, Nat.lt_of_lt_of_le h2 hb.size, fun k hk => carry hb (h3 k hk)⟩
theorem CrN.set {lo p o : Nat} {w : World} {d : CRow} {v : Value} (h : CrN lo w d) (hp : p < lo) : CrN lo (w.setCell ⟨p, o, none⟩ v) d := by
  rcases h with h | ⟨g, off, e, h1, h2, h3⟩
  · exact .inl h
  · exact .inr ⟨g, off, e, h1, by simpa using h2, fun k hk => by rw [World.cell?_setCell_other _ _ _ _ (by simp <;> omega)]; exact h3 k hk⟩
theorem CrN.ints {lo : Nat} {w : World} {d : CRow} (h : CrN lo w d) : Ints w d.a d.l.length (fun k => d.l.getD k 0) := by
  rcases h with h | ⟨g, off, e, _, h2, h3⟩
  · exact .inl h
  · exact .inr ⟨g, off, e, h2, h3⟩
theorem CL.go {lo lo2 g : Nat} {w w' : World} {v : Value} {ds : List CRow} (h : CL lo lo2 w v ds) (hg : w.grownBy w' (some g)) (h1 : g < lo) (h2 : g < lo2) : CL lo lo2 w' v ds :=
  ⟨h.1.kept hg (by
    cases hv : v.ownBlock with
    | none => exact .inl rfl
    | some x => have := (h.1.lt x hv).1; exact .inr (by simp; omega)), fun d hd => ⟨(h.2 d hd).1.grow hg (fun r e => by cases e; exact .inl h2), (h.2 d hd).2⟩⟩
theorem own_belowC {w w' : World} {base n size : Nat} {e : TypeId} {v : Value} {xs : List Value} (hb : Below w.heap.size w w') (h : w.ownsRow base e size v n xs) : w'.ownsRow base e size v n xs := by
  refine ⟨h.1, ?_⟩
  rcases h.2 with hn | ⟨g, cap, cur, rfl, hb2, hgg, rest⟩
  · exact .inl hn
  · exact .inr ⟨g, cap, cur, rfl, hb2, (hb.block g (Array.getElem?_eq_some_iff.1 hgg).1).trans hgg, rest⟩
theorem CL.below {lo lo2 : Nat} {w w' : World} {v : Value} {ds : List CRow} (h : CL lo lo2 w v ds) (hb : Below w.heap.size w w') : CL lo lo2 w' v ds :=
  ⟨own_belowC hb h.1, fun d hd => ⟨(h.2 d hd).1.below hb, (h.2 d hd).2⟩⟩
/-- a store into a block of another type -/
theorem CL.set {lo lo2 p o : Nat} {w : World} {v u : Value} {ds : List CRow} (h : CL lo lo2 w v ds) (hp : p < lo2) (hv : v.ownBlock ≠ some p) : CL lo lo2 (w.setCell ⟨p, o, none⟩ u) v ds :=
  ⟨h.1.kept (grow_set w p o u) (.inr hv), fun d hd => ⟨(h.2 d hd).1.set hp, (h.2 d hd).2⟩⟩
theorem CL.ne {lo lo2 p : Nat} {w : World} {v : Value} {ds : List CRow} {m : Nat} {t : TypeId} {f : Nat → Value} (h : CL lo lo2 w v ds) (hp : w.rowIs p t m f) (ht : t ≠ 32) : v.ownBlock ≠ some p := by
  intro hg
  obtain ⟨cs, hcs, _⟩ := hp
  rcases h.1.2 with ⟨rfl, _⟩ | ⟨g, cap, cur, rfl, _, hh, _⟩
  · simp [Value.ownBlock] at hg
  · simp only [Value.ownBlock, Option.some.injEq] at hg
    subst hg
    rw [hh] at hcs
    injection hcs with hcs
    injection hcs with _ h _
    exact ht h.symm
theorem CL.sl {lo lo2 : Nat} {w : World} {v : Value} {ds : List CRow} (h : CL lo lo2 w v ds) : ∃ a c, v = .slice a ds.length c ∧ ds.length ≤ c ∧ c ≤ 9223372036854775807 := by
  obtain ⟨_, ⟨rfl, h0⟩ | ⟨g, cap, cur, rfl, _, _, h1, h2, _⟩⟩ := h.1
  · exact ⟨none, 0, by rw [h0], by omega, by omega⟩
  · exact ⟨_, cap, rfl, h1, by unfold maxLen at h2; omega⟩
theorem flatC_at {ds : List CRow} {k : Nat} (h : k < ds.length) : (flatC ds)[k]? = some (ds.getD k default).val := by
  unfold flatC; rw [List.getElem?_map, List.getElem?_eq_getElem h, List.getD_eq_getElem?_getD, List.getElem?_eq_getElem h]; rfl
theorem CL.intss {lo lo2 c : Nat} {w : World} {a : Option Addr} {ds : List CRow} (h : CL lo lo2 w (.slice a ds.length c) ds) : IntSS w a ds.length (llsC ds) := by
  obtain ⟨ho, hd⟩ := h
  have hc := fun g hg => ho.cells (g := g) hg
  obtain ⟨_, ⟨e, h0⟩ | ⟨g, cap, cur, e, _, hh, _⟩⟩ := ho
  · exact .inl h0
  · injection e with e _ _
    subst e
    refine .inr ⟨g, 0, rfl, (Array.getElem?_eq_some_iff.1 hh).1, fun k hk => ?_⟩
    have hm : ds.getD k default ∈ ds := by rw [List.getD_eq_getElem?_getD, List.getElem?_eq_getElem hk]; exact List.getElem_mem hk
    obtain ⟨h1, _, h3⟩ := hd _ hm
    have := hc g rfl k _ (flatC_at hk)
    rw [show (⟨g, 0, none⟩ : Addr).add k = ⟨g, 0 + k, none⟩ by unfold Addr.add; split <;> simp_all] at this
    exact ⟨(ds.getD k default).a, (ds.getD k default).c, this, by show (ds.getD k default).l.length ≤ _; omega, h1.ints⟩
theorem CL.nil (w : World) (lo2 : Nat) : CL w.heap.size lo2 (w.alloc (.cells #[] 32)) (.slice (some ⟨w.heap.size, 0, none⟩) 0 0) [] :=
  ⟨own_emptyD w 32 1, fun d hd => absurd hd (by simp)⟩
/-- some clauses more -/
theorem CL.push {lo lo2 : Nat} {w w' : World} {v v' : Value} {ds es : List CRow} {wB : World} (h : CL lo lo2 wB v ds) (hBw : wB.grownBy w none) (hd : ∀ d ∈ es, CrN wB.heap.size w d ∧ d.l.length ≤ 61) (h2 : lo2 ≤ wB.heap.size)
    (hown : w'.ownsRow lo 32 1 v' (ds.length + es.length) (flatC ds ++ flatC es)) (hg : w.grownBy w' v.ownBlock) (hat : v'.ownBlock = v.ownBlock ∨ v'.ownBlock = some w.heap.size) : CL lo lo2 w' v' (ds ++ es) := by
  have hz := hBw.size
  have hvb : ∀ r, v.ownBlock = some r → r < wB.heap.size := fun r hr => (h.1.lt r hr).2
  refine ⟨?_, fun x hx => ?_⟩
  · have e : flatC (ds ++ es) = flatC ds ++ flatC es := by unfold flatC; rw [List.map_append]
    rw [e, List.length_append]
    exact hown
  · rcases List.mem_append.1 hx with hx | hx
    · obtain ⟨h3, h4, h5⟩ := h.2 x hx
      have h3' : CrN lo2 w x := h3.grow hBw (fun r e => by cases e)
      refine ⟨h3'.grow hg (fun r hr => .inr fun h0 off e => h4 h0 r off e hr), fun h0 g off e hv => ?_, h5⟩
      rcases hat with hat | hat
      · exact h4 h0 g off e (hat ▸ hv)
      · rw [hat] at hv
        injection hv with hv
        subst hv
        rcases h3 with h3 | ⟨g2, off2, e2, _, hg2, _⟩
        · exact h0 h3
        · rw [e] at e2
          injection e2 with e2
          injection e2 with e2 _ _
          omega
    · obtain ⟨hd, hl⟩ := hd x hx
      have hk : CrN wB.heap.size w' x := hd.grow hg (fun r hr => .inl (hvb r hr))
      refine ⟨?_, fun h0 g off e hv => ?_, hl⟩
      · rcases hk with hk | ⟨g, off, e, h3, h4, h5⟩
        · exact .inl hk
        · exact .inr ⟨g, off, e, by omega, h4, h5⟩
      · rcases hat with hat | hat
        · rcases hd with hd | ⟨g2, off2, e2, h6, _, _⟩
          · exact h0 hd
          · rw [e] at e2
            injection e2 with e2
            injection e2 with e2 _ _
            have := hvb g (hat ▸ hv)
            omega
        · rw [hat] at hv
          injection hv with hv
          subst hv
          rcases hd with hd | ⟨g2, off2, e2, _, h6, _⟩
          · exact h0 hd
          · rw [e] at e2
            injection e2 with e2
            injection e2 with e2 _ _
            omega
theorem row_growC {w w' : World} {b m r : Nat} {t : TypeId} {f : Nat → Value} (h : w.rowIs b t m f) (hg : w.grownBy w' (some r)) (hr : b ≠ r) : w'.rowIs b t m f := h.of_block (hg.block b h.lt (fun e => hr (Option.some.inj e)))
theorem row2_newC (w : World) (a b : Value) (t : TypeId) : (w.alloc (.cells #[a, b] t)).rowIs w.heap.size t 2 (fun j => if j = 0 then a else b) :=
  ⟨#[a, b], Deep.blk_alloc_new _ _, rfl, fun i hi => by
    match i, hi with
    | 0, _ => rfl
    | 1, _ => rfl⟩
theorem own_sliceD {w : World} {base n size : Nat} {e : TypeId} {v : Value} {xs : List Value} (h : w.ownsRow base e size v n xs) : ∃ a c, v = .slice a n c := by
  obtain ⟨_, ⟨rfl, h0⟩ | ⟨g, cap, cur, rfl, _, _, h1, h2, _⟩⟩ := h
  · exact ⟨none, 0, by rw [h0]⟩
  · exact ⟨_, cap, rfl⟩
theorem run_loadI {P : Program} {o : Oper} {ty : TypeId} {x : Operand} (ho : o.op = .load ty x) {a : Act} {b k : Nat} (hx : a.eval x = .pointer (some ⟨b, k, none⟩)) {d : TypeDesc} (hu : P.underlying ty = some d) (hd : d.isRow = false) {v : Value} {w : World} (hc : w.cell? ⟨b, k, none⟩ = some v) : (execOp a.eval o).run P w = .ok (.value v) w := by
  have hagg : (isAgg ty).run P w = .ok false w := by
    unfold isAgg
    rw [Sem.run_bind, run_underlying hu w]
    cases d <;> first | rfl | cases hd
  have hl : (loadVar ty ⟨b, k, none⟩).run P w = .ok v w := by simp [loadVar, Sem.run_bind, hagg, go_sem, hc]
  unfold execOp
  simp only [ho, hx, Instr.loadAt, Instr.sureAddr, Sem.run_bind, Sem.run_pure, Result.andThen_ok, hl]
end Go.Proofs.Ytoechhdahokoiaa
