/- The state of a table of terms. -/
import Derived.Test.YtanfljajafelgaaTpA
import Derived.Test.YtanfljajafelgaaPlanC
import Derived.Deep.MidRow
namespace Go.Proofs.Ytanfljajafelgaa
set_option linter.unusedVariables false
set_option linter.unusedSimpArgs false
open Go.RowKit
/-- the table in block b holds the terms P, by the shapes S in the row v and the map M -/
structure Tab (w : World) (b M lo : Nat) (P : List Tm) (S : List Sh) (v : Value) : Prop where
  blk : w.heap[b]? = some (.cells #[v, .map (some M)] 193 (0, 0))
  own : w.ownsRow lo 280 4 v S.length (flatS S)
  mp : ∃ F, OwnM w ShK M F ∧ (∀ i, i < S.length → F (S.getD i default).key = some (.int .i64 i)) ∧ ∀ k x, F k = some x → ∃ i, i < S.length ∧ k = (S.getD i default).key
  ok : ShOk S P
/-- what a call may turn: the table, its map, its row -/
structure Fr (b M : Nat) (v : Value) (w : World) (v' : Value) (w' : World) : Prop where
  os : w'.os = w.os
  tape : w'.tape = w.tape
  output : w'.output = w.output
  size : w.heap.size ≤ w'.heap.size
  block : ∀ k, k < w.heap.size → k ≠ b → k ≠ M → v.ownBlock ≠ some k → w'.heap[k]? = w.heap[k]?
  own : ∀ g, v'.ownBlock = some g → v.ownBlock = some g ∨ w.heap.size ≤ g
theorem Fr.refl (b M : Nat) (v : Value) (w : World) : Fr b M v w v w := ⟨rfl, rfl, rfl, Nat.le_refl _, fun _ _ _ _ _ => rfl, fun _ h => .inl h⟩
theorem Fr.trans {b M : Nat} {v v1 v2 : Value} {w w1 w2 : World} (h : Fr b M v w v1 w1) (k : Fr b M v1 w1 v2 w2) : Fr b M v w v2 w2 := by
  refine ⟨k.os.trans h.os, k.tape.trans h.tape, k.output.trans h.output, Nat.le_trans h.size k.size, fun i hi h1 h2 h3 => ?_, fun g hg => ?_⟩
  · refine (k.block i (Nat.lt_of_lt_of_le hi h.size) h1 h2 (fun e => ?_)).trans (h.block i hi h1 h2 h3)
    rcases h.own i e with h | h
    · exact h3 h
    · omega
  · rcases k.own g hg with hg | hg
    · exact h.own g hg
    · exact .inr (Nat.le_trans h.size hg)
theorem Fr.below {b M : Nat} {v v1 : Value} {w w1 w2 : World} (h : Fr b M v w v1 w1) (hb : Below w1.heap.size w1 w2) : Fr b M v w v1 w2 :=
  h.trans ⟨hb.os, hb.tape, hb.output, hb.size, fun k hk _ _ _ => hb.block k hk, fun _ h => .inl h⟩
theorem Fr.setN {b M x o : Nat} {v v1 : Value} {w w1 : World} (h : Fr b M v w v1 w1) (hx : w.heap.size ≤ x) (u : Value) : Fr b M v w v1 (w1.setCell ⟨x, o, none⟩ u) :=
  ⟨h.os, h.tape, h.output, by simpa [World.setCell] using h.size, fun k hk h1 h2 h3 => (Deep.blk_setCell_other _ _ _ _ (by simp only; omega)).trans (h.block k hk h1 h2 h3), h.own⟩
theorem Fr.cell {b M x o : Nat} {v v' : Value} {w w' : World} {u : Value} (h : Fr b M v w v' w') (hb : x ≠ b) (hM : x ≠ M) (hv : v.ownBlock ≠ some x) (hc : w.cell? ⟨x, o, none⟩ = some u) : w'.cell? ⟨x, o, none⟩ = some u :=
  (World.cell?_of_block (w := w) (a := ⟨x, o, none⟩) (h.block x (cell_lt hc) hb hM hv)).trans hc
theorem Fr.frz {b M x o : Nat} {v v' : Value} {w w' : World} {u : Bool} (h : Fr b M v w v' w') (hx : x < w.heap.size) (hb : x ≠ b) (hM : x ≠ M) (hv : v.ownBlock ≠ some x) (hc : w.frozen? ⟨x, o, none⟩ = u) : w'.frozen? ⟨x, o, none⟩ = u :=
  (World.frozen?_of_block (w := w) (a := ⟨x, o, none⟩) (h.block x hx hb hM hv)).trans hc
theorem Tab.bM {w : World} {b M lo : Nat} {P : List Tm} {S : List Sh} {v : Value} (h : Tab w b M lo P S v) : b ≠ M := by
  obtain ⟨F, ⟨es, cl, hb, _⟩, _⟩ := h.mp
  intro e
  have := h.blk
  rw [e, hb] at this
  cases this
theorem Tab.lt {w : World} {b M lo : Nat} {P : List Tm} {S : List Sh} {v : Value} (h : Tab w b M lo P S v) : b < w.heap.size ∧ M < w.heap.size := by
  obtain ⟨F, hm, _⟩ := h.mp
  exact ⟨(Array.getElem?_eq_some_iff.1 h.blk).1, hm.lt⟩
theorem Tab.below {w w' : World} {b M lo : Nat} {P : List Tm} {S : List Sh} {v : Value} (h : Tab w b M lo P S v) (hb : Below w.heap.size w w') : Tab w' b M lo P S v := by
  obtain ⟨F, hm, hr⟩ := h.mp
  exact ⟨(hb.block b h.lt.1).trans h.blk, own_belowT hb h.own, ⟨F, hm.of_block (hb.block M hm.lt), hr⟩, h.ok⟩
theorem own_setT2 {w : World} {base n size x o : Nat} {e : TypeId} {v u : Value} {xs : List Value} (hne : v.ownBlock ≠ some x) (h : w.ownsRow base e size v n xs) : (w.setCell ⟨x, o, none⟩ u).ownsRow base e size v n xs := by
  obtain ⟨h1, h | ⟨g, cap, cur, rfl, h2, hh, h3⟩⟩ := h
  · exact ⟨h1, .inl h⟩
  · refine ⟨h1, .inr ⟨g, cap, cur, rfl, h2, (Deep.blk_setCell_other _ _ _ _ ?_).trans hh, h3⟩⟩
    intro e
    exact hne (by simp [Value.ownBlock, e])
theorem Tab.setN {w : World} {b M lo x o : Nat} {P : List Tm} {S : List Sh} {v u : Value} (h : Tab w b M lo P S v) (hb : x ≠ b) (hM : x ≠ M) (hv : v.ownBlock ≠ some x) : Tab (w.setCell ⟨x, o, none⟩ u) b M lo P S v := by
  obtain ⟨F, hm, hr⟩ := h.mp
  exact ⟨(Deep.blk_setCell_other _ _ _ _ (by simp only; omega)).trans h.blk, own_setT2 hv h.own, ⟨F, hm.of_block (Deep.blk_setCell_other _ _ _ _ (by simp only; omega)), hr⟩, h.ok⟩
theorem Tab.rowTy {w : World} {b M lo : Nat} {P : List Tm} {S : List Sh} {v : Value} (h : Tab w b M lo P S v) {g : Nat} (hg : v.ownBlock = some g) : ∃ cs, w.heap[g]? = some (.cells cs 280 (0, 0)) := by
  obtain ⟨_, ⟨rfl, _⟩ | ⟨g', cap, cur, rfl, _, hh, _⟩⟩ := h.own
  · simp [Value.ownBlock] at hg
  · simp only [Value.ownBlock, Option.some.injEq] at hg
    subst hg
    exact ⟨_, hh⟩
theorem Tab.rowB {w : World} {b M lo : Nat} {P : List Tm} {S : List Sh} {v : Value} (h : Tab w b M lo P S v) : v.ownBlock ≠ some b ∧ v.ownBlock ≠ some M := by
  constructor
  · intro e
    obtain ⟨cs, hc⟩ := h.rowTy e
    rw [h.blk] at hc
    injection hc with hc
    injection hc with _ h2 _
    revert h2; decide
  · intro e
    obtain ⟨cs, hc⟩ := h.rowTy e
    obtain ⟨F, ⟨es, cl, hb, _⟩, _⟩ := h.mp
    rw [hb] at hc
    cases hc
/-- blocks of terms stay -/
theorem Fr.kpt {w w' : World} {b M lo : Nat} {P : List Tm} {S : List Sh} {v v' : Value} (h : Tab w b M lo P S v) (hf : Fr b M v w v' w') : KpT w w' := by
  intro g cs hg
  refine (hf.block g (Array.getElem?_eq_some_iff.1 hg).1 (fun e => ?_) (fun e => ?_) (fun e => ?_)).trans hg
  · rw [e, h.blk] at hg
    injection hg with hg
    injection hg with _ h2 _
    revert h2; decide
  · obtain ⟨F, ⟨es, cl, hb, _⟩, _⟩ := h.mp
    rw [e, hb] at hg
    cases hg
  · obtain ⟨c2, hc⟩ := h.rowTy e
    rw [hc] at hg
    injection hg with hg
    injection hg with _ h2 _
    revert h2; decide
/-- an append to a row of one's own: the row that comes back is the old one or new -/
theorem run_append_fresh {P : Program} (w : World) (base : Nat) (t ty e : TypeId) (i : TypeInfo) (z : Value) (size bytes : Nat) (ht : P.underlying t = some (.slice e)) (hi : P.info? e = some i) (hz : i.zero = some z)
    (hsize : i.size = size) (hby : i.bytes = bytes) (hzs : z.cells.size = size) (hsz : 0 < size)
    (v : Value) (n : Nat) (xs : List Value) (hown : w.ownsRow base e size v n xs)
    (a : Addr) (m c : Nat) (news : List Value) (hl : news.length = m * size) (hnews : ∀ j u, news[j]? = some u → w.cell? (a.add j) = some u) (h1 : ∀ u ∈ news, u.oneCell' = true)
    (h63 : n + m ≤ maxLen) (hbytes : (n + m) * bytes ≤ 140737488355328) (hbase : base ≤ w.heap.size) :
    ∃ v' w', (Builtin.append_ #[t, t] ty #[v, .slice (some a) m c]).run P w = .ok v' w' ∧ w'.ownsRow base e size v' (n + m) (xs ++ news) ∧ w.grownBy w' v.ownBlock ∧ ∀ g, v'.ownBlock = some g → v.ownBlock = some g ∨ w.heap.size ≤ g := by
  obtain ⟨v', w', hr, h2, h3, h4⟩ := run_append_own (P := P) w base t ty e i z size bytes ht hi hz hsize hby hzs hsz v n xs hown a m c news hl hnews h1 h63 hbytes hbase
  refine ⟨v', w', hr, h2, h3, ?_⟩
  have hmx : maxLen ≤ 9223372036854775807 := by unfold maxLen; omega
  have hown' := hown
  obtain ⟨hlx, ⟨rfl, rfl⟩ | ⟨g0, cap, cur, rfl, hbg, hg, hnc, hcm, hcs, htake⟩⟩ := hown'
  · have hx : xs = [] := List.eq_nil_of_length_eq_zero (by simpa using hlx)
    subst hx
    obtain ⟨v2, w2, hr2, k2, _, _⟩ := run_append_own (P := P) w w.heap.size t ty e i z size bytes ht hi hz hsize hby hzs hsz _ _ _ (World.ownsRow_nil w w.heap.size e size) a m c news hl hnews h1 h63 hbytes (Nat.le_refl _)
    rw [hr] at hr2
    injection hr2 with e1 _
    subst e1
    exact fun g hg => .inr (k2.lt g hg).1
  · subst hsize
    by_cases hroom : n + m ≤ cap
    · have hfit : n * i.size + news.length ≤ cur.size := by rw [hl, hcs, ← Nat.add_mul]; exact Nat.mul_le_mul_right _ hroom
      have hr2 := run_append_room (P := P) w t ty e i ht hi g0 n cap cur hg a m c news hl hnews h1 hroom hfit
      rw [hr] at hr2
      injection hr2 with e1 _
      subst e1
      exact fun g hg => .inl hg
    · have holds : ∀ j u, xs[j]? = some u → w.cell? ((⟨g0, 0, none⟩ : Addr).add j) = some u := hown.cells (g := g0) rfl
      subst hby
      have hr2 := run_append_grow (P := P) w t ty e i z ht hi hz ⟨g0, 0, none⟩ n cap xs hown.1 holds a m c news hl hnews (by omega) (by omega) (growslice_fits (by omega) hbytes)
      rw [hr] at hr2
      injection hr2 with e1 _
      subst e1
      intro g hg
      simp only [Value.ownBlock, Option.some.injEq] at hg
      exact .inr (by omega)
theorem run_load4 {P : Program} {o : Oper} {ty : TypeId} {x : Operand} (ho : o.op = .load ty x) {a : Act} {b : Nat} (hx : a.eval x = .pointer (some ⟨b, 0, none⟩)) {d : TypeDesc} (hu : P.underlying ty = some d) (hd : d.isRow = true) (hi : (P.info? ty).map (·.size) = some 4) {x0 x1 x2 x3 : Value} {w : World}
    (h0 : w.cell? ⟨b, 0, none⟩ = some x0) (h1 : w.cell? ⟨b, 1, none⟩ = some x1) (h2 : w.cell? ⟨b, 2, none⟩ = some x2) (h3 : w.cell? ⟨b, 3, none⟩ = some x3) : (execOp a.eval o).run P w = .ok (.value (.agg #[x0, x1, x2, x3])) w := by
  have hc : w.rangeAt b 0 [x0, x1, x2, x3] := fun j v hv => by
    match j, hv with
    | 0, hv => simp at hv; subst hv; simpa using h0
    | 1, hv => simp at hv; subst hv; simpa using h1
    | 2, hv => simp at hv; subst hv; simpa using h2
    | 3, hv => simp at hv; subst hv; simpa using h3
    | j + 4, hv => simp at hv
  have hl := run_loadVar_mid (P := P) w b 0 ty [x0, x1, x2, x3] d hc hu hd hi
  unfold execOp
  simp only [ho, hx, Instr.loadAt, Instr.sureAddr, Sem.run_bind, Sem.run_pure, Result.andThen_ok, hl]
section
variable {P : Program} {ops : Array Oper} {l : List Oper} {K : Act → World → Prop} {a : Act} {w : World} {m : Nat} {k : Pl} {om : Oper} {C : World → Prop}
theorem planC_append (hl : l[m]? = some om) (hg : om.guard = none) (s x : Operand) (t : TypeId) (ho : om.op = .call { callee := .builtin .append, args := #[s, x], argTypes := #[t, t] })
    (base : Nat) (e : TypeId) (i : TypeInfo) (z : Value) (size bytes : Nat) (ht : P.underlying t = some (.slice e)) (hi : P.info? e = some i) (hz : i.zero = some z)
    (hsize : i.size = size) (hby : i.bytes = bytes) (hzs : z.cells.size = size) (hsz : 0 < size)
    (v : Value) (n : Nat) (xs : List Value) (hs : a.eval s = v) (hown : w.ownsRow base e size v n xs)
    (ad : Addr) (mm c : Nat) (news : List Value) (hx : a.eval x = .slice (some ad) mm c) (hll : news.length = mm * size) (hnews : ∀ j u, news[j]? = some u → w.cell? (ad.add j) = some u) (h1 : ∀ u ∈ news, u.oneCell' = true)
    (h63 : n + mm ≤ maxLen) (hbytes : (n + mm) * bytes ≤ 140737488355328) (hbase : base ≤ w.heap.size)
    (hk : ∀ v' w', w'.ownsRow base e size v' (n + mm) (xs ++ news) → w.grownBy w' v.ownBlock → (∀ g, v'.ownBlock = some g → v.ownBlock = some g ∨ w.heap.size ≤ g) → C w' ∧ ObPl P ops C l K k (a.put om.dst v') w') : ObPl P ops C l K (.make m k) a w := by
  obtain ⟨v', w', hr, h2, h3, h4⟩ := run_append_fresh (P := P) w base t om.type e i z size bytes ht hi hz hsize hby hzs hsz v n xs hown ad mm c news hll hnews h1 h63 hbytes hbase
  refine ⟨om, hl, .inl ⟨wanted_none hg, ?_⟩⟩
  have e1 : (execOp a.eval om).run P w = .ok (.value v') w' := by
    unfold execOp
    simp only [ho, resolve, invoke, builtin, Sem.run_bind, Sem.run_pure, Result.andThen_ok, List.map_toArray, List.map_cons, List.map_nil, hs, hx, hr]
  rw [e1]
  exact hk v' w' h2 h3 h4
end
end Go.Proofs.Ytanfljajafelgaa
