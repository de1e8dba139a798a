/- LogOk of the model. -/
import Derived.Test.YtjnngijilkdhbaaLfB
import Derived.Test.YtjnngijilkdhbaaB7
import Derived.RegionTactic
import Derived.ChangeAlike
import Derived.BigRegion
namespace Go.Proofs.Ytjnngijilkdhbaa
set_option linter.unusedVariables false
set_option linter.unusedSimpArgs false
open Go.RowKit
theorem run_loadF {P : Program} {o : Oper} {ty : TypeId} {x : Operand} (ho : o.op = .load ty x) {a : Act} {b k : Nat} (hx : a.eval x = .pointer (some ⟨b, k, none⟩)) {d : TypeDesc} (hu : P.underlying ty = some d) (hd : d.isRow = false) {v : Value} {w : World} (hc : w.cell? ⟨b, k, none⟩ = some v) : (execOp a.eval o).run P w = .ok (.value v) w := by
  have hagg : (isAgg ty).run P w = .ok false w := by
    unfold isAgg
    rw [Sem.run_bind, run_underlying hu w]
    cases d <;> first | rfl | cases hd
  have hl : (loadVar ty ⟨b, k, none⟩).run P w = .ok v w := by simp [loadVar, Sem.run_bind, hagg, go_sem, hc]
  unfold execOp
  simp only [ho, hx, Instr.loadAt, Instr.sureAddr, Sem.run_bind, Sem.run_pure, Result.andThen_ok, hl]
def flatS (n : Nat) (L : Lls) (LA : Nat → Option Addr) (LC : Nat → Nat) : List Value := (List.range n).map fun k => Value.slice (LA k) (L.N k) (LC k)
theorem flatS_at {n k : Nat} {L : Lls} {LA : Nat → Option Addr} {LC : Nat → Nat} (h : k < n) : (flatS n L LA LC)[k]? = some (.slice (LA k) (L.N k) (LC k)) := by
  unfold flatS; rw [List.getElem?_map, List.getElem?_range h]; rfl
theorem flatS_len (n : Nat) (L : Lls) (LA : Nat → Option Addr) (LC : Nat → Nat) : (flatS n L LA LC).length = n := by unfold flatS; rw [List.length_map, List.length_range]
/-- a list copied behind an empty row -/
theorem run_copySS {w0 w : World} {g2 c n : Nat} {A : Option Addr} {L : Lls} (ty : TypeId) (hI : IntSS w0 A n L) (hb0 : Below w0.heap.size w0 w) (hn : n ≤ 1000) (hE : w.ownsRow g2 38 1 (.slice (some ⟨g2, 0, none⟩) 0 0) 0 []) (hb : g2 ≤ w.heap.size) :
    ∃ v' w' LA LC, (Builtin.append_ #[22, 22] ty #[.slice (some ⟨g2, 0, none⟩) 0 0, .slice A n c]).run Try.prog w = .ok v' w' ∧ w'.ownsRow g2 38 1 v' n (flatS n L LA LC) ∧ Below w.heap.size w w' ∧ (∀ k, k < n → L.N k ≤ 9223372036854775807 ∧ Ints w0 (LA k) (L.N k) (L.Z k)) := by
  obtain ⟨i0, hi, hz0, hz1, hz2⟩ := info_parts infoIS
  by_cases h0 : n = 0
  · subst h0
    have hr2 : (Builtin.append_ #[22, 22] ty #[.slice (some ⟨g2, 0, none⟩) 0 0, .slice A 0 c]).run Try.prog w = .ok (.slice (some ⟨g2, 0, none⟩) 0 0) w := by
      cases A with
      | none => simp [Builtin.append_, run_underlying Try.underlying22, sizeOf, typeInfo, hi, Builtin.lenOf, Builtin.firstCells, storeCells]
      | some a =>
        have hf := run_firstCells_some (P := Try.prog) w i0.size 0 a 0 c [] (by simp) (fun j v h => by simp at h)
        simp [Builtin.append_, run_underlying Try.underlying22, sizeOf, typeInfo, hi, Builtin.lenOf, hf, storeCells]
    exact ⟨_, w, fun _ => none, fun _ => 0, hr2, hE, Below.refl _ _, fun k hk => by omega⟩
  · rcases hI with h | ⟨ga, off, rfl, hg, hc⟩
    · exact absurd h h0
    obtain ⟨q, hq⟩ := Go.Deep.choose_lt (p := fun k (q : Option Addr × Nat) => w0.cell? ⟨ga, off + k, none⟩ = some (.slice q.1 (L.N k) q.2) ∧ L.N k ≤ 9223372036854775807 ∧ Ints w0 q.1 (L.N k) (L.Z k)) (fun k hk => by
      obtain ⟨a, cc, h⟩ := hc k hk
      exact ⟨(a, cc), h⟩)
    have hnews : ∀ j u, (flatS n L (fun k => (q k).1) (fun k => (q k).2))[j]? = some u → w.cell? ((⟨ga, off, none⟩ : Addr).add j) = some u := fun j u hj => by
      have hjl : j < n := by have := (List.getElem?_eq_some_iff.1 hj).1; rw [flatS_len] at this; exact this
      rw [flatS_at hjl] at hj
      rw [← Option.some.inj hj, show (⟨ga, off, none⟩ : Addr).add j = ⟨ga, off + j, none⟩ by unfold Addr.add; split <;> simp_all]
      exact carry hb0 (hq j hjl).1
    obtain ⟨v', w', hr, h2, h3, h4⟩ := run_append_freshU (P := Try.prog) w g2 22 ty 38 i0 (.slice none 0 0) 1 24 Try.underlying22 hi hz0 hz1 hz2 rfl (by decide) (.slice (some ⟨g2, 0, none⟩) 0 0) 0 [] hE ⟨ga, off, none⟩ n c (flatS n L (fun k => (q k).1) (fun k => (q k).2)) (by rw [flatS_len]; omega) hnews (fun u hu => by unfold flatS at hu; obtain ⟨z, _, rfl⟩ := List.mem_map.1 hu; rfl) (by unfold maxLen; omega) (by omega) hb
    rw [Nat.zero_add, List.nil_append] at h2
    have hr2 := run_append_grow (P := Try.prog) w 22 ty 38 i0 (.slice none 0 0) Try.underlying22 hi hz0 ⟨g2, 0, none⟩ 0 0 [] (by simp) (fun j v h => by simp at h) ⟨ga, off, none⟩ n c (flatS n L (fun k => (q k).1) (fun k => (q k).2)) (by rw [flatS_len]; simp [hz1]) hnews (by omega) (by omega) (by rw [Nat.zero_add, nextslicecap_zero (by omega), hz2]; omega)
    refine ⟨v', w', _, _, hr, h2, ?_, fun k hk => (hq k hk).2⟩
    rw [hr] at hr2
    injection hr2 with _ e
    rw [e]
    exact bal (Below.refl w.heap.size w).drew _
theorem own_base {w : World} {b b' e size n : Nat} {v : Value} {xs : List Value} (h : w.ownsRow b' e size v n xs) (hb : b ≤ b') : w.ownsRow b e size v n xs := by
  refine ⟨h.1, ?_⟩
  rcases h.2 with h | ⟨g, cap, cur, h1, h2, h3⟩
  · exact .inl h
  · exact .inr ⟨g, cap, cur, h1, by omega, h3⟩
theorem row2_newF (w : World) (a b : Value) (t : TypeId) : (w.alloc (.cells #[a, b] t)).rowIs w.heap.size t 2 (fun j => if j = 0 then a else b) :=
  ⟨#[a, b], Deep.blk_alloc_new _ _, rfl, fun i hi => by
    match i, hi with
    | 0, _ => rfl
    | 1, _ => rfl⟩
def PoL (b2 : Nat) (w1 : World) (m : Int) (A : Option Addr) (n c : Nat) (L : Lls) (j : Nat) (v : Value) (W : World) : Prop :=
  match j with
  | 0 => v = .pointer (some ⟨b2, 0, none⟩)
  | 1 => v = .int .i64 m
  | 2 => ∃ ge, v = .slice (some ⟨ge, 0, none⟩) 0 0 ∧ w1.heap.size ≤ ge ∧ W.ownsRow ge 38 1 (.slice (some ⟨ge, 0, none⟩) 0 0) 0 []
  | 3 => v = .pointer (some ⟨b2, 1, none⟩)
  | 4 => v = .slice A n c
  | 5 => RS w1 W w1.heap.size v n L
  | 6 => ∃ v5, v = .agg #[.int .i64 m, v5] ∧ RS w1 W w1.heap.size v5 n L
  | 7 => ∃ b6, v = .pointer (some ⟨b6, 0, none⟩) ∧ w1.heap.size ≤ b6 ∧ W.rowIs b6 31 2 (fun j => if j = 0 then .int .i64 0 else .slice none 0 0)
  | _ => True
theorem PoL_mono (b2 : Nat) (w1 : World) (m : Int) (A : Option Addr) (n c : Nat) (L : Lls) : ∀ j u w w', Below w.heap.size w w' → PoL b2 w1 m A n c L j u w → PoL b2 w1 m A n c L j u w' := fun j u w w' hb h => by
  match j, h with
  | 0, h => exact h
  | 1, h => exact h
  | 2, ⟨ge, e, h1, h2⟩ => exact ⟨ge, e, h1, own_belowU hb h2⟩
  | 3, h => exact h
  | 4, h => exact h
  | 5, h => exact RS.below h hb
  | 6, ⟨v5, e, h1⟩ => exact ⟨v5, e, h1.below hb⟩
  | 7, ⟨b6, e, h1, h2⟩ => exact ⟨b6, e, h1, h2.of_block (hb.block _ h2.lt)⟩
  | j + 8, _ => trivial
def LoC (b6 g o : Nat) (v u : Value) (W : World) : Prop := W.cell? ⟨b6, 1, none⟩ = some v ∧ W.cell? ⟨g, o, none⟩ = some u
/-- the model's list so far -/
def SlS (w1 : World) (b5 : Nat) (m : Int) (v : Value) (n : Nat) (L : Lls) (W : World) : Prop :=
  RS w1 W w1.heap.size v n L ∧ W.rowIs b5 31 2 (fun j => if j = 0 then .int .i64 m else v) ∧ w1.heap.size ≤ b5 ∧ Below w1.heap.size w1 W
theorem SlS.below {w1 W W' : World} {b5 n : Nat} {m : Int} {v : Value} {L : Lls} (h : SlS w1 b5 m v n L W) (hb : Below W.heap.size W W') : SlS w1 b5 m v n L W' :=
  ⟨h.1.below hb, h.2.1.of_block (hb.block _ h.2.1.lt), h.2.2.1, btr h.2.2.2 hb⟩
theorem RS.set {w0 W : World} {base n p o : Nat} {v u : Value} {L : Lls} (h : RS w0 W base v n L) (hp : v.ownBlock ≠ some p) : RS w0 (W.setCell ⟨p, o, none⟩ u) base v n L := by
  obtain ⟨xs, h1, h2⟩ := h
  exact ⟨xs, h1.kept (grow_set W p o u) (.inr hp), h2⟩
theorem RS.other {w0 W : World} {base n b5 : Nat} {v : Value} {L : Lls} {f : Nat → Value} (h : RS w0 W base v n L) (hr : W.rowIs b5 31 2 f) : v.ownBlock ≠ some b5 := fun e => by
  obtain ⟨xs, h1, _⟩ := h
  exact absurd (own_ty h1 hr e) (by decide)
set_option maxHeartbeats 16000000 in
set_option maxRecDepth 100000 in
theorem slogok_any (A : Option Addr) (n c : Nat) (L : Lls) (m : Int) (G : Option Addr) (N cG : Nat) (M : Lls) (w : World) (hn : n ≤ 9223372036854775807) (hN : N ≤ 9223372036854775807) (hA : IntSS w A n L) (hG : IntSS w G N M) :
    Calls Try.prog 14 #[.agg #[.int .i64 m, .slice A n c], .slice G N cG] w fun e w' => e = .returned (.bool (lokB n L m N M)) ∧ Below w.heap.size w w' := by
  have q0 := bal (Below.refl w.heap.size w) (.cells #[.int .i64 m, .slice A n c] 31)
  obtain ⟨c0, c1⟩ := pair_new w (.int .i64 m) (.slice A n c) 31
  have hK := fun W (h : Below w.heap.size w W) => scnfok_any A n c L m W hn (hA.below h)
  have hcn : cnB n L m = true → n ≤ 400 := fun h => (cnB_iff.1 h).2.2.1
  generalize hres : lokB n L m N M = res
  have HR := hid hres; clear hres
  go_enter Try.func14, Try.ntmps14
  go_upto_region 1 with fail
  generalize w.alloc (.cells #[.int .i64 m, .slice A n c] 31) = w1 at *
  have y0 := cell_lt c0
  rcases hb : cnB n L m with _ | _ <;> rw [hb] at hK
  · go_wp2_with fail
    refine (hK w1 q0).mono ?_
    rintro e w2 ⟨rfl, hq⟩
    go_wp2
    go_ret
    exact ⟨by rw [← HR.out]; simp [lokB, hb], btr q0 hq⟩
  · have hn4 := hcn hb
    by_cases h130 : 130 < N
    · have d1 : decide (130 < (N : Int)) = true := decide_eq_true (by omega)
      go_wp2_with fail
      refine (hK w1 q0).mono ?_
      rintro e w2 ⟨rfl, hq⟩
      replace c0 := carry hq c0
      replace c1 := carry hq c1
      go_wp2
      go_ret
      exact ⟨by rw [← HR.out]; simp [lokB, show ¬ N ≤ 130 by omega], btr q0 hq⟩
    · have d1 : decide (130 < (N : Int)) = false := decide_eq_false (by omega)
      by_cases h400 : 400 < n + N
      · have d2 : decide (400 < (n : Int) + (N : Int)) = true := decide_eq_true (by omega)
        go_wp2_with fail
        refine (hK w1 q0).mono ?_
        rintro e w2 ⟨rfl, hq⟩
        replace c0 := carry hq c0
        replace c1 := carry hq c1
        go_wp2
        go_ret
        exact ⟨by rw [← HR.out]; simp [lokB, show ¬ n + N ≤ 400 by omega], btr q0 hq⟩
      · have d2 : decide (400 < (n : Int) + (N : Int)) = false := decide_eq_false (by omega)
        have hr : logB 0 n L m N M = res := by rw [← HR.out]; simp [lokB, hb, show N ≤ 130 by omega, show n + N ≤ 400 by omega]
        have HR2 := hid hr
        clear hr HR hcn hb
        go_wp2_with fail
        refine (hK w1 q0).mono ?_
        rintro e w2 ⟨rfl, hq⟩
        replace c0 := carry hq c0
        replace c1 := carry hq c1
        replace q0 := btr q0 hq
        replace hA := hA.below q0
        replace hG := hG.below q0
        have y1 := cell_lt c0
        clear hK
        go_upto_region 3 with fail
        refine region_stab (fun W => Below w2.heap.size w2 W) (PoL w.heap.size w2 m A n c L) [[], [0], [], [], [3], [2, 4], [1, 5], []] 8 rfl (by kernel_rfl) (Below.refl w2.heap.size w2).drew (fun W W' h1 h2 => btr h2 h1) (PoL_mono _ _ _ _ _ _ _) (fun i hi => ?_) ?_
        · match i, hi with
          | 0, _ =>
            refine ⟨_, rfl, fun V W hC hP => ?_⟩
            simp only [List.getD_cons_zero, List.getD_cons_succ, puts, dstOf, List.getElem?_toArray, List.getElem?_cons_zero, List.getElem?_cons_succ, Option.bind_some]
            exact stm_quiet (v := .pointer (some ⟨w.heap.size, 0, none⟩)) (by simp [execOp, go_sem]) rfl
          | 1, _ =>
            refine ⟨_, rfl, fun V W hC hP => ?_⟩
            have p0 : V 0 = _ := hP 0 (by decide)
            simp only [List.getD_cons_zero, List.getD_cons_succ, puts, dstOf, List.getElem?_toArray, List.getElem?_cons_zero, List.getElem?_cons_succ, Option.bind_some, p0]
            exact stm_quiet (v := .int .i64 m) (run_loadF rfl (by kernel_rfl) Try.underlying3 rfl (carry hC c0)) rfl
          | 2, _ =>
            refine ⟨_, rfl, fun V W hC hP => ?_⟩
            simp only [List.getD_cons_zero, List.getD_cons_succ, puts, dstOf, List.getElem?_toArray, List.getElem?_cons_zero, List.getElem?_cons_succ, Option.bind_some]
            exact stm_val (v := .slice (some ⟨W.heap.size, 0, none⟩) 0 0) (w' := W.alloc (.cells #[] 38)) (by simp [execOp, go_sem]) (bal (Below.refl _ _) _) ⟨W.heap.size, rfl, hC.size, own_empU W 38 _ (Nat.le_refl _)⟩
          | 3, _ =>
            refine ⟨_, rfl, fun V W hC hP => ?_⟩
            simp only [List.getD_cons_zero, List.getD_cons_succ, puts, dstOf, List.getElem?_toArray, List.getElem?_cons_zero, List.getElem?_cons_succ, Option.bind_some]
            exact stm_quiet (v := .pointer (some ⟨w.heap.size, 1, none⟩)) (by simp [execOp, go_sem]) rfl
          | 4, _ =>
            refine ⟨_, rfl, fun V W hC hP => ?_⟩
            have p3 : V 3 = _ := hP 3 (by decide)
            simp only [List.getD_cons_zero, List.getD_cons_succ, puts, dstOf, List.getElem?_toArray, List.getElem?_cons_zero, List.getElem?_cons_succ, Option.bind_some, p3]
            exact stm_quiet (v := .slice A n c) (run_loadF rfl (by kernel_rfl) Try.underlying22 rfl (carry hC c1)) rfl
          | 5, _ =>
            refine ⟨_, rfl, fun V W hC hP => ?_⟩
            obtain ⟨ge, p2, hge, hE⟩ := hP 2 (by decide)
            have p4 : V 4 = _ := hP 4 (by decide)
            simp only [List.getD_cons_zero, List.getD_cons_succ, puts, dstOf, List.getElem?_toArray, List.getElem?_cons_zero, List.getElem?_cons_succ, Option.bind_some, p2, p4]
            obtain ⟨v', w', LA, LC, hr, hown, hbl, hx⟩ := run_copySS (c := c) 22 hA hC (by omega) hE (by have := (hE.lt ge rfl).2; omega)
            exact stm_append rfl rfl rfl hr hbl ⟨_, own_base hown hge, fun k hk => ⟨_, _, flatS_at hk, (hx k hk).1, (hx k hk).2⟩⟩
          | 6, _ =>
            refine ⟨_, rfl, fun V W hC hP => ?_⟩
            have p1 : V 1 = _ := hP 1 (by decide)
            have p5 : RS _ _ _ (V 5) _ _ := hP 5 (by decide)
            obtain ⟨a5, c5, e5, _⟩ := p5.slice
            simp only [List.getD_cons_zero, List.getD_cons_succ, puts, dstOf, List.getElem?_toArray, List.getElem?_cons_zero, List.getElem?_cons_succ, Option.bind_some, p1, e5]
            rw [e5] at p5
            exact stm_quiet (v := .agg #[.int .i64 m, .slice a5 n c5]) (by kernel_rfl) ⟨_, rfl, p5⟩
          | 7, _ =>
            refine ⟨_, rfl, fun V W hC hP => ?_⟩
            simp only [List.getD_cons_zero, List.getD_cons_succ, puts, dstOf, List.getElem?_toArray, List.getElem?_cons_zero, List.getElem?_cons_succ, Option.bind_some]
            exact stm_val (v := .pointer (some ⟨W.heap.size, 0, none⟩)) (w' := W.alloc (.cells #[.int .i64 0, .slice none 0 0] 31)) (by kernel_rfl) (bal (Below.refl _ _) _) ⟨W.heap.size, rfl, hC.size, row2_newF W _ _ _⟩
          | j + 8, h => exact absurd h (by omega)
        · intro V W hC hP
          have p0 : V 0 = _ := hP 0 (by decide)
          have p1 : V 1 = _ := hP 1 (by decide)
          obtain ⟨ge, p2, _, _⟩ := hP 2 (by decide)
          have p3 : V 3 = _ := hP 3 (by decide)
          have p4 : V 4 = _ := hP 4 (by decide)
          obtain ⟨v5, p6, h5⟩ := hP 6 (by decide)
          obtain ⟨b6, p7, hb6, r6⟩ := hP 7 (by decide)
          have hoth := h5.other r6
          obtain ⟨a5, c5, e5, hc5⟩ := h5.slice
          subst e5
          have r60 : W.cell? ⟨b6, 0, none⟩ = some (.int .i64 0) := r6.cell (i := 0) (by decide)
          have r61 : W.cell? ⟨b6, 1, none⟩ = some (.slice none 0 0) := r6.cell (i := 1) (by decide)
          have f60 := r6.frozen 0
          have f61 := r6.frozen 1
          have l6 := r6.lt
          have H0 : Hid (SlS w2 b6 m (.slice a5 n c5) n L ((W.setCell ⟨b6, 0, none⟩ (.int .i64 m)).setCell ⟨b6, 1, none⟩ (.slice a5 n c5))) := hid ⟨(h5.set hoth).set hoth, ((r6.set 0 (.int .i64 m)).set 1 (.slice a5 n c5)).congr (fun i hi => by
            match i, hi with
            | 0, _ => rfl
            | 1, _ => rfl), hb6, (hC.setCell hb6 _).setCell hb6 _⟩
          clear hP
          simp only [List.range, List.range.loop, List.drop_succ_cons, List.drop_zero, puts, dstOf, List.getElem?_toArray, List.getElem?_cons_zero, List.getElem?_cons_succ, Option.bind_some, p0, p1, p2, p3, p4, p6, p7]
          clear p0 p1 p2 p3 p4 p6 p7 h5 r6 hoth hC
          go_upto_region 4 with fail
          obtain ⟨w4, hw4⟩ : ∃ w4, w4 = (W.setCell ⟨b6, 0, none⟩ (.int .i64 m)).setCell ⟨b6, 1, none⟩ (.slice a5 n c5) := ⟨_, rfl⟩
          rw [← hw4] at H0 ⊢
          clear hw4 r60 r61 f60 f61 l6
          go_wp2
          go_loopw [6] (fun i wr => ∃ (k : Nat) (v : Value), k ≤ N ∧ i = .int .i64 (k : Int) ∧ SlS w2 b6 m v (n + k) (catL n L M) wr ∧ ∀ j, j < k → rupB (n + j) (catL n L M) m (M.N j) (M.Z j) = true) (fun i _ => N - (intOf i).toNat)
          case atStart => exact ⟨0, _, Nat.zero_le _, rfl, ⟨H0.out.1.congr (fun k hk => if_pos hk) (fun k hk => if_pos hk), H0.out.2⟩, fun j hj => by omega⟩
          case round =>
            clear H0
            obtain ⟨k, v, hk, rfl, hS, hall⟩ := hrel
            by_cases hlt : k < N
            · rcases hG with h0 | ⟨g, off, rfl, hg, hcG⟩
              · omega
              obtain ⟨a, ca, g0, hNk, hZ⟩ := hcG k hlt
              obtain ⟨hRS, hbx, hlo6, hbw⟩ := hS
              obtain ⟨av, cv, rfl, hcv⟩ := hRS.slice
              have IX := hRS.intss hbw
              have e0 : wr.cell? ⟨b6, 0, none⟩ = some (.int .i64 m) := hbx.cell (i := 0) (by decide)
              have e1 : wr.cell? ⟨b6, 1, none⟩ = some (.slice av (n + k) cv) := hbx.cell (i := 1) (by decide)
              have g1 := carry hbw g0
              have hZ1 := hZ.below hbw
              have y1 := cell_lt e0
              have y2 := cell_lt g1
              have gc := @gro_cell wr
              have HA := hid hall
              have HS : Hid (SlS w2 b6 m (.slice av (n + k) cv) (n + k) (catL n L M) wr) := hid ⟨hRS, hbx, hlo6, hbw⟩
              clear hcG hall hRS hbx
              have hE1 := fun X : Gro wr => scnfrup_any av (n + k) cv (catL n L M) m a (M.N k) ca (M.Z k) (gro wr X) (by omega) (IX.below X.h) hNk (hZ1.below X.h)
              rcases hr : rupB (n + k) (catL n L M) m (M.N k) (M.Z k) with _ | _ <;> rw [hr] at hE1
              · go_upto_region 7 with fail
                refine wp_region_grow_lit (by kernel_rfl) (by kernel_rfl) ?_
                repeat (go_big_quiet_step ((go_at_call 29; exact grow_call _ (hE1 _))))
                refine wpQuiet_nil ?_
                rintro _ ⟨X, rfl⟩
                clear gc hE1
                go_wp2
                go_ret
                exact ⟨by rw [← HR2.out, logB_no (Nat.zero_le _) hlt hr]; rfl, btr q0 (btr hbw X.h)⟩
              · go_upto_region 7 with fail
                refine wp_region_grow_lit (by kernel_rfl) (by kernel_rfl) ?_
                repeat (go_big_quiet_step ((go_at_call 29; exact grow_call _ (hE1 _))))
                refine wpQuiet_nil ?_
                rintro _ ⟨X, rfl⟩
                have hX : Below wr.heap.size wr (gro wr X) := X.h
                clear gc hE1
                have HS5 := hid (HS.out.below hX)
                replace e0 := carry hX e0
                replace e1 := carry hX e1
                replace g1 := carry hX g1
                generalize gro wr X = w5 at *
                clear hX HS IX hZ1 y1 y2 hbw
                go_upto_region 9 with fail
                have qd := (Below.refl w5.heap.size w5).drew
                have HS6 := hid (HS5.out.below qd)
                replace e1 := carry qd e1
                replace g1 := carry qd g1
                refine region_planC (LoC b6 g (off + k) (.slice av (n + k) cv) (.slice a (M.N k) ca)) (.takes [0, 1, 2, 3, 4, 5] (.make 6 (.make 7 .fin))) 8 rfl (by kernel_rfl) ⟨e1, g1⟩ ?_
                clear HS5 qd e0
                generalize w5.drew = x0 at *
                have hkI : (k : Int) < (N : Int) := by omega
                refine plan_takes ?_; simp only [pickOps, List.getElem?_cons_zero, List.getElem?_cons_succ]
                refine quiet_doC rfl (.pointer (some ⟨b6, 1, none⟩)) (fun W hW => by simp [execOp, go_sem]) ?_
                refine quiet_doC rfl (.slice av (n + k) cv) (fun W hW => by simp [execOp, go_sem, hW.1]) ?_
                refine quiet_doC rfl (.slice (some ⟨g, off, none⟩) N cG) (fun W hW => by simp [execOp, go_sem]) ?_
                refine quiet_doC rfl (.int .i64 (k : Int)) (fun W hW => by simp [execOp, go_sem]) ?_
                refine quiet_doC rfl (.pointer (some ⟨g, off + k, none⟩)) (fun W hW => by simp [execOp, go_sem, hkI]) ?_
                refine quiet_doC rfl (.slice a (M.N k) ca) (fun W hW => by simp [execOp, go_sem, hW.2]) ?_
                refine wpQuiet_nil ?_
                simp only [Act.put, List.setIfInBounds_toArray, List.set_cons_succ, List.set_cons_zero]
                have CX := bal (Below.refl x0.heap.size x0) (.cells #[.slice a (M.N k) ca] 38)
                refine planC_val rfl rfl (.slice (some ⟨x0.heap.size, 0, none⟩) 1 1) (w'' := x0.alloc (.cells #[.slice a (M.N k) ca] 38)) (by simp [execOp, go_sem]) ⟨carry CX e1, carry CX g1⟩ ?_
                have hnews := news_one x0 (.slice a (M.N k) ca) 38
                have HS7 := hid (HS6.out.below CX)
                replace e1 := carry CX e1
                replace g1 := carry CX g1
                clear HS6 CX
                generalize x0.heap.size = nb at *
                generalize x0.alloc (.cells #[.slice a (M.N k) ca] 38) = x1 at *
                simp only [Act.put, List.setIfInBounds_toArray, List.set_cons_succ, List.set_cons_zero]
                obtain ⟨hRS, hbx, hlo6', hbw⟩ := HS7.out
                obtain ⟨xs, hO1, hx⟩ := hRS
                obtain ⟨i0, hi, hz0, hz1, hz2⟩ := info_parts infoIS
                refine planC_appendU rfl rfl _ _ 22 rfl w2.heap.size 38 i0 _ 1 24 Try.underlying22 hi hz0 hz1 hz2 rfl (by decide) (.slice av (n + k) cv) (n + k) xs (by kernel_rfl) hO1 ⟨nb, 0, none⟩ 1 1 [.slice a (M.N k) ca] (by kernel_rfl) rfl hnews (fun u hu => by simp at hu; subst hu; rfl) (by unfold maxLen; omega) (by omega) hbw.size ?_
                intro v' w6 hown6 hgrow hfresh
                have hne : ∀ q, (Value.slice av (n + k) cv).ownBlock = some q → w2.heap.size ≤ q := fun q e => (hO1.lt q e).1
                have hnb : (Value.slice av (n + k) cv).ownBlock ≠ some b6 := fun e => absurd (own_ty hO1 hbx e) (by decide)
                have hbx6 := hbx.of_block (hgrow.block _ hbx.lt (fun e => hnb e.symm))
                have hb6w : Below w2.heap.size w2 w6 := hbw.grown hgrow hbw.size hne
                have hxl : xs.length = n + k := by have := hO1.1; omega
                have hRS6 : RS w2 w6 w2.heap.size v' (n + (k + 1)) (catL n L M) := ⟨_, hown6, fun j hj => by
                  by_cases hjk : j < n + k
                  · rw [List.getElem?_append_left (by omega)]
                    exact hx j hjk
                  · obtain rfl : j = n + k := by omega
                    rw [List.getElem?_append_right (by omega), hxl, Nat.sub_self]
                    simp only [catL, if_neg (show ¬ n + k < n by omega), show n + k - n = k by omega]
                    exact ⟨a, ca, rfl, hNk, hZ⟩⟩
                have hnb6 := hRS6.other hbx6
                obtain ⟨av', cv', rfl, hcv'⟩ := hRS6.slice
                have z1 : w6.cell? ⟨b6, 1, none⟩ = some (.slice av (n + k) cv) := hbx6.cell (i := 1) (by decide)
                have zf := hbx6.frozen 1
                refine ⟨⟨z1, (carry hbw g0 ▸ carry hb6w g0)⟩, ?_⟩
                have HS9 : Hid (SlS w2 b6 m (.slice av' (n + (k + 1)) cv') (n + (k + 1)) (catL n L M) (w6.setCell ⟨b6, 1, none⟩ (.slice av' (n + (k + 1)) cv'))) := hid ⟨hRS6.set hnb6, (hbx6.set 1 (.slice av' (n + (k + 1)) cv')).congr (fun i hi => by
                  match i, hi with
                  | 0, _ => rfl
                  | 1, _ => rfl), hlo6, hb6w.setCell hlo6 _⟩
                have ly := cell_lt z1
                clear hown6 hgrow hfresh hO1 hx hbx6 hbx hRS6 hnb6 hne hnb hb6w hbw HS7 e1 g1 hnews
                refine plan_fin ?_
                simp only [List.drop_succ_cons, List.drop_zero, Act.put, List.setIfInBounds_toArray, List.set_cons_succ, List.set_cons_zero]
                go_wp2
                go_roundw
                case rel => exact ⟨k + 1, _, by omega, by go_num, HS9.out, fun j hj => by
                  by_cases e : j < k
                  · exact HA.out j e
                  · obtain rfl : j = k := by omega
                    exact hr⟩
                case measure => simp [intOf]; omega
            · obtain rfl : k = N := by omega
              go_wp2
              go_ret
              exact ⟨by rw [← HR2.out, logB_yes (fun i _ h => hall i h)]; rfl, btr q0 hS.2.2.2⟩
end Go.Proofs.Ytjnngijilkdhbaa
