/- DrawCnfSame. -/
import Derived.Test.YtoechhdahokoiaaDgA
import Derived.Test.YtoechhdahokoiaaB7
import Derived.RegionTactic
import Derived.ChangeAlike
import Derived.BigRegion
namespace Go.Proofs.Ytoechhdahokoiaa
set_option linter.unusedVariables false
set_option linter.unusedSimpArgs false
open Go.RowKit
/-- two drawn lists of clauses -/
def DSmP (w : World) (e : Ending) (w' : World) : Prop :=
  ∃ m A c ds m' A' c' ds', e = .returned (.tuple #[.agg #[.int .i64 m, .slice A (List.length ds) c], .agg #[.int .i64 m', .slice A' (List.length ds') c']]) ∧ ds.length ≤ 15 ∧ ds'.length ≤ 15 ∧ IntSS w' A ds.length (llsC ds) ∧ (∀ k, k < ds.length → (llsC ds).N k ≤ 61) ∧ IntSS w' A' ds'.length (llsC ds') ∧ (∀ k, k < ds'.length → (llsC ds').N k ≤ 61) ∧ Below w.heap.size w w'
theorem CL.n61 {lo lo2 : Nat} {w : World} {v : Value} {ds : List CRow} (h : CL lo lo2 w v ds) : ∀ k, k < ds.length → (llsC ds).N k ≤ 61 := fun k hk => by
  have hm : ds.getD k default ∈ ds := by rw [List.getD_eq_getElem?_getD, List.getElem?_eq_getElem hk]; exact List.getElem_mem hk
  exact (h.2 _ hm).2.2
def CmC (b : Nat) (m : Int) (A : Option Addr) (c n : Nat) (W : World) : Prop := W.cell? ⟨b, 0, none⟩ = some (.int .i64 m) ∧ W.cell? ⟨b, 1, none⟩ = some (.slice A n c)
def PoSm (b5 lo : Nat) (m : Int) (A : Option Addr) (c : Nat) (ds : List CRow) (j : Nat) (v : Value) (W : World) : Prop :=
  match j with
  | 0 => v = .pointer (some ⟨b5, 0, none⟩)
  | 1 => v = .int .i64 m
  | 2 => ∃ ge, v = .slice (some ⟨ge, 0, none⟩) 0 0 ∧ b5 < ge ∧ W.ownsRow ge 32 1 (.slice (some ⟨ge, 0, none⟩) 0 0) 0 []
  | 3 => v = .pointer (some ⟨b5, 1, none⟩)
  | 4 => v = .slice A ds.length c
  | 5 => CL lo lo W v ds ∧ ∀ r, v.ownBlock = some r → b5 < r
  | 6 => ∃ v5, v = .agg #[.int .i64 m, v5] ∧ CL lo lo W v5 ds ∧ ∀ r, v5.ownBlock = some r → b5 < r
  | 7 => ∃ b6, v = .pointer (some ⟨b6, 0, none⟩) ∧ b5 < b6 ∧ W.rowIs b6 25 2 (fun j => if j = 0 then .int .i64 0 else .slice none 0 0)
  | _ => True
theorem PoSm_mono (b5 lo : Nat) (m : Int) (A : Option Addr) (c : Nat) (ds : List CRow) : ∀ j u w w', Below w.heap.size w w' → PoSm b5 lo m A c ds j u w → PoSm b5 lo m A c ds j u w' := fun j u w w' hb h => by
  match j, h with
  | 0, h => exact h
  | 1, h => exact h
  | 2, ⟨ge, e, h1, h2⟩ => exact ⟨ge, e, h1, own_belowC hb h2⟩
  | 3, h => exact h
  | 4, h => exact h
  | 5, ⟨h, h1⟩ => exact ⟨CL.below h hb, h1⟩
  | 6, ⟨v5, e, h1, h2⟩ => exact ⟨v5, e, h1.below hb, h2⟩
  | 7, ⟨b6, e, h1, h2⟩ => exact ⟨b6, e, h1, h2.of_block (hb.block _ h2.lt)⟩
  | j + 8, _ => trivial
/-- the state behind the copy -/
def SmS (P : Nat) (w : World) (B lo g b5 b6 : Nat) (m : Int) (A : Option Addr) (c : Nat) (v6 : Value) (ds es : List CRow) (W : World) : Prop :=
  W.rowIs w.heap.size 25 2 (fun j => if j = 0 then .int .i64 0 else .slice none 0 0) ∧ W.rowIs (w.heap.size + 1) 25 2 (fun j => if j = 0 then .int .i64 0 else .slice none 0 0) ∧
  W.rowIs b5 25 2 (fun j => if j = 0 then .int .i64 m else .slice A ds.length c) ∧ W.rowIs b6 25 2 (fun j => if j = 0 then .int .i64 m else v6) ∧
  CL lo lo W (.slice A ds.length c) ds ∧ CL lo lo W v6 es ∧ Below w.heap.size w W ∧ (∃ p, p ≤ P ∧ RD B W g p) ∧ w.heap.size + 2 ≤ g ∧ g < lo ∧ lo ≤ b5 ∧ lo ≤ b6 ∧ w.heap.size + 2 ≤ lo
theorem SmS.grow {P P' : Nat} {w : World} {B lo g b5 b6 : Nat} {m : Int} {A : Option Addr} {c : Nat} {v6 : Value} {ds es : List CRow} {W W' : World} (h : SmS P w B lo g b5 b6 m A c v6 ds es W) (hg : W.grownBy W' (some g)) (hR : ∃ p, p ≤ P' ∧ RD B W' g p) : SmS P' w B lo g b5 b6 m A c v6 ds es W' := by
  obtain ⟨h1, h2, h3, h4, h5, h6, h7, h8, h9, h10, h11, h12, h13⟩ := h
  exact ⟨row_growC h1 hg (by omega), row_growC h2 hg (by omega), row_growC h3 hg (by omega), row_growC h4 hg (by omega), h5.go hg h10 h10, h6.go hg h10 h10, h7.grown hg h7.size (fun r hr => by cases hr; omega), hR, h9, h10, h11, h12, h13⟩
theorem SmS.below {P : Nat} {w : World} {B lo g b5 b6 : Nat} {m : Int} {A : Option Addr} {c : Nat} {v6 : Value} {ds es : List CRow} {W W' : World} (h : SmS P w B lo g b5 b6 m A c v6 ds es W) (hb : Below W.heap.size W W') : SmS P w B lo g b5 b6 m A c v6 ds es W' := by
  obtain ⟨h1, h2, h3, h4, h5, h6, h7, ⟨p, hp, h8⟩, h9⟩ := h
  exact ⟨h1.of_block (hb.block _ h1.lt), h2.of_block (hb.block _ h2.lt), h3.of_block (hb.block _ h3.lt), h4.of_block (hb.block _ h4.lt), h5.below hb, h6.below hb, btr h7 hb, ⟨p, hp, h8.below hb⟩, h9⟩
theorem there2 {w : World} {b : Nat} {t : TypeId} {f : Nat → Value} (h : w.rowIs b t 2 f) : w.there b 0 2 := fun j hj => by
  rw [Nat.zero_add, h.cell hj, h.frozen j]
  exact ⟨rfl, rfl⟩
theorem set2o {w : World} {b p o : Nat} {v x0 x1 : Value} (hne : b ≠ p) (h : w.cell? ⟨b, o, none⟩ = some v) : ((w.setCell ⟨p, 0, none⟩ x0).setCell ⟨p, 1, none⟩ x1).cell? ⟨b, o, none⟩ = some v := by
  rw [World.cell?_setCell_other _ _ _ _ (by simp <;> omega), World.cell?_setCell_other _ _ _ _ (by simp <;> omega)]
  exact h
theorem news_oneC (x : World) (v : Value) (t : TypeId) : ∀ (j : Nat) (u : Value), ([v] : List Value)[j]? = some u → (x.alloc (.cells #[v] t)).cell? ((⟨x.heap.size, 0, none⟩ : Addr).add j) = some u := by
  intro j u h
  match j with
  | 0 => simp at h; subst h; simp [go_sem, Addr.add]
  | j + 1 => simp at h
theorem own_sliceU9 {w : World} {base n size : Nat} {e : TypeId} {v : Value} {xs : List Value} (h : w.ownsRow base e size v n xs) : ∃ a c, v = .slice a n c := by
  obtain ⟨_, ⟨rfl, h0⟩ | ⟨g, cap, cur, rfl, _, _, h1, h2, _⟩⟩ := h
  · exact ⟨none, 0, by rw [h0]⟩
  · exact ⟨_, cap, rfl⟩
theorem planC_store2 {P : Program} {ops : Array Oper} {l : List Oper} {K : Act → World → Prop} {C : World → Prop} {w : World} {a : Act} {m : Nat} {k : Pl} {om : Oper} (hl : l[m]? = some om) (hg : om.guard = none) (ty : TypeId) (x y : Operand) (ho : om.op = .store ty x y) (b : Nat) (x0 x1 : Value) (hx : a.eval x = .pointer (some ⟨b, 0, none⟩)) (hy : a.eval y = .agg #[x0, x1])
    (ht : w.there b 0 2) (hi : (P.info? ty).map (·.size) = some 2) (h1 : (#[x0, x1] : Array Value).all (·.oneCell') = true) (hC : C ((w.setCell ⟨b, 0, none⟩ x0).setCell ⟨b, 1, none⟩ x1))
    (hk : ObPl P ops C l K k (a.put om.dst undef) ((w.setCell ⟨b, 0, none⟩ x0).setCell ⟨b, 1, none⟩ x1)) : ObPl P ops C l K (.make m k) a w := by
  refine ⟨om, hl, .inl ⟨wanted_none hg, ?_⟩⟩
  have e : (execOp a.eval om).run P w = .ok .skip (w.setCells b 0 [x0, x1]) := by
    unfold execOp
    simp only [ho, hx, hy, Instr.storeAt, Instr.sureAddr, Sem.run_bind, Sem.run_pure, Result.andThen_ok, run_storeVar_mid w b 0 ty #[x0, x1] ht hi h1]
  rw [e]
  exact ⟨hC, hk⟩
/-- a store into a block of none of the list's -/
theorem CL.setH {lo lo2 p o : Nat} {w : World} {v u : Value} {ds : List CRow} (h : CL lo lo2 w v ds) (hv : v.ownBlock ≠ some p) (hr : ∀ d ∈ ds, d.l.length ≠ 0 → ∀ g off, d.a = some ⟨g, off, none⟩ → g ≠ p) : CL lo lo2 (w.setCell ⟨p, o, none⟩ u) v ds :=
  ⟨h.1.kept (grow_set w p o u) (.inr hv), fun d hd => ⟨(h.2 d hd).1.grow (grow_set w p o u) (fun r e => .inr fun h0 off e2 => by cases e; exact hr d hd h0 _ _ e2 rfl), (h.2 d hd).2⟩⟩
/-- the copy is put in its box -/
theorem SmS.box {P : Nat} {w : World} {B lo g b5 b6 : Nat} {m : Int} {A : Option Addr} {c : Nat} {v5 : Value} {ds : List CRow} {W : World} (h : SmS P w B lo g b5 b5 m A c (.slice A ds.length c) ds ds W) (hB : B ≤ lo) (h6 : W.rowIs b6 25 2 (fun j => if j = 0 then .int .i64 0 else .slice none 0 0)) (hb : b5 < b6) (h5 : CL lo lo W v5 ds)
    (hr : ∀ d ∈ ds, d.l.length ≠ 0 → ∀ g off, d.a = some ⟨g, off, none⟩ → g < b5) : SmS P w B lo g b5 b6 m A c v5 ds ds ((W.setCell ⟨b6, 0, none⟩ (.int .i64 m)).setCell ⟨b6, 1, none⟩ v5) := by
  obtain ⟨h1, h2, h3, _, h4, _, h7, ⟨p, hp, h8⟩, h9, h10, h11, h12, h13⟩ := h
  have hrr : ∀ d ∈ ds, d.l.length ≠ 0 → ∀ g off, d.a = some ⟨g, off, none⟩ → g ≠ b6 := fun d hd h0 g' off e => by have := hr d hd h0 g' off e; omega
  have n4 := h4.ne h6 (by decide)
  have n5 := h5.ne h6 (by decide)
  refine ⟨(h1.setOther (by simp <;> omega) _).setOther (by simp <;> omega) _, (h2.setOther (by simp <;> omega) _).setOther (by simp <;> omega) _, (h3.setOther (by simp <;> omega) _).setOther (by simp <;> omega) _, ((h6.set 0 _).set 1 _).congr fun i hi => ?_, (h4.setH n4 hrr).setH n4 hrr, (h5.setH n5 hrr).setH n5 hrr, (h7.setCell (by simp <;> omega) _).setCell (by simp <;> omega) _, ⟨p, hp, (h8.set (by omega) (by omega) 0 _).set (by omega) (by omega) 1 _⟩, h9, h10, h11, by omega, h13⟩
  match i, hi with
  | 0, _ => rfl
  | 1, _ => rfl
/-- a row more in the copy -/
theorem SmS.push {P : Nat} {w : World} {B lo g b5 b6 : Nat} {m : Int} {A : Option Addr} {c : Nat} {v6 v' : Value} {ds : List CRow} {e1 : CRow} {W5 W7 W9 : World} (h : SmS P w B lo g b5 b6 m A c v6 ds ds W5) (hB : B ≤ lo) (hb56 : b5 < b6) (hb : Below W5.heap.size W5 W7) (he : CrN W5.heap.size W7 e1) (hel : e1.l.length ≤ 61)
    (hV : ∀ r, v6.ownBlock = some r → b5 < r) (hA : ∀ r, (Value.slice A ds.length c).ownBlock = some r → r < b5) (hr : ∀ d ∈ ds, d.l.length ≠ 0 → ∀ g off, d.a = some ⟨g, off, none⟩ → g < b5)
    (hown : W9.ownsRow lo 32 1 v' (ds.length + [e1].length) (flatC ds ++ flatC [e1])) (hg : W7.grownBy W9 v6.ownBlock) (hat : v'.ownBlock = v6.ownBlock ∨ v'.ownBlock = some W7.heap.size) :
    SmS P w B lo g b5 b6 m A c v' ds (ds ++ [e1]) (W9.setCell ⟨b6, 1, none⟩ v') := by
  have h0 := h.2.2.2.2.2.1
  have hl6 := h.2.2.2.1.lt
  have hlo5 : lo ≤ W5.heap.size := by have := h.2.2.2.2.2.2.2.2.2.2.2.1; omega
  obtain ⟨h1, h2, h3, h4, h5, h6, h7, ⟨p, hp, h8⟩, h9, h10, h11, h12, h13⟩ := h.below hb
  have n3 := h6.ne h3 (by decide)
  have n4 := h6.ne h4 (by decide)
  have hvl : ∀ r, v6.ownBlock = some r → lo ≤ r := fun r hr => (h6.1.lt r hr).1
  have hz := hb.size
  have keep : ∀ {q : Nat} {t : TypeId} {k : Nat} {f : Nat → Value}, W7.rowIs q t k f → v6.ownBlock ≠ some q → W9.rowIs q t k f := fun {q t k f} hx hn => hx.of_block (hg.block q hx.lt (Ne.symm hn))
  have k1 := keep h1 (fun e => by have := hvl _ e; omega)
  have k2 := keep h2 (fun e => by have := hvl _ e; omega)
  have k3 := keep h3 n3
  have k4 := keep h4 n4
  have kA : CL lo lo W9 (.slice A ds.length c) ds := ⟨h5.1.kept hg (by
    cases e : (Value.slice A ds.length c).ownBlock with
    | none => exact .inl rfl
    | some r => exact .inr fun e2 => by have := hA r e; have := hV r e2.symm; omega), fun d hd => ⟨(h5.2 d hd).1.grow hg (fun r e => .inr fun hl0 off e2 => by have := hr d hd hl0 _ _ e2; have := hV r e; omega), (h5.2 d hd).2⟩⟩
  have kC := h0.push (grow_of_below hb none) (fun d hd => by obtain rfl := List.mem_singleton.1 hd; exact ⟨he, hel⟩) hlo5 hown hg hat
  have n9 : v'.ownBlock ≠ some b6 := by
    rcases hat with e | e
    · rw [e]; exact n4
    · rw [e]; intro e2; injection e2 with e2; omega
  have r9 : ∀ d ∈ ds ++ [e1], d.l.length ≠ 0 → ∀ g off, d.a = some ⟨g, off, none⟩ → g ≠ b6 := fun d hd hl0 g' off e => by
    rcases List.mem_append.1 hd with hd | hd
    · have := hr d hd hl0 g' off e; omega
    · obtain rfl := List.mem_singleton.1 hd
      rcases he with h | ⟨g2, off2, e2, h3', _, _⟩
      · exact absurd h hl0
      · rw [e] at e2
        injection e2 with e2
        injection e2 with e2 _ _
        omega
  have nA : (Value.slice A ds.length c).ownBlock ≠ some b6 := fun e => by have := hA _ e; omega
  refine ⟨k1.setOther (by simp <;> omega) _, k2.setOther (by simp <;> omega) _, k3.setOther (by simp <;> omega) _, (k4.set 1 v').congr fun i hi => ?_, kA.setH nA (fun d hd hl0 g' off e => by have := hr d hd hl0 g' off e; omega), kC.setH n9 r9, (h7.grown hg h7.size (fun r hr => by have := hvl r hr; omega)).setCell (by simp <;> omega) _, ⟨p, hp, (h8.grow hg (fun r hr => by have := hvl r hr; omega)).set (by omega) (by omega) 1 _⟩, h9, h10, h11, h12, h13⟩
  match i, hi with
  | 0, _ => rfl
  | 1, _ => rfl
set_option maxRecDepth 100000 in
set_option maxHeartbeats 16000000 in
theorem drawcnfsame_any (B : Nat) (w : World) (a : Option Addr) (len cap : Nat) (hB : B ≤ w.heap.size) (hby : Bytes B w a len) (hlc : len ≤ cap) (hc : cap ≤ 9223372036854775807) :
    Calls Try.prog 15 #[.slice a len cap] w (DSmP w) := by
  have rA := row2_newC w (.int .i64 0) (.slice none 0 0) 25
  have q0 := bal (Below.refl w.heap.size w) (.cells #[.int .i64 0, .slice none 0 0] 25)
  have rB := row2_newC (w.alloc (.cells #[.int .i64 0, .slice none 0 0] 25)) (.int .i64 0) (.slice none 0 0) 25
  have hz1 : (w.alloc (.cells #[.int .i64 0, .slice none 0 0] 25)).heap.size = w.heap.size + 1 := World.size_alloc _ _
  rw [hz1] at rB
  replace rA := rA.alloc (.cells #[.int .i64 0, .slice none 0 0] 25)
  replace q0 := bal q0 (.cells #[.int .i64 0, .slice none 0 0] 25)
  have hz2 : ((w.alloc (.cells #[.int .i64 0, .slice none 0 0] 25)).alloc (.cells #[.int .i64 0, .slice none 0 0] 25)).heap.size = w.heap.size + 2 := by rw [World.size_alloc, hz1]
  have hby2 := (hby.alloc (.cells #[.int .i64 0, .slice none 0 0] 25)).alloc (.cells #[.int .i64 0, .slice none 0 0] 25)
  have hO := open_any B ((w.alloc (.cells #[.int .i64 0, .slice none 0 0] 25)).alloc (.cells #[.int .i64 0, .slice none 0 0] 25)) a len cap (by omega) hby2 hlc hc
  go_enter Try.func15, Try.ntmps15
  go_wp2_with fail
  refine hO.mono ?_
  rintro e w1 ⟨g, rfl, hb, hR, hg⟩
  have hgs : w.heap.size + 2 ≤ g := by rw [← hz2]; exact hg
  replace q0 := btr q0 hb
  replace rA := rA.of_block (hb.block _ rA.lt)
  replace rB := rB.of_block (hb.block _ rB.lt)
  have hlt := hR.lt
  have hR0 : B ≤ w1.heap.size := Nat.le_trans hB q0.size
  clear hb hg hO hby hby2 hz1 hz2
  go_wp2_with fail
  refine (l10cnf_any B w1 g 0 hR (by omega)).mono ?_
  rintro e w2 ⟨m, A, c, ds, p, rfl, hm1, hm2, hdl, hc1, hc2, hCL, hg2, hR2, hp⟩
  have h0 : SmS 140 w B w1.heap.size g w2.heap.size w2.heap.size m A c (.slice A ds.length c) ds ds (w2.alloc (.cells #[.int .i64 m, .slice A ds.length c] 25)) := by
    have al := bal (Below.refl w2.heap.size w2) (.cells #[.int .i64 m, .slice A ds.length c] 25)
    have bx := row2_newC w2 (.int .i64 m) (.slice A ds.length c) 25
    have hs := hg2.size
    exact ⟨(row_growC rA hg2 (by omega)).alloc _, (row_growC rB hg2 (by omega)).alloc _, bx, bx, hCL.below al, hCL.below al, btr (q0.grown hg2 q0.size (fun r hr => by cases hr; omega)) al, ⟨p, by omega, hR2.alloc _⟩, hgs, hlt, hs, hs, by omega⟩
  have hrl : ∀ d ∈ ds, d.l.length ≠ 0 → ∀ g off, d.a = some ⟨g, off, none⟩ → g < w2.heap.size := fun d hd hl0 g' off e => by
    rcases (hCL.2 d hd).1 with h | ⟨g2, off2, e2, _, h3, _⟩
    · exact absurd h hl0
    · rw [e] at e2
      injection e2 with e2
      injection e2 with e2 _ _
      omega
  have HA : ∀ r, (Value.slice A ds.length c).ownBlock = some r → r < w2.heap.size := fun r hr => (hCL.1.lt r hr).2
  clear hR hCL hg2 hR2 hp rA rB q0
  go_upto_region 3 with fail
  obtain ⟨w3, hw3⟩ : ∃ w3, w3 = w2.alloc (.cells #[.int .i64 m, .slice A ds.length c] 25) := ⟨_, rfl⟩
  rw [← hw3] at h0 ⊢
  clear hw3
  have b0 : w3.cell? ⟨w2.heap.size, 0, none⟩ = some (.int .i64 m) := h0.2.2.1.cell (i := 0) (by decide)
  have b1 : w3.cell? ⟨w2.heap.size, 1, none⟩ = some (.slice A ds.length c) := h0.2.2.1.cell (i := 1) (by decide)
  have hlo5 : w1.heap.size ≤ w2.heap.size := h0.2.2.2.2.2.2.2.2.2.2.1
  have hb5 : w2.heap.size < w3.heap.size := h0.2.2.1.lt
  have H0 := hid h0
  refine region_stab (fun W => Below w3.heap.size w3 W) (PoSm w2.heap.size w1.heap.size m A c ds) [[], [0], [], [], [3], [2, 4], [1, 5], []] 8 rfl (by kernel_rfl) (Below.refl w3.heap.size w3).drew (fun W W' h1 h2 => btr h2 h1) (PoSm_mono _ _ _ _ _ _) (fun i hi => ?_) ?_
  · match i, hi with
    | 0, _ =>
      refine ⟨_, rfl, fun V W hC hP => ?_⟩
      simp only [List.getD_cons_zero, List.getD_cons_succ, puts, dstOf, List.getElem?_toArray, List.getElem?_cons_zero, List.getElem?_cons_succ, Option.bind_some]
      exact stm_quiet (v := .pointer (some ⟨w2.heap.size, 0, none⟩)) (by simp [execOp, go_sem]) rfl
    | 1, _ =>
      refine ⟨_, rfl, fun V W hC hP => ?_⟩
      have p0 : V 0 = _ := hP 0 (by decide)
      simp only [List.getD_cons_zero, List.getD_cons_succ, puts, dstOf, List.getElem?_toArray, List.getElem?_cons_zero, List.getElem?_cons_succ, Option.bind_some, p0]
      exact stm_quiet (v := .int .i64 m) (run_loadI rfl (by kernel_rfl) Try.underlying3 rfl (carry hC b0)) rfl
    | 2, _ =>
      refine ⟨_, rfl, fun V W hC hP => ?_⟩
      simp only [List.getD_cons_zero, List.getD_cons_succ, puts, dstOf, List.getElem?_toArray, List.getElem?_cons_zero, List.getElem?_cons_succ, Option.bind_some]
      exact stm_val (v := .slice (some ⟨W.heap.size, 0, none⟩) 0 0) (w' := W.alloc (.cells #[] 32)) (by simp [execOp, go_sem]) (bal (Below.refl _ _) _) ⟨W.heap.size, rfl, Nat.lt_of_lt_of_le hb5 hC.size, own_emptyD W 32 1⟩
    | 3, _ =>
      refine ⟨_, rfl, fun V W hC hP => ?_⟩
      simp only [List.getD_cons_zero, List.getD_cons_succ, puts, dstOf, List.getElem?_toArray, List.getElem?_cons_zero, List.getElem?_cons_succ, Option.bind_some]
      exact stm_quiet (v := .pointer (some ⟨w2.heap.size, 1, none⟩)) (by simp [execOp, go_sem]) rfl
    | 4, _ =>
      refine ⟨_, rfl, fun V W hC hP => ?_⟩
      have p3 : V 3 = _ := hP 3 (by decide)
      simp only [List.getD_cons_zero, List.getD_cons_succ, puts, dstOf, List.getElem?_toArray, List.getElem?_cons_zero, List.getElem?_cons_succ, Option.bind_some, p3]
      exact stm_quiet (v := .slice A ds.length c) (run_loadI rfl (by kernel_rfl) Try.underlying23 rfl (carry hC b1)) rfl
    | 5, _ =>
      refine ⟨_, rfl, fun V W hC hP => ?_⟩
      obtain ⟨ge, p2, hge, hE⟩ := hP 2 (by decide)
      have p4 : V 4 = _ := hP 4 (by decide)
      simp only [List.getD_cons_zero, List.getD_cons_succ, puts, dstOf, List.getElem?_toArray, List.getElem?_cons_zero, List.getElem?_cons_succ, Option.bind_some, p2, p4]
      obtain ⟨v', w', hr, hCL, hvr, hbl⟩ := run_copyCL2 23 (H0.out.below hC).2.2.2.2.1 (by omega) hE (by have := (hE.lt ge rfl).2; omega) (by omega) (fun d hd h1 g' off e => by have := hrl d hd h1 g' off e; omega)
      exact stm_append rfl rfl rfl hr hbl ⟨hCL, fun r hr => by have := hvr r hr; omega⟩
    | 6, _ =>
      refine ⟨_, rfl, fun V W hC hP => ?_⟩
      have p1 : V 1 = _ := hP 1 (by decide)
      obtain ⟨p5, p5v⟩ := (show CL _ _ _ (V 5) _ ∧ _ from hP 5 (by decide))
      obtain ⟨a5, c5, e5, _⟩ := p5.sl
      simp only [List.getD_cons_zero, List.getD_cons_succ, puts, dstOf, List.getElem?_toArray, List.getElem?_cons_zero, List.getElem?_cons_succ, Option.bind_some, p1, e5]
      rw [e5] at p5 p5v
      exact stm_quiet (v := .agg #[.int .i64 m, .slice a5 ds.length c5]) (by kernel_rfl) ⟨_, rfl, p5, p5v⟩
    | 7, _ =>
      refine ⟨_, rfl, fun V W hC hP => ?_⟩
      simp only [List.getD_cons_zero, List.getD_cons_succ, puts, dstOf, List.getElem?_toArray, List.getElem?_cons_zero, List.getElem?_cons_succ, Option.bind_some]
      exact stm_val (v := .pointer (some ⟨W.heap.size, 0, none⟩)) (w' := W.alloc (.cells #[.int .i64 0, .slice none 0 0] 25)) (by kernel_rfl) (bal (Below.refl _ _) _) ⟨W.heap.size, rfl, Nat.lt_of_lt_of_le hb5 hC.size, row2_newC W _ _ _⟩
    | j + 8, h => exact absurd h (by omega)
  · intro V W hC hP
    have p0 : V 0 = _ := hP 0 (by decide)
    have p1 : V 1 = _ := hP 1 (by decide)
    obtain ⟨ge, p2, _, _⟩ := hP 2 (by decide)
    have p3 : V 3 = _ := hP 3 (by decide)
    have p4 : V 4 = _ := hP 4 (by decide)
    obtain ⟨v5, p6, h5, HV⟩ := hP 6 (by decide)
    obtain ⟨b6, p7, hb6, r6⟩ := hP 7 (by decide)
    have H3 := hid (H0.out.below hC)
    obtain ⟨a5, c5, e5, _⟩ := h5.sl
    subst e5
    have hBl : B ≤ w1.heap.size := by have := hR0; omega
    have H4 := hid (H3.out.box hBl r6 hb6 h5 hrl)
    have r60 : W.cell? ⟨b6, 0, none⟩ = some (.int .i64 0) := r6.cell (i := 0) (by decide)
    have r61 : W.cell? ⟨b6, 1, none⟩ = some (.slice none 0 0) := r6.cell (i := 1) (by decide)
    have f60 := r6.frozen 0
    have f61 := r6.frozen 1
    have l6 := r6.lt
    clear hC hP
    simp only [List.range, List.range.loop, List.drop_succ_cons, List.drop_zero, puts, dstOf, List.getElem?_toArray, List.getElem?_cons_zero, List.getElem?_cons_succ, Option.bind_some, p0, p1, p2, p3, p4, p6, p7]
    clear p0 p1 p2 p3 p4 p6 p7 h5 r6 H3
    go_wp2_with fail
    obtain ⟨w4, hw4⟩ : ∃ w4, w4 = (W.setCell ⟨b6, 0, none⟩ (.int .i64 m)).setCell ⟨b6, 1, none⟩ (.slice a5 ds.length c5) := ⟨_, rfl⟩
    rw [← hw4] at H4 ⊢
    clear hw4 r60 r61 f60 f61
    obtain ⟨p4, hp4, hR4⟩ := H4.out.2.2.2.2.2.2.2.1
    refine (pick_any B _ g p4 4 hR4 (by omega) (by omega)).mono ?_
    rintro e w5 ⟨x, x0, x1, rfl, hg5, hR5⟩
    have H5 := hid (H4.out.grow (P' := 141) hg5 ⟨_, by omega, hR5⟩)
    clear H4 hR4
    by_cases z0 : x = 0
    · subst z0
      have k61 : w5.cell? ⟨b6, 1, none⟩ = some (.slice a5 ds.length c5) := H5.out.2.2.2.1.cell (i := 1) (by decide)
      have l61 := H5.out.2.2.2.1.lt
      obtain ⟨i0, hi, hz0, hz1, hz2⟩ := info_parts infoCn
      have CX := bal (bal (Below.refl w5.heap.size w5) (.cells #[.int .i64 1] 3)) (.cells #[.slice (some ⟨w5.heap.size, 0, none⟩) 1 1] 32)
      have hOw := hid (((H5.out.2.2.2.2.2.1).1.alloc (.cells #[.int .i64 1] 3)).alloc (.cells #[.slice (some ⟨w5.heap.size, 0, none⟩) 1 1] 32))
      have hnw := news_oneC (w5.alloc (.cells #[.int .i64 1] 3)) (.slice (some ⟨w5.heap.size, 0, none⟩) 1 1) 32
      have hcr : CrN w5.heap.size ((w5.alloc (.cells #[.int .i64 1] 3)).alloc (.cells #[.slice (some ⟨w5.heap.size, 0, none⟩) 1 1] 32)) ⟨some ⟨w5.heap.size, 0, none⟩, 1, [1]⟩ := .inr ⟨w5.heap.size, 0, rfl, Nat.le_refl _, by simp <;> omega, fun k hk => by
        obtain rfl : k = 0 := by simp at hk; omega
        exact carryA _ (by simp [go_sem])⟩
      have hsz5 : (w5.alloc (.cells #[.int .i64 1] 3)).heap.size = w5.heap.size + 1 := World.size_alloc _ _
      rw [hsz5] at hnw
      have HSZ := hid hsz5
      have row6 := hid (((H5.out.2.2.2.1).alloc (.cells #[.int .i64 1] 3)).alloc (.cells #[.slice (some ⟨w5.heap.size, 0, none⟩) 1 1] 32))
      have hne6 : some b6 ≠ (Value.slice a5 ds.length c5).ownBlock := fun e => H5.out.2.2.2.2.2.1.ne H5.out.2.2.2.1 (by decide) e.symm
      clear hsz5
      go_wp2_with ((at_builtin; refine wpList_append_own_at _ rfl _ _ 23 rfl w1.heap.size 32 i0 (.slice none 0 0) 1 24 Try.underlying23 hi hz0 hz1 hz2 rfl (by decide) (.slice a5 ds.length c5) ds.length (flatC ds) rfl hOw.out ⟨w5.heap.size + 1, 0, none⟩ 1 1 [.slice (some ⟨w5.heap.size, 0, none⟩) 1 1] rfl rfl hnw (fun u hu => by simp at hu; subst hu; rfl) (by unfold maxLen; omega) (by omega) (by have := CX.size; omega) ?_; intro v9 w9 hown9 hgrow9 hx9 hat9; have rw6 := row6.out.of_block (hgrow9.block b6 row6.out.lt hne6); have d61 := rw6.cell (i := 1) (by decide); have f61 := rw6.frozen 1; have hpush := hid (H5.out.push hR0 hb6 CX hcr (by simp) HV HA hrl hown9 hgrow9 hat9); obtain ⟨a9, c9, rfl⟩ := own_sliceU9 hown9; clear hown9 hgrow9 hx9 hat9 rw6))
      obtain ⟨es, hes⟩ : ∃ es : List CRow, es = ds ++ [⟨some ⟨w5.heap.size, 0, none⟩, 1, [1]⟩] := ⟨_, rfl⟩
      have hds : ds.length + 1 = es.length := by rw [hes]; simp
      rw [← hes] at hpush
      rw [hds] at hpush ⊢
      clear hes k61 CX hOw hnw hcr row6 d61 f61
      obtain ⟨wf, hwf⟩ : ∃ wf, wf = w9.setCell ⟨b6, 1, none⟩ (.slice a9 es.length c9) := ⟨_, rfl⟩
      rw [← hwf] at hpush ⊢
      clear hwf
      have c50 : wf.cell? ⟨w2.heap.size, 0, none⟩ = some (.int .i64 m) := hpush.out.2.2.1.cell (i := 0) (by decide)
      have c51 : wf.cell? ⟨w2.heap.size, 1, none⟩ = some (.slice A ds.length c) := hpush.out.2.2.1.cell (i := 1) (by decide)
      have c60 : wf.cell? ⟨b6, 0, none⟩ = some (.int .i64 m) := hpush.out.2.2.2.1.cell (i := 0) (by decide)
      have c61 : wf.cell? ⟨b6, 1, none⟩ = some (.slice a9 es.length c9) := hpush.out.2.2.2.1.cell (i := 1) (by decide)
      have qd := (Below.refl wf.heap.size wf).drew
      refine region_planC (fun W => (W.cell? ⟨w2.heap.size, 0, none⟩ = some (.int .i64 m) ∧ W.cell? ⟨w2.heap.size, 1, none⟩ = some (.slice A ds.length c)) ∧ W.cell? ⟨b6, 0, none⟩ = some (.int .i64 m) ∧ W.cell? ⟨b6, 1, none⟩ = some (.slice a9 es.length c9)) (.takes [0, 1] (.make 2 .fin)) 3 rfl (by kernel_rfl) ⟨⟨carry qd c50, carry qd c51⟩, carry qd c60, carry qd c61⟩ ?_
      have HF := hid (hpush.out.below qd)
      replace c50 := carry qd c50
      replace c51 := carry qd c51
      replace c60 := carry qd c60
      replace c61 := carry qd c61
      clear qd
      generalize wf.drew = x2 at *
      refine plan_takes ?_; simp only [pickOps, List.getElem?_cons_zero, List.getElem?_cons_succ]
      refine quiet_doC rfl (.agg #[.int .i64 m, .slice A ds.length c]) (fun W hW => by exact run_load2C rfl (by kernel_rfl) Try.underlying25 rfl (by kernel_rfl) hW.1.1 hW.1.2) ?_
      refine quiet_doC rfl (.agg #[.int .i64 m, .slice a9 es.length c9]) (fun W hW => by exact run_load2C rfl (by kernel_rfl) Try.underlying25 rfl (by kernel_rfl) hW.2.1 hW.2.2) ?_
      refine wpQuiet_nil ?_
      simp only [Act.put, List.setIfInBounds_toArray, List.set_cons_succ, List.set_cons_zero]
      have hineq := HF.out.2.2.2.2.2.2.2.2
      have hneA : w2.heap.size ≠ w.heap.size := by omega
      have hneB : b6 ≠ w.heap.size := by omega
      refine planC_store2 rfl rfl _ _ _ rfl w.heap.size (.int .i64 m) (.slice A ds.length c) (by kernel_rfl) (by kernel_rfl) (there2 HF.out.1) (by kernel_rfl) (by simp [Value.oneCell']) ⟨⟨set2o hneA c50, set2o hneA c51⟩, set2o hneB c60, set2o hneB c61⟩ ?_
      refine plan_fin ?_
      simp only [List.drop_succ_cons, List.drop_zero, Act.put, List.setIfInBounds_toArray, List.set_cons_succ, List.set_cons_zero]
      have hne2 : w.heap.size + 1 ≠ w.heap.size := by omega
      have rA0 : x2.cell? ⟨w.heap.size, 0, none⟩ = some (.int .i64 0) := HF.out.1.cell (i := 0) (by decide)
      have rA1 : x2.cell? ⟨w.heap.size, 1, none⟩ = some (.slice none 0 0) := HF.out.1.cell (i := 1) (by decide)
      obtain ⟨s0, s1⟩ := set2c rA0 rA1 (.int .i64 m) (.slice A ds.length c)
      have rB0 := set2o (x0 := .int .i64 m) (x1 := .slice A ds.length c) hne2 (show x2.cell? ⟨w.heap.size + 1, 0, none⟩ = some (.int .i64 0) from HF.out.2.1.cell (i := 0) (by decide))
      have rB1 := set2o (x0 := .int .i64 m) (x1 := .slice A ds.length c) hne2 (show x2.cell? ⟨w.heap.size + 1, 1, none⟩ = some (.slice none 0 0) from HF.out.2.1.cell (i := 1) (by decide))
      have rw2 := (HF.out.2.1.setOther (a := ⟨w.heap.size, 0, none⟩) (by simp) (.int .i64 m)).setOther (a := ⟨w.heap.size, 1, none⟩) (by simp) (.slice A ds.length c)
      have fB0 := rw2.frozen 0
      have fB1 := rw2.frozen 1
      have lB := rw2.lt
      obtain ⟨_, _, k3, k4, k5, k6, k7, _, k8⟩ := HF.out
      have K5 := hid k5; have K6 := hid k6; have K7 := hid k7
      have nA0 : (Value.slice A ds.length c).ownBlock ≠ some w.heap.size := fun e => by have := (k5.1.lt _ e).1; omega
      have nA1 : (Value.slice A ds.length c).ownBlock ≠ some (w.heap.size + 1) := fun e => by have := (k5.1.lt _ e).1; omega
      have n60 : (Value.slice a9 es.length c9).ownBlock ≠ some w.heap.size := fun e => by have := (k6.1.lt _ e).1; omega
      have n61 : (Value.slice a9 es.length c9).ownBlock ≠ some (w.heap.size + 1) := fun e => by have := (k6.1.lt _ e).1; omega
      have hlw : w.heap.size < w1.heap.size ∧ w.heap.size + 1 < w1.heap.size := by omega
      clear k3 k4 k5 k6 k7 c50 c51 c60 c61 rA0 rA1 rw2 hneA hneB HF hineq
      obtain ⟨x3, hx3⟩ : ∃ x3, x3 = (x2.setCell ⟨w.heap.size, 0, none⟩ (.int .i64 m)).setCell ⟨w.heap.size, 1, none⟩ (.slice A ds.length c) := ⟨_, rfl⟩
      have HX3 := hid hx3
      rw [← hx3] at s0 s1 rB0 rB1 fB0 fB1 lB ⊢
      clear hx3
      go_wp2
      obtain ⟨t0, t1⟩ := set2c rB0 rB1 (.int .i64 m) (.slice a9 es.length c9)
      have u0 := set2o (x0 := .int .i64 m) (x1 := .slice a9 es.length c9) (Ne.symm hne2) s0
      have u1 := set2o (x0 := .int .i64 m) (x1 := .slice a9 es.length c9) (Ne.symm hne2) s1
      refine bodyPost_ret (v := .tuple #[.agg #[.int .i64 m, .slice A ds.length c], .agg #[.int .i64 m, .slice a9 es.length c9]]) (by simp [results, Try.results15, go_sem, t0, t1, u0, u1]) rfl ⟨m, A, c, ds, m, a9, c9, es, rfl, by omega, (by omega), ?_, K5.out.n61, ?_, K6.out.n61, ?_⟩
      · rw [HX3.out]
        exact ((((K5.out.set hlw.1 nA0).set hlw.1 nA0).set hlw.2 nA1).set hlw.2 nA1).intss
      · rw [HX3.out]
        exact ((((K6.out.set hlw.1 n60).set hlw.1 n60).set hlw.2 n61).set hlw.2 n61).intss
      · rw [HX3.out]
        exact bst (bst (bst (bst K7.out (Nat.le_refl _) _) (Nat.le_refl _) _) (by simp) _) (by simp) _
    · have d0 : (x == 0) = false := by simpa using z0
      by_cases z1 : x = 1
      · subst z1
        have c50 : w5.cell? ⟨w2.heap.size, 0, none⟩ = some (.int .i64 m) := H5.out.2.2.1.cell (i := 0) (by decide)
        have c51 : w5.cell? ⟨w2.heap.size, 1, none⟩ = some (.slice A ds.length c) := H5.out.2.2.1.cell (i := 1) (by decide)
        go_upto_region 8 with fail
        have qd := (Below.refl w5.heap.size w5).drew
        refine region_planC (fun W => W.cell? ⟨w2.heap.size, 0, none⟩ = some (.int .i64 m) ∧ W.cell? ⟨w2.heap.size, 1, none⟩ = some (.slice A ds.length c)) (.takes [0, 1] (.make 2 .fin)) 3 rfl (by kernel_rfl) ⟨carry qd c50, carry qd c51⟩ ?_
        have HF := hid (H5.out.below qd)
        replace c50 := carry qd c50
        replace c51 := carry qd c51
        clear qd
        generalize w5.drew = x2 at *
        refine plan_takes ?_; simp only [pickOps, List.getElem?_cons_zero, List.getElem?_cons_succ]
        refine quiet_doC rfl (.agg #[.int .i64 m, .slice A ds.length c]) (fun W hW => by exact run_load2C rfl (by kernel_rfl) Try.underlying25 rfl (by kernel_rfl) hW.1 hW.2) ?_
        refine quiet_doC rfl (.pointer (some ⟨g, 0, none⟩)) (fun _ _ => by kernel_rfl) ?_
        refine wpQuiet_nil ?_
        simp only [Act.put, List.setIfInBounds_toArray, List.set_cons_succ, List.set_cons_zero]
        obtain ⟨p8, hp8, hR8⟩ := HF.out.2.2.2.2.2.2.2.1
        have hineq := HF.out.2.2.2.2.2.2.2.2
        have hx2 := HF.out.2.2.1.lt
        refine planC_call rfl rfl 28 #[.pointer (some ⟨g, 0, none⟩)] (by kernel_rfl) ?_
        refine (l10cnf_any B x2 g p8 hR8 (by omega)).mono ?_
        rintro e w7 ⟨m', A', c', ds', p', rfl, hm1', hm2', hdl', hc1', hc2', hCL', hg7, hR7, hp7⟩
        have c70 := grow_cell hg7 (by omega) c50
        have c71 := grow_cell hg7 (by omega) c51
        refine ⟨_, rfl, ⟨c70, c71⟩, ?_⟩
        have H7 := hid (HF.out.grow (P' := p') hg7 ⟨p', Nat.le_refl _, hR7⟩)
        have hlx2 : w1.heap.size ≤ x2.heap.size := by omega
        refine plan_fin ?_
        simp only [List.drop_succ_cons, List.drop_zero, Act.put, List.setIfInBounds_toArray, List.set_cons_succ, List.set_cons_zero]
        have hne2 : w.heap.size + 1 ≠ w.heap.size := by omega
        have rA0 : w7.cell? ⟨w.heap.size, 0, none⟩ = some (.int .i64 0) := H7.out.1.cell (i := 0) (by decide)
        have rA1 : w7.cell? ⟨w.heap.size, 1, none⟩ = some (.slice none 0 0) := H7.out.1.cell (i := 1) (by decide)
        have fA0 := H7.out.1.frozen 0
        have fA1 := H7.out.1.frozen 1
        have lA := H7.out.1.lt
        obtain ⟨s0, s1⟩ := set2c rA0 rA1 (.int .i64 m) (.slice A ds.length c)
        have rB0 := set2o (x0 := .int .i64 m) (x1 := .slice A ds.length c) hne2 (show w7.cell? ⟨w.heap.size + 1, 0, none⟩ = some (.int .i64 0) from H7.out.2.1.cell (i := 0) (by decide))
        have rB1 := set2o (x0 := .int .i64 m) (x1 := .slice A ds.length c) hne2 (show w7.cell? ⟨w.heap.size + 1, 1, none⟩ = some (.slice none 0 0) from H7.out.2.1.cell (i := 1) (by decide))
        have rw2 := (H7.out.2.1.setOther (a := ⟨w.heap.size, 0, none⟩) (by simp) (.int .i64 m)).setOther (a := ⟨w.heap.size, 1, none⟩) (by simp) (.slice A ds.length c)
        have fB0 := rw2.frozen 0
        have fB1 := rw2.frozen 1
        have lB := rw2.lt
        have K5 := hid H7.out.2.2.2.2.1
        have K7 := hid H7.out.2.2.2.2.2.2.1
        have K8 := hid hCL'
        have nA0 : (Value.slice A ds.length c).ownBlock ≠ some w.heap.size := fun e => by have := (K5.out.1.lt _ e).1; omega
        have nA1 : (Value.slice A ds.length c).ownBlock ≠ some (w.heap.size + 1) := fun e => by have := (K5.out.1.lt _ e).1; omega
        have n60 : (Value.slice A' ds'.length c').ownBlock ≠ some w.heap.size := fun e => by have := (K8.out.1.lt _ e).1; omega
        have n61 : (Value.slice A' ds'.length c').ownBlock ≠ some (w.heap.size + 1) := fun e => by have := (K8.out.1.lt _ e).1; omega
        have hlw : w.heap.size < w1.heap.size ∧ w.heap.size + 1 < w1.heap.size := by omega
        have hlw2 : w.heap.size < x2.heap.size ∧ w.heap.size + 1 < x2.heap.size := by omega
        clear c50 c51 c70 c71 rw2 HF hineq hCL' hg7 hR7 H7 hR8 H5
        go_wp2
        obtain ⟨t0, t1⟩ := set2c rB0 rB1 (.int .i64 m') (.slice A' ds'.length c')
        have u0 := set2o (x0 := .int .i64 m') (x1 := .slice A' ds'.length c') (Ne.symm hne2) s0
        have u1 := set2o (x0 := .int .i64 m') (x1 := .slice A' ds'.length c') (Ne.symm hne2) s1
        refine bodyPost_ret (v := .tuple #[.agg #[.int .i64 m, .slice A ds.length c], .agg #[.int .i64 m', .slice A' ds'.length c']]) (by simp [results, Try.results15, go_sem, t0, t1, u0, u1]) rfl ⟨m, A, c, ds, m', A', c', ds', rfl, by omega, by omega, ?_, K5.out.n61, ?_, K8.out.n61, ?_⟩
        · exact ((((K5.out.set hlw.1 nA0).set hlw.1 nA0).set hlw.2 nA1).set hlw.2 nA1).intss
        · exact ((((K8.out.set hlw2.1 n60).set hlw2.1 n60).set hlw2.2 n61).set hlw2.2 n61).intss
        · exact bst (bst (bst (bst K7.out (Nat.le_refl _) _) (Nat.le_refl _) _) (by simp) _) (by simp) _
      · have d1 : (x == 1) = false := by simpa using z1
        clear z0 z1
        go_upto_region 9 with fail
        obtain ⟨wf, hwf⟩ : ∃ wf, wf = w5 := ⟨_, rfl⟩
        rw [← hwf] at H5 ⊢
        clear hwf
        have c50 : wf.cell? ⟨w2.heap.size, 0, none⟩ = some (.int .i64 m) := H5.out.2.2.1.cell (i := 0) (by decide)
        have c51 : wf.cell? ⟨w2.heap.size, 1, none⟩ = some (.slice A ds.length c) := H5.out.2.2.1.cell (i := 1) (by decide)
        have c60 : wf.cell? ⟨b6, 0, none⟩ = some (.int .i64 m) := H5.out.2.2.2.1.cell (i := 0) (by decide)
        have c61 : wf.cell? ⟨b6, 1, none⟩ = some (.slice a5 ds.length c5) := H5.out.2.2.2.1.cell (i := 1) (by decide)
        have qd := (Below.refl wf.heap.size wf).drew
        refine region_planC (fun W => (W.cell? ⟨w2.heap.size, 0, none⟩ = some (.int .i64 m) ∧ W.cell? ⟨w2.heap.size, 1, none⟩ = some (.slice A ds.length c)) ∧ W.cell? ⟨b6, 0, none⟩ = some (.int .i64 m) ∧ W.cell? ⟨b6, 1, none⟩ = some (.slice a5 ds.length c5)) (.takes [0, 1] (.make 2 .fin)) 3 rfl (by kernel_rfl) ⟨⟨carry qd c50, carry qd c51⟩, carry qd c60, carry qd c61⟩ ?_
        have HF := hid (H5.out.below qd)
        replace c50 := carry qd c50
        replace c51 := carry qd c51
        replace c60 := carry qd c60
        replace c61 := carry qd c61
        clear qd
        generalize wf.drew = x2 at *
        refine plan_takes ?_; simp only [pickOps, List.getElem?_cons_zero, List.getElem?_cons_succ]
        refine quiet_doC rfl (.agg #[.int .i64 m, .slice A ds.length c]) (fun W hW => by exact run_load2C rfl (by kernel_rfl) Try.underlying25 rfl (by kernel_rfl) hW.1.1 hW.1.2) ?_
        refine quiet_doC rfl (.agg #[.int .i64 m, .slice a5 ds.length c5]) (fun W hW => by exact run_load2C rfl (by kernel_rfl) Try.underlying25 rfl (by kernel_rfl) hW.2.1 hW.2.2) ?_
        refine wpQuiet_nil ?_
        simp only [Act.put, List.setIfInBounds_toArray, List.set_cons_succ, List.set_cons_zero]
        have hineq := HF.out.2.2.2.2.2.2.2.2
        have hneA : w2.heap.size ≠ w.heap.size := by omega
        have hneB : b6 ≠ w.heap.size := by omega
        refine planC_store2 rfl rfl _ _ _ rfl w.heap.size (.int .i64 m) (.slice A ds.length c) (by kernel_rfl) (by kernel_rfl) (there2 HF.out.1) (by kernel_rfl) (by simp [Value.oneCell']) ⟨⟨set2o hneA c50, set2o hneA c51⟩, set2o hneB c60, set2o hneB c61⟩ ?_
        refine plan_fin ?_
        simp only [List.drop_succ_cons, List.drop_zero, Act.put, List.setIfInBounds_toArray, List.set_cons_succ, List.set_cons_zero]
        have hne2 : w.heap.size + 1 ≠ w.heap.size := by omega
        have rA0 : x2.cell? ⟨w.heap.size, 0, none⟩ = some (.int .i64 0) := HF.out.1.cell (i := 0) (by decide)
        have rA1 : x2.cell? ⟨w.heap.size, 1, none⟩ = some (.slice none 0 0) := HF.out.1.cell (i := 1) (by decide)
        obtain ⟨s0, s1⟩ := set2c rA0 rA1 (.int .i64 m) (.slice A ds.length c)
        have rB0 := set2o (x0 := .int .i64 m) (x1 := .slice A ds.length c) hne2 (show x2.cell? ⟨w.heap.size + 1, 0, none⟩ = some (.int .i64 0) from HF.out.2.1.cell (i := 0) (by decide))
        have rB1 := set2o (x0 := .int .i64 m) (x1 := .slice A ds.length c) hne2 (show x2.cell? ⟨w.heap.size + 1, 1, none⟩ = some (.slice none 0 0) from HF.out.2.1.cell (i := 1) (by decide))
        have rw2 := (HF.out.2.1.setOther (a := ⟨w.heap.size, 0, none⟩) (by simp) (.int .i64 m)).setOther (a := ⟨w.heap.size, 1, none⟩) (by simp) (.slice A ds.length c)
        have fB0 := rw2.frozen 0
        have fB1 := rw2.frozen 1
        have lB := rw2.lt
        obtain ⟨_, _, k3, k4, k5, k6, k7, _, k8⟩ := HF.out
        have K5 := hid k5; have K6 := hid k6; have K7 := hid k7
        have nA0 : (Value.slice A ds.length c).ownBlock ≠ some w.heap.size := fun e => by have := (k5.1.lt _ e).1; omega
        have nA1 : (Value.slice A ds.length c).ownBlock ≠ some (w.heap.size + 1) := fun e => by have := (k5.1.lt _ e).1; omega
        have n60 : (Value.slice a5 ds.length c5).ownBlock ≠ some w.heap.size := fun e => by have := (k6.1.lt _ e).1; omega
        have n61 : (Value.slice a5 ds.length c5).ownBlock ≠ some (w.heap.size + 1) := fun e => by have := (k6.1.lt _ e).1; omega
        have hlw : w.heap.size < w1.heap.size ∧ w.heap.size + 1 < w1.heap.size := by omega
        clear k3 k4 k5 k6 k7 c50 c51 c60 c61 rA0 rA1 rw2 hneA hneB HF hineq
        obtain ⟨x3, hx3⟩ : ∃ x3, x3 = (x2.setCell ⟨w.heap.size, 0, none⟩ (.int .i64 m)).setCell ⟨w.heap.size, 1, none⟩ (.slice A ds.length c) := ⟨_, rfl⟩
        have HX3 := hid hx3
        rw [← hx3] at s0 s1 rB0 rB1 fB0 fB1 lB ⊢
        clear hx3
        go_wp2
        obtain ⟨t0, t1⟩ := set2c rB0 rB1 (.int .i64 m) (.slice a5 ds.length c5)
        have u0 := set2o (x0 := .int .i64 m) (x1 := .slice a5 ds.length c5) (Ne.symm hne2) s0
        have u1 := set2o (x0 := .int .i64 m) (x1 := .slice a5 ds.length c5) (Ne.symm hne2) s1
        refine bodyPost_ret (v := .tuple #[.agg #[.int .i64 m, .slice A ds.length c], .agg #[.int .i64 m, .slice a5 ds.length c5]]) (by simp [results, Try.results15, go_sem, t0, t1, u0, u1]) rfl ⟨m, A, c, ds, m, a5, c5, ds, rfl, by omega, (by omega), ?_, K5.out.n61, ?_, K6.out.n61, ?_⟩
        · rw [HX3.out]
          exact ((((K5.out.set hlw.1 nA0).set hlw.1 nA0).set hlw.2 nA1).set hlw.2 nA1).intss
        · rw [HX3.out]
          exact ((((K6.out.set hlw.1 n60).set hlw.1 n60).set hlw.2 n61).set hlw.2 n61).intss
        · rw [HX3.out]
          exact bst (bst (bst (bst K7.out (Nat.le_refl _) _) (Nat.le_refl _) _) (by simp) _) (by simp) _
end Go.Proofs.Ytoechhdahokoiaa
