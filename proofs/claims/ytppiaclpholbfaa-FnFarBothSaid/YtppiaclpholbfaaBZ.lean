/- Several texts in one: FrI, FrJ, FrK, FrL, FrM, FrN, FrO, FrP, FrQ, FrW. -/
import Derived.Test.YtppiaclpholbfaaBJ
import Derived.Test.YtppiaclpholbfaaBX
import Derived.Test.YtppiaclpholbfaaFarH
import Derived.Test.YtppiaclpholbfaaBY
import Derived.Test.YtppiaclpholbfaaLinY
import Derived.Test.YtppiaclpholbfaaBI
import Derived.Test.YtppiaclpholbfaaFarQ
import Derived.Test.YtppiaclpholbfaaMark
import Derived.Test.YtppiaclpholbfaaEqI
namespace Go.Proofs.Ytppiaclpholbfaa
set_option linter.unusedVariables false
set_option linter.unusedSimpArgs false
open Go.RowKit
/-- how solveRows ends -/
inductive SolE where
  | none
  | clash (r : FRw)
  | vals (V : Option ((Nat → Int) × (Nat → Int)))
def solE (l : List FRw) : SolE :=
  if okE l 4 = false then .none
  else match (rowsE l 4).find? badF with
    | some r => .clash r
    | Option.none => .vals (backV l 4)
def SolP (w : World) (S : SolE) (e : Ending) (w' : World) : Prop :=
  ∃ A m c p, e = .returned (.tuple #[.slice A m c, .pointer p]) ∧ Below w.heap.size w w' ∧ match S with
    | .none => A = Option.none ∧ m = 0 ∧ c = 0 ∧ p = Option.none
    | .clash r => A = Option.none ∧ m = 0 ∧ c = 0 ∧ ∃ g, p = some ⟨g, 0, Option.none⟩ ∧ RowA w' g r
    | .vals V => p = Option.none ∧ (V = Option.none → A = Option.none ∧ m = 0 ∧ c = 0) ∧ ∀ X, V = some X → m = 4 ∧ c = 4 ∧ ∃ g, A = some ⟨g, 0, Option.none⟩ ∧ w.heap.size ≤ g ∧ w'.rowIs g 85 8 (ratV X.1 X.2)
/-- the block of the lists that the steps were given -/
def BefR (w : World) (B : Nat) (F : Nat → Value) : Prop := w.rowIs B 69 4 F ∧ (∀ v, v < 4 → ∃ a n c, F v = .slice a n c) ∧ ∀ o, w.frozen? ⟨B, o, none⟩ = false
theorem BefR.sl {w : World} {B v : Nat} {F : Nat → Value} {A : Option Addr} {ps : List PF} {u : Value} (h : BefR w B F) (hs : SlF w A ps) : SlF (w.setCell ⟨B, v, none⟩ u) A ps := by
  rcases hs with hs | ⟨g, off, ha, hg, hc⟩
  · exact .inl hs
  · by_cases e : g = B
    · refine .inl ?_
      cases ps with
      | nil => rfl
      | cons p ps =>
        exfalso
        have h0 := hc 0 p rfl
        subst e
        by_cases ho : off + 0 < 4
        · obtain ⟨a, n, c, hF⟩ := h.2.1 _ ho
          rw [h.1.cell ho, hF] at h0
          cases h0
        · obtain ⟨⟨cs, hcs, hz, hv⟩, _⟩ := h
          simp only [World.cell?, hcs, Option.bind_some] at h0
          have h5 : cs[off]? = none := Array.getElem?_eq_none (by omega)
          simp [h5] at h0
    · exact .inr ⟨g, off, ha, by simpa [World.setCell] using hg, fun k p hk => by rw [World.cell?_setCell_other _ _ _ _ (by simp [e])]; exact hc k p hk⟩
theorem BefR.rw' {w : World} {B v : Nat} {F : Nat → Value} {ps : List PF} {u : Value} (h : BefR w B F) (hs : Rws w ps) : Rws (w.setCell ⟨B, v, none⟩ u) ps := fun p hp => by
  have h1 := hs p hp
  refine h1.of_block ((grow_set w B v u).block p.1 h1.lt (fun e => ?_))
  injection e with e
  obtain ⟨⟨cs, hcs, _⟩, _⟩ := h
  obtain ⟨cs', hcs', _⟩ := h1
  rw [e, hcs] at hcs'
  injection hcs' with hcs'
  injection hcs' with _ e2 _
  revert e2
  decide
theorem BefR.set {w : World} {B v n c : Nat} {F : Nat → Value} {a : Option Addr} (h : BefR w B F) : BefR (w.setCell ⟨B, v, none⟩ (.slice a n c)) B (fun i => if i = v then .slice a n c else F i) :=
  ⟨h.1.set v _, fun i hi => by
    by_cases e : i = v
    · exact ⟨a, n, c, if_pos e⟩
    · obtain ⟨a', n', c', h'⟩ := h.2.1 i hi
      exact ⟨a', n', c', (if_neg e).trans h'⟩, fun o => by simpa [go_sem] using h.2.2 o⟩
theorem BefR.below {w w' : World} {B : Nat} {F : Nat → Value} (h : BefR w B F) (hb : Below w.heap.size w w') : BefR w' B F := ⟨row_below h.1 hb, h.2.1, fun o => carryf hb (h.2.2 o) h.1.lt⟩
/-- the state of solveRows behind j steps -/
structure SolS (w : World) (l : List FRw) (n B g x : Nat) (ys : List Nat) (j : Nat) (A : Option Addr) (c : Nat) (ps : List PF) (PS : Nat → List PF) (F : Nat → Value) (wr : World) : Prop where
  below : Below w.heap.size w wr
  sl : SlF wr A ps
  rows : Rws wr ps
  map : ps.map Prod.snd = rowsE l j
  ok : okE l j = true
  bef : BefR wr B F
  ps : ∀ v, v < 4 → 3 - v < j → ∃ a c, F v = .slice a (PS v).length c ∧ SlF wr a (PS v) ∧ Rws wr (PS v) ∧ (PS v).map Prod.snd = rowsE l (3 - v)
  cx : wr.cell? ⟨x, 0, none⟩ = some (.pointer (some ⟨B, 0, none⟩))
  st : ∀ (k y : Nat), ys[k]? = some y → B < y ∧ wr.cell? ⟨g, k, none⟩ = some (stepV x y) ∧ wr.cell? ⟨y, 0, none⟩ = some (.int .i64 (3 - (k : Int)))
  gB : B < g
  xB : B < x
  cl : wr.cell? ⟨w.heap.size, 0, none⟩ = some (.pointer none)
  fz : wr.frozen? ⟨w.heap.size, 0, none⟩ = false
theorem SolS.next {w wr w0 w' : World} {l : List FRw} {n B g x j c c' m' : Nat} {ys : List Nat} {A A' : Option Addr} {ps qs : List PF} {PS : Nat → List PF} {F : Nat → Value} (h : SolS w l n B g x ys j A c ps PS F wr) (hj : j < 4) (hwB : w.heap.size < B) (hb0 : Below wr.heap.size wr w0) (hb' : Below (w0.setCell ⟨B, 3 - j, none⟩ (.slice A ps.length c)).heap.size (w0.setCell ⟨B, 3 - j, none⟩ (.slice A ps.length c)) w')
    (hd : dropOk (3 - j) (rowsE l j) = true) (hs : SlF w' A' qs) (hr : Rws w' qs) (hm : qs.map Prod.snd = dropL (3 - j) (rowsE l j)) :
    SolS w l n B g x ys (j + 1) A' c' qs (fun v => if v = 3 - j then ps else PS v) (fun v => if v = 3 - j then .slice A ps.length c else F v) w' := by
  have hB0 := h.bef.below hb0
  have kc : ∀ b o v, b ≠ B → wr.cell? ⟨b, o, none⟩ = some v → w'.cell? ⟨b, o, none⟩ = some v := fun b o v hne hc => carry hb' (by
    rw [World.cell?_setCell_other _ _ _ _ (by simp [hne])]; exact carry hb0 hc)
  refine ⟨?_, hs, hr, hm, ?_, (hB0.set).below hb', fun v hv hvj => ?_, kc _ _ _ (by have := h.xB; omega) h.cx, fun k y hk => ?_, h.gB, h.xB, kc _ _ _ (by omega) h.cl, ?_⟩
  · exact btr (bst (btr h.below hb0) (p := ⟨B, 3 - j, none⟩) (by simp only; omega) _) hb'
  · unfold okE; rw [h.ok, hd]; rfl
  · by_cases e : v = 3 - j
    · subst e
      refine ⟨A, c, by rw [if_pos rfl, if_pos rfl], ?_, ?_, ?_⟩
      · rw [if_pos rfl]; exact (hB0.sl (h.sl.below hb0)).below hb'
      · rw [if_pos rfl]; exact (hB0.rw' (h.rows.below hb0)).below hb'
      · rw [if_pos rfl, show 3 - (3 - j) = j by omega]; exact h.map
    · obtain ⟨a, c2, h1, h2, h3, h4⟩ := h.ps v hv (by omega)
      refine ⟨a, c2, by rw [if_neg e, if_neg e]; exact h1, ?_, ?_, by rw [if_neg e]; exact h4⟩
      · rw [if_neg e]; exact (hB0.sl (h2.below hb0)).below hb'
      · rw [if_neg e]; exact (hB0.rw' (h3.below hb0)).below hb'
  · obtain ⟨h1, h2, h3⟩ := h.st k y hk
    exact ⟨h1, kc _ _ _ (by have := h.gB; omega) h2, kc _ _ _ (by omega) h3⟩
  · have hl := cell_lt h.cl
    have f0 := carryf hb0 h.fz hl
    have f1 : (w0.setCell ⟨B, 3 - j, none⟩ (.slice A ps.length c)).frozen? ⟨w.heap.size, 0, none⟩ = false := by simpa [go_sem] using f0
    have hl1 : w.heap.size < (w0.setCell ⟨B, 3 - j, none⟩ (.slice A ps.length c)).heap.size := by
      have := hb0.size
      have h6 : (w0.setCell ⟨B, 3 - j, none⟩ (.slice A ps.length c)).heap.size = w0.heap.size := by simp [World.setCell]
      rw [h6]
      have h7 : w.heap.size < wr.heap.size := hl
      omega
    exact carryf hb' f1 hl1
end Go.Proofs.Ytppiaclpholbfaa

namespace Go.Proofs.Ytppiaclpholbfaa
set_option linter.unusedVariables false
set_option linter.unusedSimpArgs false
open Go.RowKit
theorem cells4s : ∀ i, i < 4 → (#[Value.slice none 0 0, .slice none 0 0, .slice none 0 0, .slice none 0 0] : Array Value)[i]? = some ((fun _ => Value.slice none 0 0) i)
  | 0, _ => rfl
  | 1, _ => rfl
  | 2, _ => rfl
  | 3, _ => rfl
  | n + 4, h => absurd h (by omega)
theorem solE_no {l : List FRw} {j : Nat} (h : okE l j = true) (hj : j < 4) (hd : dropOk (3 - j) (rowsE l j) = false) : solE l = .none := by
  have h2 : okE l (j + 1) = false := by unfold okE; rw [h, hd]; rfl
  unfold solE; rw [if_pos (okE_no h2 (by omega))]
theorem solE_yes {l : List FRw} (h : okE l 4 = true) : solE l = match (rowsE l 4).find? badF with
    | some r => .clash r
    | none => .vals (backV l 4) := by
  unfold solE
  rw [if_neg (by rw [h]; simp)]
  all_goals (cases (rowsE l 4).find? badF <;> rfl)
theorem RowA.clash {w : World} {a B : Nat} {r : FRw} {v : Value} (h : RowA w a r) (hc : w.cell? ⟨B, 0, none⟩ = some (.pointer none)) : RowA (w.setCell ⟨B, 0, none⟩ v) a r := by
  refine h.of_block ((grow_set w B 0 v).block a h.lt (fun e => ?_))
  injection e with e
  subst e
  have h0 := h.cell (show 0 < 26 by omega)
  rw [hc] at h0
  simp [frV] at h0
set_option maxRecDepth 100000 in
set_option maxHeartbeats 16000000 in
theorem solverows_any (A : Option Addr) (c n : Nat) (ps0 : List PF) (w : World) (hn : n ≤ 20) (hl : ps0.length ≤ 200) (hA : SlF w A ps0) (hR : Rws w ps0) (hok : ∀ p ∈ ps0, p.2.ok n) :
    Calls Try.prog 19 #[.slice A ps0.length c] w (SolP w (solE (ps0.map Prod.snd))) := by
  have hmf : ∀ (fn : Fn) (first cap : Array Value) (w : World), (Instr.makeFunc fn first cap).run Try.prog w = .ok (.func fn first cap) w := fun _ _ _ _ => rfl
  obtain ⟨l, hlm⟩ : ∃ l, l = ps0.map Prod.snd := ⟨_, rfl⟩
  rw [← hlm]
  have hll : l.length ≤ 200 := by rw [hlm, List.length_map]; exact hl
  have hlo : ∀ r ∈ l, r.ok n := fun r hr => by rw [hlm] at hr; obtain ⟨p, hp, rfl⟩ := List.mem_map.1 hr; exact hok p hp
  have HLO := hid (rowsE_ok hn hlo)
  have HLL := hid (rowsE_len hll)
  have HM0 := hid hlm
  clear hll hlo hok hlm
  have qb := bal (bal (Below.refl w.heap.size w) (.cells #[.pointer none] 53)) (.cells #[.slice none 0 0, .slice none 0 0, .slice none 0 0, .slice none 0 0] 69)
  have hp0 : ((w.alloc (.cells #[.pointer none] 53)).alloc (.cells #[.slice none 0 0, .slice none 0 0, .slice none 0 0, .slice none 0 0] 69)).cell? ⟨w.heap.size, 0, none⟩ = some (.pointer none) := by simp [go_sem]
  have hpf : ((w.alloc (.cells #[.pointer none] 53)).alloc (.cells #[.slice none 0 0, .slice none 0 0, .slice none 0 0, .slice none 0 0] 69)).frozen? ⟨w.heap.size, 0, none⟩ = false := by simp [go_sem]
  have hbr := World.rowIs_alloc (w.alloc (.cells #[.pointer none] 53)) #[.slice none 0 0, .slice none 0 0, .slice none 0 0, .slice none 0 0] 69 _ cells4s
  rw [World.size_alloc] at hbr
  have hbR : BefR ((w.alloc (.cells #[.pointer none] 53)).alloc (.cells #[.slice none 0 0, .slice none 0 0, .slice none 0 0, .slice none 0 0] 69)) (w.heap.size + 1) (fun _ => .slice none 0 0) := ⟨hbr, fun v hv => ⟨_, _, _, rfl⟩, fun o => by simp [go_sem]⟩
  clear hbr
  go_enter_defers Try.func19, Try.ntmps19
  go_upto_region 3 with fail
  generalize (w.alloc (.cells #[.pointer none] 53)).alloc (.cells #[.slice none 0 0, .slice none 0 0, .slice none 0 0, .slice none 0 0] 69) = w0 at *
  go_wp2_with fail
  refine (farsteps_any (w.heap.size + 1) w0).mono ?_
  rintro e w1 ⟨g, cs, x, ys, rfl, hb1, hyl, hx, hxB, hgB, hst⟩
  have lB := hbR.1.lt
  have hS0 := hid (show SolS w l n (w.heap.size + 1) g x ys 0 A c ps0 (fun _ => []) (fun _ => .slice none 0 0) w1 from
    ⟨btr qb hb1, hA.below (btr qb hb1), hR.below (btr qb hb1), HM0.out.symm, rfl, hbR.below hb1, fun v hv h => absurd h (by omega), hx, fun k y hk => by
      obtain ⟨h1, h2, h3⟩ := hst k y hk
      exact ⟨by omega, h2, h3⟩, by omega, by omega, carry hb1 hp0, carryf hb1 hpf (cell_lt hp0)⟩)
  have HYL := hid hyl
  clear hA hR hbR hp0 hpf hx hst qb hb1 hyl hxB hgB lB
  go_wp2
  go_loopw [0, 2, 12] (fun r r2 i wr => ∃ (j : Nat) (A : Option Addr) (c : Nat) (ps : List PF) (PS : Nat → List PF) (F : Nat → Value), j ≤ 4 ∧ i = .int .i64 j ∧ r = .slice A ps.length c ∧ r2 = .slice none 0 0 ∧ SolS w l n (w.heap.size + 1) g x ys j A c ps PS F wr) (fun _ _ i _ => 4 - (intOf i).toNat)
  case atStart => exact ⟨0, A, c, ps0, _, _, Nat.zero_le _, rfl, rfl, rfl, hS0.out⟩
  case round =>
    clear hS0
    obtain ⟨j, A, c, ps, PS, F, hj, rfl, rfl, rfl, hS⟩ := hrel
    have HS := hid hS; clear hS
    have d0 : decide ((j : Int) < 4) = decide (j < 4) := by congr 1; exact propext ⟨fun h => by omega, fun h => by omega⟩
    by_cases hlt : j < 4
    · obtain ⟨y, hy⟩ : ∃ y, ys[j]? = some y := ⟨_, List.getElem?_eq_getElem (by rw [HYL.out]; exact hlt)⟩
      obtain ⟨hyB, hgj, hyc⟩ := HS.out.st j y hy
      rw [show (3 : Int) - (j : Int) = ((3 - j : Nat) : Int) by omega] at hyc
      have hx := HS.out.cx
      have hcl := HS.out.cl
      have hlg := HLL.out j HS.out.ok
      rw [← HS.out.map, List.length_map] at hlg
      have hlk := HLO.out j (by omega) HS.out.ok
      rw [← HS.out.map] at hlk
      have hBc := HS.out.bef.1.cell (show 3 - j < 4 by omega)
      have hBf := HS.out.bef.2.2 (3 - j)
      have hC := hid (step_any A c (3 - j) n (w.heap.size + 1) x y ps (F (3 - j)) wr (by omega) hn hlg (fun p hp => hlk p.2 (List.mem_map.2 ⟨p, hp, rfl⟩)) hx hyc hBc hBf (by omega) (fun w0 h => ⟨(HS.out.bef.below h).sl (HS.out.sl.below h), (HS.out.bef.below h).rw' (HS.out.rows.below h)⟩))
      have lg := cell_lt hgj
      clear hyc hx hBc hBf hlk
      unfold stepV at hgj
      go_upto_region 6 with fail
      go_wp2_with fail
      refine hC.out.mono ?_
      rintro e w2 ⟨w9, hb9, A4, m4, c4, qs, rfl, hb4, hq⟩
      rw [HS.out.map] at hq ⊢
      have hcl2 : w2.cell? ⟨w.heap.size, 0, none⟩ = some (.pointer none) := carry hb4 (by rw [World.cell?_setCell_other _ _ _ _ (by simp)]; exact carry hb9 hcl)
      have hz2 : w2.frozen? ⟨w.heap.size, 0, none⟩ = false := carryf hb4 (by simpa [go_sem] using carryf hb9 HS.out.fz (cell_lt hcl)) (by
        have := hb9.size; have h7 : w.heap.size < wr.heap.size := cell_lt hcl; simp [World.setCell]; omega)
      have hbw : Below w.heap.size w w2 := btr (bst (btr HS.out.below hb9) (p := ⟨w.heap.size + 1, 3 - j, none⟩) (by simp only; omega) _) hb4
      have HB9 := hid hb9; have HB4 := hid hb4; have HQ := hid hq; have HBW := hid hbw
      have hdn := hid (fun h => solE_no HS.out.ok hlt h)
      have hdy := hid (fun h => HS.out.next (c' := c4) (m' := m4) hlt (by omega) hb9 hb4 h (hq h).2.1 (hq h).2.2.1 (hq h).2.2.2)
      clear hb9 hb4 hq hbw hC hgj lg
      generalize dropOk (3 - j) (rowsE l j) = bd at HQ hdn hdy
      cases bd with
      | false =>
        have hN := hid (hdn.out rfl)
        clear hdn hdy HQ
        go_wp2
        refine leaves_cons (f := 29) (args := #[.pointer (some ⟨w.heap.size, 0, none⟩)]) (by simp) (by simp [go_sem]) ?_
        refine (catch_idle _ _).mono ?_
        rintro e u' w'' ⟨rfl, rfl, rfl⟩
        have hc5 := World.cell?_setCell_same' _ _ (.pointer none) (by rw [hcl2]; rfl)
        have hb5 := bst HBW.out (p := ⟨w.heap.size, 0, none⟩) (Nat.le_refl _) (.pointer none)
        generalize w2.setCell ⟨w.heap.size, 0, none⟩ (.pointer none) = w5 at *
        simp [Leaves, settle, results, Try.results19, go_sem, hc5]
        rw [hN.out]
        exact ⟨_, _, _, _, rfl, hb5, rfl, rfl, rfl, rfl⟩
      | true =>
        have hS2 := hid (hdy.out rfl)
        obtain ⟨hml, _⟩ := HQ.out rfl
        subst hml
        clear hdn hdy HQ hcl2 hz2 hcl
        go_wp2
        go_roundw
        case rel => exact ⟨j + 1, A4, c4, qs, _, _, by omega, by go_num, rfl, rfl, hS2.out⟩
        case measure => simp [intOf]; omega
    · have hje : j = 4 := by omega
      subst hje
      have hcl := HS.out.cl
      have hfz := HS.out.fz
      have hlg := HLL.out 4 HS.out.ok
      rw [← HS.out.map, List.length_map] at hlg
      have hlk := HLO.out 4 (by omega) HS.out.ok
      rw [← HS.out.map] at hlk
      have hC := hid (refute_any A c n ps wr hlg HS.out.sl HS.out.rows (fun p hp => hlk p.2 (List.mem_map.2 ⟨p, hp, rfl⟩)))
      have hY := hid (solE_yes HS.out.ok)
      rw [HS.out.map] at hC
      generalize (rowsE l 4).find? badF = R at hC hY
      clear hlg hlk
      clear hj hlt d0
      have d0 : decide (((4 : Nat) : Int) < 4) = false := by decide
      go_wp2_with fail
      refine hC.out.mono ?_
      rintro e w2 ⟨hb2, hq⟩
      cases R with
      | some r =>
        obtain ⟨a, rfl, hra⟩ := hq
        have hcl2 := carry hb2 hcl
        have hz2 := carryf hb2 hfz (cell_lt hcl)
        have hbw := btr HS.out.below hb2
        have hN := hid hY.out
        show Leaves _ _ _ _ _ _ _
        refine leaves_cons (f := 29) (args := #[.pointer (some ⟨w.heap.size, 0, none⟩)]) (by simp) (by simp [go_sem]) ?_
        refine (catch_panicking _ _ _ [] _ hcl2 hz2).mono ?_
        rintro e u' w'' ⟨rfl, rfl, rfl⟩
        have hra5 := hra.clash (v := .pointer (some ⟨a, 0, none⟩)) hcl2
        have hc5 := World.cell?_setCell_same' _ _ (.pointer (some ⟨a, 0, none⟩)) (by rw [hcl2]; rfl)
        have hb5 := bst hbw (p := ⟨w.heap.size, 0, none⟩) (Nat.le_refl _) (.pointer (some ⟨a, 0, none⟩))
        generalize w2.setCell ⟨w.heap.size, 0, none⟩ (.pointer (some ⟨a, 0, none⟩)) = w5 at *
        simp [Leaves, settle, results, Try.results19, go_sem, hc5]
        rw [hN.out]
        exact ⟨_, _, _, _, rfl, hb5, rfl, rfl, rfl, a, rfl, hra5⟩
      | none =>
        subst hq
        have hcl2 := carry hb2 hcl
        have hz2 := carryf hb2 hfz (cell_lt hcl)
        have hbw := btr HS.out.below hb2
        have hN := hid hY.out
        have hA := hid (assign_any (w.heap.size + 1) n l PS w2 (BefA.below (fun i hi => by
          obtain ⟨a, c, h1, h2, h3, h4⟩ := HS.out.ps i hi (by omega)
          exact ⟨a, c, by rw [← h1]; exact HS.out.bef.1.cell hi, h2, h3⟩) hb2) (fun i hi => by
          obtain ⟨a, c, h1, h2, h3, h4⟩ := HS.out.ps i hi (by omega)
          have := HLL.out (3 - i) (okE_le HS.out.ok (by omega)); rw [← h4, List.length_map] at this; exact this) (fun i hi p hp => by
          obtain ⟨a, c, h1, h2, h3, h4⟩ := HS.out.ps i hi (by omega)
          have := HLO.out (3 - i) (by omega) (okE_le HS.out.ok (by omega)); rw [← h4] at this; exact this p.2 (List.mem_map.2 ⟨p, hp, rfl⟩)) (fun i hi => by
          obtain ⟨a, c, h1, h2, h3, h4⟩ := HS.out.ps i hi (by omega)
          exact h4))
        clear hC
        simp only []
        go_wp2_with fail
        refine hA.out.mono ?_
        rintro e w3 ⟨A4, m4, c4, rfl, hb3, hn4, hs4⟩
        have hcl3 := carry hb3 hcl2
        have hz3 := carryf hb3 hz2 (cell_lt hcl2)
        have hb4 := btr hbw hb3
        have hl4 := hid hb2.size
        have hsl : w.heap.size < wr.heap.size := cell_lt hcl
        have HN4 := hid hn4; have HS4 := hid hs4
        clear hA hn4 hs4 hcl2 hz2 hb2 hb3 hcl hfz
        go_wp2
        refine leaves_cons (f := 29) (args := #[.pointer (some ⟨w.heap.size, 0, none⟩)]) (by simp) (by simp [go_sem]) ?_
        refine (catch_idle _ _).mono ?_
        rintro e u' w'' ⟨rfl, rfl, rfl⟩
        have hc5 := World.cell?_setCell_same' _ _ (.pointer none) (by rw [hcl3]; rfl)
        have hb5 := bst hb4 (p := ⟨w.heap.size, 0, none⟩) (Nat.le_refl _) (.pointer none)
        have hg5 := hid (fun (g : Nat) (V : Nat → Value) (hg : w2.heap.size ≤ g) (hr : w3.rowIs g 85 8 V) => hr.setOther (a := ⟨w.heap.size, 0, none⟩) (by have h7 : w.heap.size < w2.heap.size := Nat.lt_of_lt_of_le hsl hl4.out; show g ≠ w.heap.size; omega) (.pointer none))
        generalize w3.setCell ⟨w.heap.size, 0, none⟩ (.pointer none) = w5 at *
        simp [Leaves, settle, results, Try.results19, go_sem, hc5]
        rw [hN.out]
        refine ⟨_, _, _, _, rfl, hb5, rfl, HN4.out, fun X hX => ?_⟩
        obtain ⟨h1, h2, g, h3, h4, h5⟩ := HS4.out X hX
        exact ⟨h1, h2, g, h3, Nat.le_trans hbw.size h4, hg5.out g _ h4 h5⟩
end Go.Proofs.Ytppiaclpholbfaa

namespace Go.Proofs.Ytppiaclpholbfaa
set_option linter.unusedVariables false
set_option linter.unusedSimpArgs false
open Go.RowKit
def FarE.m : FarE → Nat
  | .yes _ _ => 4
  | _ => 0
def FarE.k (n : Nat) : FarE → Nat
  | .no _ => n
  | _ => 0
def FarE.N : FarE → Nat → Int
  | .yes N _ => N
  | _ => fun _ => 0
def FarE.D : FarE → Nat → Int
  | .yes _ D => D
  | _ => fun _ => 0
def FarE.U : FarE → Nat → Int
  | .no U => U
  | _ => fun _ => 0
def FarE.code : FarE → Int
  | .yes _ _ => 0
  | .no _ => 1
  | .much => 2
  | .form => 3
/-- nothing, or fractions in a block of [lo, hi) -/
def RatB (lo hi : Nat) (w : World) (A : Option Addr) (m : Nat) (N D : Nat → Int) : Prop :=
  m = 0 ∨ ∃ g, A = some ⟨g, 0, none⟩ ∧ lo ≤ g ∧ g < hi ∧ w.rowIs g 85 (m * 2) (ratV N D)
/-- nothing, or numbers in a block of [lo, hi) -/
def IntR (lo hi : Nat) (w : World) (A : Option Addr) (m : Nat) (Z : Nat → Int) : Prop :=
  m = 0 ∨ ∃ g, A = some ⟨g, 0, none⟩ ∧ lo ≤ g ∧ g < hi ∧ w.rowIs g 3 m (fun k => .int .i64 (Z k))
theorem allB_zero (n : Nat) (L : Lst) (N D : Nat → Int) : allB n L 0 N D = false := by
  cases e : allB n L 0 N D
  · rfl
  · have := (allB_iff.1 e).2.2
    rw [valsB_len (by omega)] at this
    cases this
def RunP (w : World) (n : Nat) (R : FarE) (e : Ending) (w' : World) : Prop :=
  ∃ A c B d, e = .returned (.tuple #[.slice A R.m c, .slice B (R.k n) d, .int .i64 R.code]) ∧ Below w.heap.size w w' ∧ RatB w.heap.size w'.heap.size w' A R.m R.N R.D ∧ IntR w.heap.size w'.heap.size w' B (R.k n) R.U
theorem RunP.much {w w' : World} {n : Nat} {R : FarE} (h : R = .much) (hb : Below w.heap.size w w') : RunP w n R (.returned (.tuple #[.slice none 0 0, .slice none 0 0, .int .i64 2])) w' := by
  subst h; exact ⟨none, 0, none, 0, rfl, hb, .inl rfl, .inl rfl⟩
theorem RunP.form {w w' : World} {n : Nat} {R : FarE} (h : R = .form) (hb : Below w.heap.size w w') : RunP w n R (.returned (.tuple #[.slice none 0 0, .slice none 0 0, .int .i64 3])) w' := by
  subst h; exact ⟨none, 0, none, 0, rfl, hb, .inl rfl, .inl rfl⟩
theorem RunP.no {w w' : World} {n g d : Nat} {U : Nat → Int} {R : FarE} (h : R = .no U) (hb : Below w.heap.size w w') (hg : w.heap.size ≤ g) (hr : w'.rowIs g 3 n (fun k => .int .i64 (U k))) : RunP w n R (.returned (.tuple #[.slice none 0 0, .slice (some ⟨g, 0, none⟩) n d, .int .i64 1])) w' := by
  subst h; exact ⟨none, 0, _, d, rfl, hb, .inl rfl, .inr ⟨g, rfl, hg, hr.lt, hr⟩⟩
theorem RunP.yes {w w' : World} {n g c : Nat} {N D : Nat → Int} {R : FarE} (h : R = .yes N D) (hb : Below w.heap.size w w') (hg : w.heap.size ≤ g) (hr : w'.rowIs g 85 8 (ratV N D)) : RunP w n R (.returned (.tuple #[.slice (some ⟨g, 0, none⟩) 4 c, .slice none 0 0, .int .i64 0])) w' := by
  subst h; exact ⟨_, c, none, 0, rfl, hb, .inr ⟨g, rfl, hg, hr.lt, hr⟩, .inl rfl⟩
theorem runE_form {n : Nat} {L : Lst} (h : okS n L = false) : runE n L = .form := by unfold runE; rw [if_pos h]
/-- what is answered, from how solveRows ends -/
def runS (n : Nat) (L : Lst) : SolE → FarE
  | .none => .much
  | .clash r => if farOkB (farS n L n r.U) = true then .no r.U else .much
  | .vals none => .much
  | .vals (some V) => if allB n L 4 V.1 V.2 = true then .yes V.1 V.2 else .much
theorem runE_sol {n : Nat} {L : Lst} (h : okS n L = true) : runE n L = runS n L (solE (givenL n L)) := by
  unfold runE solE
  rw [if_neg (by rw [h]; simp)]
  by_cases e : okE (givenL n L) 4 = false
  · rw [if_pos e, if_pos e]; rfl
  · rw [if_neg e, if_neg e]
    cases (rowsE (givenL n L) 4).find? badF with
    | some r => rfl
    | none => cases e2 : backV (givenL n L) 4 <;> simp [runS, e2]
set_option maxRecDepth 100000 in
set_option maxHeartbeats 8000000 in
theorem farrun_any (A : Option Addr) (n c : Nat) (L : Lst) (w : World) (hn : n ≤ 9223372036854775806) (hA : Lins w A n L) (hN : ∀ k, k < n → L.N k ≤ 1048576) :
    Calls Try.prog 9 #[.slice A n c] w (RunP w n (runE n L)) := by
  have hG := given_any A n c L w hn hA hN
  generalize hr : runE n L = R
  have HR := hid hr; clear hr
  cases hok : okS n L with
  | false =>
    have HF := hid (runE_form hok)
    rw [HR.out] at HF
    unfold GivenP at hG
    rw [hok] at hG
    clear hok hA hN hn
    go_enter Try.func9, Try.ntmps9
    go_wp2_with fail
    refine hG.mono ?_
    rintro e w1 ⟨x, rfl, hb, _, hx⟩
    obtain rfl := hx (by trivial)
    clear hG
    go_wp2
    go_ret3
    exact RunP.form HF.out hb
  | true =>
    have HOK := hid hok
    have HF := hid (runE_sol hok)
    rw [HR.out] at HF
    unfold GivenP at hG
    rw [hok] at hG
    clear hok
    have hn20 := (okS_iff.1 HOK.out).1
    have HA := hid hA
    have HN := hid hN
    clear hA hN hn
    go_enter Try.func9, Try.ntmps9
    go_wp2_with fail
    refine hG.mono ?_
    rintro e w1 ⟨x, rfl, hb, hx, _⟩
    obtain ⟨g, G, rfl, hS, hRw⟩ := (hx (by trivial)).sl
    clear hG hx
    have hE := solverows_any (some ⟨g, 0, none⟩) n n (givenF n L G) w1 hn20 (by rw [givenF_len]; omega) hS hRw (fun p hp => given_ok HOK.out p.2 (by rw [← givenF_map n L G]; exact List.mem_map_of_mem hp))
    rw [givenF_len, givenF_map] at hE
    generalize solE (givenL n L) = S at hE HF
    clear hS hRw
    go_wp2_with fail
    refine hE.mono ?_
    clear hE
    rintro e w2 ⟨A2, m, c2, p2, rfl, hb2, hq⟩
    cases S with
    | none =>
      obtain ⟨rfl, rfl, rfl, rfl⟩ := hq
      have hC := farall_any A n c L none 0 0 (fun _ => 0) (fun _ => 0) w2 (by omega) (HA.out.below (btr hb hb2)) HN.out (by omega) (.inl rfl)
      rw [allB_zero] at hC
      have HF := hid (show R = .much from HF.out)
      go_wp2_with fail
      refine hC.mono ?_
      rintro e w3 ⟨rfl, hb3⟩
      clear hC
      go_wp2
      go_ret3
      exact RunP.much HF.out (btr (btr hb hb2) hb3)
    | clash r =>
      obtain ⟨rfl, rfl, rfl, g2, rfl, hra⟩ := hq
      have hC := mults_any g2 n r w2 hn20 hra
      clear hra
      go_wp2_with fail
      refine hC.mono ?_
      rintro e w3 ⟨g3, rfl, hg3, hr3, hb3⟩
      clear hC
      have hF := farok_any A n c L (some ⟨g3, 0, none⟩) n n r.U w3 (by omega) (HA.out.below (btr (btr hb hb2) hb3)) (by omega) (.inr ⟨g3, 0, rfl, hr3.lt, fun k hk => by rw [Nat.zero_add]; exact hr3.cell hk⟩) HN.out
      have hf1 := hid (fun h : farOkB (farS n L n r.U) = true => (show R = .no r.U from HF.out.trans (if_pos h)))
      have hf2 := hid (fun h : farOkB (farS n L n r.U) = false => (show R = .much from HF.out.trans (if_neg (by rw [h]; simp))))
      generalize farOkB (farS n L n r.U) = b at hF hf1 hf2
      have HR3 := hid hr3
      clear hr3
      cases b with
      | true =>
        have hf := hid (hf1.out rfl)
        clear hf1 hf2
        go_wp2_with fail
        refine hF.mono ?_
        rintro e w4 ⟨rfl, hb4⟩
        clear hF
        go_wp2
        go_ret3
        exact RunP.no hf.out (btr (btr (btr hb hb2) hb3) hb4) (by have := (btr hb hb2).size; omega) (row_below HR3.out hb4)
      | false =>
        have hf := hid (hf2.out rfl)
        clear hf1 hf2
        go_wp2_with fail
        refine hF.mono ?_
        rintro e w4 ⟨rfl, hb4⟩
        clear hF
        go_wp2
        go_ret3
        exact RunP.much hf.out (btr (btr (btr hb hb2) hb3) hb4)
    | vals V =>
      obtain ⟨rfl, hV1, hV2⟩ := hq
      cases V with
      | none =>
        obtain ⟨rfl, rfl, rfl⟩ := hV1 rfl
        have hC := farall_any A n c L none 0 0 (fun _ => 0) (fun _ => 0) w2 (by omega) (HA.out.below (btr hb hb2)) HN.out (by omega) (.inl rfl)
        rw [allB_zero] at hC
        have HF := hid (show R = .much from HF.out)
        clear hV1 hV2
        go_wp2_with fail
        refine hC.mono ?_
        rintro e w3 ⟨rfl, hb3⟩
        clear hC
        go_wp2
        go_ret3
        exact RunP.much HF.out (btr (btr hb hb2) hb3)
      | some V =>
        obtain ⟨rfl, rfl, g2, rfl, hg2, hr2⟩ := hV2 V rfl
        have hC := farall_any A n c L (some ⟨g2, 0, none⟩) 4 4 V.1 V.2 w2 (by omega) (HA.out.below (btr hb hb2)) HN.out (by omega) (Rats.of_row hr2)
        have hf1 := hid (fun h : allB n L 4 V.1 V.2 = true => (show R = .yes V.1 V.2 from HF.out.trans (if_pos h)))
        have hf2 := hid (fun h : allB n L 4 V.1 V.2 = false => (show R = .much from HF.out.trans (if_neg (by rw [h]; simp))))
        generalize allB n L 4 V.1 V.2 = b at hC hf1 hf2
        have HR2 := hid hr2
        clear hV1 hV2 hr2
        cases b with
        | true =>
          have hf := hid (hf1.out rfl)
          clear hf1 hf2
          go_wp2_with fail
          refine hC.mono ?_
          rintro e w4 ⟨rfl, hb4⟩
          clear hC
          go_wp2
          go_ret3
          exact RunP.yes hf.out (btr (btr hb hb2) hb4) (by have := hb.size; omega) (row_below HR2.out hb4)
        | false =>
          have hf := hid (hf2.out rfl)
          clear hf1 hf2
          go_wp2_with fail
          refine hC.mono ?_
          rintro e w4 ⟨rfl, hb4⟩
          clear hC
          go_wp2
          go_ret3
          exact RunP.much hf.out (btr (btr hb hb2) hb4)
end Go.Proofs.Ytppiaclpholbfaa

namespace Go.Proofs.Ytppiaclpholbfaa
set_option linter.unusedVariables false
set_option linter.unusedSimpArgs false
open Go.RowKit
theorem SlP.mk {w w' : World} {r : Int × Int × Bool} {x y : Int} {v : Bool} (h : r = (x, y, v)) (hb : Below w.heap.size w w') : SlP w r (.returned (.tuple #[.agg #[.int .i64 x, .int .i64 y], .bool v])) w' := by
  subst h; exact ⟨x, y, rfl, (fun e => by simp at e; rw [e]), hb⟩
/-- at the loop's head: the result still empty, the rest -/
def ReS (w : World) (r : FRw) (v : Nat) (N D : Nat → Int) (k : Nat) (wr : World) : Prop :=
  Below w.heap.size w wr ∧ wr.cell? ⟨w.heap.size + 1, 0, none⟩ = some (.int .i64 0) ∧ wr.cell? ⟨w.heap.size + 1, 1, none⟩ = some (.int .i64 0) ∧ wr.frozen? ⟨w.heap.size + 1, 0, none⟩ = false ∧ wr.frozen? ⟨w.heap.size + 1, 1, none⟩ = false ∧
  wr.frozen? ⟨w.heap.size + 1 + 1, 0, none⟩ = false ∧ wr.frozen? ⟨w.heap.size + 1 + 1, 1, none⟩ = false ∧
  ∃ x y, rstS r v N D k = (x, y, true) ∧ wr.cell? ⟨w.heap.size + 1 + 1, 0, none⟩ = some (.int .i64 x) ∧ wr.cell? ⟨w.heap.size + 1 + 1, 1, none⟩ = some (.int .i64 y)
end Go.Proofs.Ytppiaclpholbfaa

namespace Go.Proofs.Ytppiaclpholbfaa
set_option linter.unusedVariables false
set_option linter.unusedSimpArgs false
open Go.RowKit
def Rm.l1 (m : Rm) : Int := match m.lo with
  | some a => a.1
  | none => 0
def Rm.l2 (m : Rm) : Int := match m.lo with
  | some a => a.2
  | none => 0
def Rm.h1 (m : Rm) : Int := match m.hi with
  | some a => a.1
  | none => 0
def Rm.h2 (m : Rm) : Int := match m.hi with
  | some a => a.2
  | none => 0
def Rm.isL (m : Rm) : Bool := m.lo.isSome
def Rm.isH (m : Rm) : Bool := m.hi.isSome
/-- what l3Bad answers -/
def SBadP (w : World) (n : Nat) (R : Option FRw) (e : Ending) (w' : World) : Prop :=
  ∃ A k c, e = .returned (.slice A k c) ∧ Below w.heap.size w w' ∧ match R with
    | none => k = 0
    | some r => k = n ∧ Ints w' A n r.U
end Go.Proofs.Ytppiaclpholbfaa

namespace Go.Proofs.Ytppiaclpholbfaa
set_option linter.unusedVariables false
set_option linter.unusedSimpArgs false
open Go.RowKit
def endC (m : Rm) : Nat → Value
  | 0 => .int .i64 m.l1
  | 1 => .int .i64 m.l2
  | 2 => .int .i64 m.h1
  | 3 => .int .i64 m.h2
  | 4 => .bool m.isL
  | _ => .bool m.isH
theorem lt6 {i : Nat} (h : i < 6) : i = 0 ∨ i = 1 ∨ i = 2 ∨ i = 3 ∨ i = 4 ∨ i = 5 := by omega
theorem row6 {w : World} {g : Nat} {T : TypeId} {f : Nat → Value} (h : w.rowIs g T 6 f) (m : Rm) :
    ((((((w.setCell ⟨g, 0, none⟩ (.int .i64 m.l1)).setCell ⟨g, 1, none⟩ (.int .i64 m.l2)).setCell ⟨g, 2, none⟩ (.int .i64 m.h1)).setCell ⟨g, 3, none⟩ (.int .i64 m.h2)).setCell ⟨g, 4, none⟩ (.bool m.isL)).setCell ⟨g, 5, none⟩ (.bool m.isH)).rowIs g T 6 (endC m) :=
  ((((((h.set 0 _).set 1 _).set 2 _).set 3 _).set 4 _).set 5 _).congr (fun i hi => by rcases lt6 hi with rfl | rfl | rfl | rfl | rfl | rfl <;> rfl)
theorem rowHi {w : World} {g : Nat} {T : TypeId} {m : Rm} {x y : Int} (h : w.rowIs g T 6 (endC m)) :
    (((w.setCell ⟨g, 2, none⟩ (.int .i64 x)).setCell ⟨g, 3, none⟩ (.int .i64 y)).setCell ⟨g, 5, none⟩ (.bool true)).rowIs g T 6 (endC ⟨m.lo, some (x, y)⟩) :=
  (((h.set 2 _).set 3 _).set 5 _).congr (fun i hi => by rcases lt6 hi with rfl | rfl | rfl | rfl | rfl | rfl <;> rfl)
theorem rowLo {w : World} {g : Nat} {T : TypeId} {m : Rm} {x y : Int} (h : w.rowIs g T 6 (endC m)) :
    (((w.setCell ⟨g, 0, none⟩ (.int .i64 x)).setCell ⟨g, 1, none⟩ (.int .i64 y)).setCell ⟨g, 4, none⟩ (.bool true)).rowIs g T 6 (endC ⟨some (x, y), m.hi⟩) :=
  (((h.set 0 _).set 1 _).set 4 _).congr (fun i hi => by rcases lt6 hi with rfl | rfl | rfl | rfl | rfl | rfl <;> rfl)
theorem ends0 : ∀ i, i < 6 → (#[Value.int .i64 0, .int .i64 0, .int .i64 0, .int .i64 0, .bool false, .bool false] : Array Value)[i]? = some (endC rm0 i)
  | 0, _ => rfl
  | 1, _ => rfl
  | 2, _ => rfl
  | 3, _ => rfl
  | 4, _ => rfl
  | 5, _ => rfl
  | n + 6, h => absurd h (by omega)
/-- what l3Bounds answers -/
def EndP (w : World) (R : Option Rm) (e : Ending) (w' : World) : Prop :=
  ∃ m : Rm, e = .returned (.tuple #[.agg #[.int .i64 m.l1, .int .i64 m.l2, .int .i64 m.h1, .int .i64 m.h2, .bool m.isL, .bool m.isH], .bool R.isSome]) ∧ Below w.heap.size w w' ∧ ∀ m', R = some m' → m' = m
theorem EndP.no {w w' : World} {R : Option Rm} {m : Rm} (h : R = none) (hb : Below w.heap.size w w') : EndP w R (.returned (.tuple #[.agg #[.int .i64 m.l1, .int .i64 m.l2, .int .i64 m.h1, .int .i64 m.h2, .bool m.isL, .bool m.isH], .bool false])) w' := by
  subst h; exact ⟨m, rfl, hb, fun m' e => by cases e⟩
theorem EndP.yes {w w' : World} {R : Option Rm} {m : Rm} (h : R = some m) (hb : Below w.heap.size w w') : EndP w R (.returned (.tuple #[.agg #[.int .i64 m.l1, .int .i64 m.l2, .int .i64 m.h1, .int .i64 m.h2, .bool m.isL, .bool m.isH], .bool true])) w' := by
  subst h; exact ⟨m, rfl, hb, fun m' e => by injection e with e; exact e.symm⟩
end Go.Proofs.Ytppiaclpholbfaa

namespace Go.Proofs.Ytppiaclpholbfaa
set_option linter.unusedVariables false
set_option linter.unusedSimpArgs false
open Go.RowKit
def flatZ : Nat → List Value
  | 0 => []
  | k + 1 => flatZ k ++ [.int .i64 0, .int .i64 1]
/-- four fractions in the block g, to read and to write -/
def RO (w : World) (g : Nat) (N D : Nat → Int) : Prop :=
  g < w.heap.size ∧ (∀ k, k < 4 → w.cell? ⟨g, k * 2, none⟩ = some (.int .i64 (N k)) ∧ w.cell? ⟨g, k * 2 + 1, none⟩ = some (.int .i64 (D k))) ∧ ∀ o, w.frozen? ⟨g, o, none⟩ = false
theorem RO.below {w w' : World} {g : Nat} {N D : Nat → Int} (h : RO w g N D) (hb : Below w.heap.size w w') : RO w' g N D :=
  ⟨Nat.lt_of_lt_of_le h.1 hb.size, fun k hk => ⟨carry hb (h.2.1 k hk).1, carry hb (h.2.1 k hk).2⟩, fun o => carryf hb (h.2.2 o) h.1⟩
theorem RO.rats {w : World} {g : Nat} {N D : Nat → Int} (h : RO w g N D) : Rats w (some ⟨g, 0, none⟩) 4 N D :=
  .inr ⟨g, 0, rfl, h.1, fun k hk => by rw [Nat.zero_add]; exact h.2.1 k hk⟩
theorem RO.set {w : World} {g k : Nat} {N D : Nat → Int} {x y : Int} (h : RO w g N D) (hk : k < 4) : RO ((w.setCell ⟨g, k * 2, none⟩ (.int .i64 x)).setCell ⟨g, k * 2 + 1, none⟩ (.int .i64 y)) g (updV N k x) (updV D k y) := by
  refine ⟨by simpa [World.setCell] using h.1, fun j hj => ?_, fun o => by simpa [go_sem] using h.2.2 o⟩
  by_cases e : j = k
  · subst e
    unfold updV
    rw [if_pos rfl, if_pos rfl]
    constructor
    · rw [World.cell?_setCell_other _ _ _ _ (by simp)]
      exact World.cell?_setCell_same' _ _ _ (by rw [(h.2.1 j hj).1]; rfl)
    · exact World.cell?_setCell_same' _ _ _ (by rw [World.cell?_setCell_other _ _ _ _ (by simp), (h.2.1 j hj).2]; rfl)
  · unfold updV
    rw [if_neg e, if_neg e]
    constructor
    · rw [World.cell?_setCell_other _ _ _ _ (by simp <;> omega), World.cell?_setCell_other _ _ _ _ (by simp <;> omega)]; exact (h.2.1 j hj).1
    · rw [World.cell?_setCell_other _ _ _ _ (by simp <;> omega), World.cell?_setCell_other _ _ _ _ (by simp <;> omega)]; exact (h.2.1 j hj).2
theorem own4 {w : World} {lo : Nat} {v : Value} (h : w.ownsRow lo 85 2 v 4 (flatZ 4)) : ∃ g c, v = .slice (some ⟨g, 0, none⟩) 4 c ∧ lo ≤ g ∧ RO w g (fun _ => 0) (fun _ => 1) := by
  have hc := fun g hg => h.cells (g := g) hg
  obtain ⟨_, ⟨e, h0⟩ | ⟨g, cap, cur, e, hg, hh, _⟩⟩ := h
  · omega
  · subst e
    refine ⟨g, cap, rfl, hg, (Array.getElem?_eq_some_iff.1 hh).1, fun k hk => ?_, fun o => by simp [World.frozen?, hh]⟩
    have hx : ∀ j x, (flatZ 4)[j]? = some x → w.cell? ⟨g, j, none⟩ = some x := fun j x hj => by
      have := hc g rfl j x hj
      rw [show (⟨g, 0, none⟩ : Addr).add j = ⟨g, j, none⟩ by unfold Addr.add; split <;> simp_all] at this
      exact this
    rcases lt4 hk with rfl | rfl | rfl | rfl <;> exact ⟨hx _ _ rfl, hx _ _ rfl⟩
/-- the lists of the steps, in the model's memory -/
def BefM (w : World) (S n : Nat) (ms : Nat → List MRow) : Prop := ∀ i, i < 4 → ∃ A c, w.cell? ⟨S, i, none⟩ = some (.slice A (ms i).length c) ∧ SlM n w A (ms i) ∧ ∀ m ∈ ms i, MRd n w m
theorem BefM.below {w w' : World} {S n : Nat} {ms : Nat → List MRow} (h : BefM w S n ms) (hb : Below w.heap.size w w') : BefM w' S n ms := fun i hi => by
  obtain ⟨A, c, h0, h1, h2⟩ := h i hi
  exact ⟨A, c, carry hb h0, h1.below hb, fun m hm => (h2 m hm).below hb⟩
/-- what l3Back answers -/
def BackP (w : World) (V : Option ((Nat → Int) × (Nat → Int))) (e : Ending) (w' : World) : Prop :=
  ∃ g c, e = .returned (.tuple #[.slice (some ⟨g, 0, none⟩) 4 c, .bool V.isSome]) ∧ Below w.heap.size w w' ∧ w.heap.size ≤ g ∧ ∀ X, V = some X → RO w' g X.1 X.2
theorem BackP.no {w w' : World} {V : Option ((Nat → Int) × (Nat → Int))} {g c : Nat} (h : V = none) (hb : Below w.heap.size w w') (hg : w.heap.size ≤ g) : BackP w V (.returned (.tuple #[.slice (some ⟨g, 0, none⟩) 4 c, .bool false])) w' := by
  subst h; exact ⟨g, c, rfl, hb, hg, fun X e => by cases e⟩
theorem BackP.yes {w w' : World} {V : Option ((Nat → Int) × (Nat → Int))} {X : (Nat → Int) × (Nat → Int)} {g c : Nat} (h : V = some X) (hb : Below w.heap.size w w') (hg : w.heap.size ≤ g) (hr : RO w' g X.1 X.2) : BackP w V (.returned (.tuple #[.slice (some ⟨g, 0, none⟩) 4 c, .bool true])) w' := by
  subst h; exact ⟨g, c, rfl, hb, hg, fun Y e => by injection e with e; subst e; exact hr⟩
theorem build_r1 (w : World) : (Instr.build 85 #[(1, .int .i64 1)]).run Try.prog w = .ok (.agg #[.int .i64 0, .int .i64 1]) w := by kernel_rfl
end Go.Proofs.Ytppiaclpholbfaa

namespace Go.Proofs.Ytppiaclpholbfaa
set_option linter.unusedVariables false
set_option linter.unusedSimpArgs false
open Go.RowKit
/-- nothing, or fractions in a block before z -/
def RatZ (z : Nat) (w : World) (A : Option Addr) (m : Nat) (N D : Nat → Int) : Prop :=
  m = 0 ∨ ∃ g off, A = some ⟨g, off, none⟩ ∧ g < z ∧ g < w.heap.size ∧ ∀ k, k < m → w.cell? ⟨g, off + k * 2, none⟩ = some (.int .i64 (N k)) ∧ w.cell? ⟨g, off + k * 2 + 1, none⟩ = some (.int .i64 (D k))
/-- nothing, or numbers in a block before z -/
def IntZ (z : Nat) (w : World) (A : Option Addr) (m : Nat) (Z : Nat → Int) : Prop :=
  m = 0 ∨ ∃ g off, A = some ⟨g, off, none⟩ ∧ g < z ∧ g < w.heap.size ∧ ∀ k, k < m → w.cell? ⟨g, off + k, none⟩ = some (.int .i64 (Z k))
def SRunP (w : World) (n : Nat) (R : FarE) (e : Ending) (w' : World) : Prop :=
  ∃ A c B d, e = .returned (.tuple #[.slice A R.m c, .slice B (R.k n) d, .int .i64 R.code]) ∧ Below w.heap.size w w' ∧ RatZ w'.heap.size w' A R.m R.N R.D ∧ IntZ w'.heap.size w' B (R.k n) R.U
theorem SRunP.much {w w' : World} {n c d : Nat} {A B : Option Addr} {R : FarE} (h : R = .much) (hb : Below w.heap.size w w') : SRunP w n R (.returned (.tuple #[.slice A 0 c, .slice B 0 d, .int .i64 2])) w' := by
  subst h; exact ⟨A, c, B, d, rfl, hb, .inl rfl, .inl rfl⟩
theorem SRunP.form {w w' : World} {n c d : Nat} {A B : Option Addr} {R : FarE} (h : R = .form) (hb : Below w.heap.size w w') : SRunP w n R (.returned (.tuple #[.slice A 0 c, .slice B 0 d, .int .i64 3])) w' := by
  subst h; exact ⟨A, c, B, d, rfl, hb, .inl rfl, .inl rfl⟩
theorem SRunP.no {w w' : World} {n c d : Nat} {A B : Option Addr} {U : Nat → Int} {R : FarE} (h : R = .no U) (hb : Below w.heap.size w w') (hr : Ints w' B n U) : SRunP w n R (.returned (.tuple #[.slice A 0 c, .slice B n d, .int .i64 1])) w' := by
  subst h
  refine ⟨A, c, B, d, rfl, hb, .inl rfl, ?_⟩
  rcases hr with h | ⟨g, off, ha, hg, hc⟩
  · exact .inl h
  · exact .inr ⟨g, off, ha, hg, hg, hc⟩
theorem SRunP.yes {w w' : World} {n g c d : Nat} {B : Option Addr} {N D : Nat → Int} {R : FarE} (h : R = .yes N D) (hb : Below w.heap.size w w') (hr : RO w' g N D) : SRunP w n R (.returned (.tuple #[.slice (some ⟨g, 0, none⟩) 4 c, .slice B 0 d, .int .i64 0])) w' := by
  subst h; exact ⟨_, c, B, d, rfl, hb, .inr ⟨g, 0, rfl, hr.1, hr.1, fun k hk => by rw [Nat.zero_add]; exact hr.2.1 k hk⟩, .inl rfl⟩
theorem rowsE_nil : ∀ j, rowsE [] j = []
  | 0 => rfl
  | j + 1 => by
    show dropL (3 - j) (rowsE [] j) = []
    rw [rowsE_nil j]
    rfl
end Go.Proofs.Ytppiaclpholbfaa

namespace Go.Proofs.Ytppiaclpholbfaa
set_option linter.unusedVariables false
set_option linter.unusedSimpArgs false
open Go.RowKit
/-- behind marks from k on -/
def RatM (lo hi : Nat) (w : World) (A : Option Addr) (m : Nat) (k : Int) : Prop :=
  m = 0 ∨ ∃ g, A = some ⟨g, 0, none⟩ ∧ lo ≤ g ∧ g < hi ∧ w.rowIs g 85 (m * 2) (fun t => .int .i64 (k + t))
theorem RatM.below {lo hi : Nat} {w w' : World} {A : Option Addr} {m : Nat} {k : Int} (h : RatM lo hi w A m k) (hb : Below w.heap.size w w') : RatM lo hi w' A m k :=
  h.imp id (fun ⟨g, h1, h2, h3, h4⟩ => ⟨g, h1, h2, h3, row_below h4 hb⟩)
theorem RatM.wrt {lo hi lo' hi' : Nat} {w w' : World} {A : Option Addr} {m : Nat} {k : Int} (h : RatM lo hi w A m k) (hg : Wrt lo' hi' w w') (hd : hi ≤ lo' ∨ hi' ≤ lo) : RatM lo hi w' A m k :=
  h.imp id (fun ⟨g, h1, h2, h3, h4⟩ => ⟨g, h1, h2, h3, h4.of_block (hg.block g h4.lt (by omega))⟩)
end Go.Proofs.Ytppiaclpholbfaa

namespace Go.Proofs.Ytppiaclpholbfaa
set_option linter.unusedVariables false
set_option linter.unusedSimpArgs false
open Go.RowKit
theorem RatZ.rats {z : Nat} {w : World} {A : Option Addr} {m : Nat} {N D : Nat → Int} (h : RatZ z w A m N D) : Rats w A m N D :=
  h.imp id (fun ⟨g, off, h1, _, h3, h4⟩ => ⟨g, off, h1, h3, h4⟩)
theorem IntZ.ints {z : Nat} {w : World} {A : Option Addr} {m : Nat} {Z : Nat → Int} (h : IntZ z w A m Z) : Ints w A m Z :=
  h.imp id (fun ⟨g, off, h1, _, h3, h4⟩ => ⟨g, off, h1, h3, h4⟩)
theorem RatZ.below {z : Nat} {w w' : World} {A : Option Addr} {m : Nat} {N D : Nat → Int} (h : RatZ z w A m N D) (hb : Below w.heap.size w w') : RatZ z w' A m N D :=
  h.imp id (fun ⟨g, off, h1, h2, h3, h4⟩ => ⟨g, off, h1, h2, Nat.lt_of_lt_of_le h3 hb.size, fun k hk => ⟨carry hb (h4 k hk).1, carry hb (h4 k hk).2⟩⟩)
theorem IntZ.below {z : Nat} {w w' : World} {A : Option Addr} {m : Nat} {Z : Nat → Int} (h : IntZ z w A m Z) (hb : Below w.heap.size w w') : IntZ z w' A m Z :=
  h.imp id (fun ⟨g, off, h1, h2, h3, h4⟩ => ⟨g, off, h1, h2, Nat.lt_of_lt_of_le h3 hb.size, fun k hk => carry hb (h4 k hk)⟩)
theorem RatZ.wrt {z lo hi : Nat} {w w' : World} {A : Option Addr} {m : Nat} {N D : Nat → Int} (h : RatZ z w A m N D) (hg : Wrt lo hi w w') (hd : z ≤ lo) : RatZ z w' A m N D :=
  h.imp id (fun ⟨g, off, h1, h2, h3, h4⟩ => ⟨g, off, h1, h2, Nat.lt_of_lt_of_le h3 hg.size, fun k hk => ⟨hg.cell (h4 k hk).1 (.inl (by omega)), hg.cell (h4 k hk).2 (.inl (by omega))⟩⟩)
theorem IntZ.wrt {z lo hi : Nat} {w w' : World} {A : Option Addr} {m : Nat} {Z : Nat → Int} (h : IntZ z w A m Z) (hg : Wrt lo hi w w') (hd : z ≤ lo) : IntZ z w' A m Z :=
  h.imp id (fun ⟨g, off, h1, h2, h3, h4⟩ => ⟨g, off, h1, h2, Nat.lt_of_lt_of_le h3 hg.size, fun k hk => hg.cell (h4 k hk) (.inl (by omega))⟩)
theorem RatB.below {lo hi : Nat} {w w' : World} {A : Option Addr} {m : Nat} {N D : Nat → Int} (h : RatB lo hi w A m N D) (hb : Below w.heap.size w w') : RatB lo hi w' A m N D :=
  h.imp id (fun ⟨g, h1, h2, h3, h4⟩ => ⟨g, h1, h2, h3, row_below h4 hb⟩)
theorem RatB.wrt {lo hi lo' hi' : Nat} {w w' : World} {A : Option Addr} {m : Nat} {N D : Nat → Int} (h : RatB lo hi w A m N D) (hg : Wrt lo' hi' w w') (hd : hi ≤ lo' ∨ hi' ≤ lo) : RatB lo hi w' A m N D :=
  h.imp id (fun ⟨g, h1, h2, h3, h4⟩ => ⟨g, h1, h2, h3, h4.of_block (hg.block g h4.lt (by omega))⟩)
theorem RatB.rats {lo hi : Nat} {w : World} {A : Option Addr} {m : Nat} {N D : Nat → Int} (h : RatB lo hi w A m N D) : Rats w A m N D := by
  rcases h with h | ⟨g, rfl, _, _, h4⟩
  · exact .inl h
  · exact Rats.of_row h4
theorem IntR.ownB {lo hi : Nat} {w : World} {A : Option Addr} {m : Nat} {Z : Nat → Int} (h : IntR lo hi w A m Z) : OwnB lo hi w A m Z := by
  rcases h with h | ⟨g, rfl, h2, h3, h4⟩
  · exact .inl h
  · exact .inr ⟨g, rfl, h2, h3, h4.lt, fun k hk => ⟨h4.cell hk, h4.frozen k⟩⟩
end Go.Proofs.Ytppiaclpholbfaa
