/- Several texts in one: FrI, FrJ, FrK, FrL, FrM, FrN, FrO, FrP, FrQ, FrW. -/
import Derived.Test.YtplocljoanaoeaaBJ
import Derived.Test.YtplocljoanaoeaaBX
import Derived.Test.YtplocljoanaoeaaB6
import Derived.Test.YtplocljoanaoeaaBY
import Derived.Test.YtplocljoanaoeaaLinY
import Derived.Test.YtplocljoanaoeaaBI
import Derived.Test.YtplocljoanaoeaaMark
import Derived.Test.YtplocljoanaoeaaEqI
namespace Go.Proofs.Ytplocljoanaoeaa
set_option linter.unusedVariables false
set_option linter.unusedSimpArgs false
open Go.RowKit
/-- how solveRows ends -/
inductive SolE where
  | none
  | clash (r : FRw)
  | vals (V : Option ((Nat → Int) × (Nat → Int)))
def solE (l : List FRw) : SolE :=
  if okE l 4 = false then .none
  else match (rowsE l 4).find? badF with
    | some r => .clash r
    | Option.none => .vals (backV l 4)
def SolP (w : World) (S : SolE) (e : Ending) (w' : World) : Prop :=
  ∃ A m c p, e = .returned (.tuple #[.slice A m c, .pointer p]) ∧ Below w.heap.size w w' ∧ match S with
    | .none => A = Option.none ∧ m = 0 ∧ c = 0 ∧ p = Option.none
    | .clash r => A = Option.none ∧ m = 0 ∧ c = 0 ∧ ∃ g, p = some ⟨g, 0, Option.none⟩ ∧ RowA w' g r
    | .vals V => p = Option.none ∧ (V = Option.none → A = Option.none ∧ m = 0 ∧ c = 0) ∧ ∀ X, V = some X → m = 4 ∧ c = 4 ∧ ∃ g, A = some ⟨g, 0, Option.none⟩ ∧ w.heap.size ≤ g ∧ w'.rowIs g 52 8 (ratV X.1 X.2)
/-- the block of the lists that the steps were given -/
def BefR (w : World) (B : Nat) (F : Nat → Value) : Prop := w.rowIs B 103 4 F ∧ (∀ v, v < 4 → ∃ a n c, F v = .slice a n c) ∧ ∀ o, w.frozen? ⟨B, o, none⟩ = false
theorem BefR.sl {w : World} {B v : Nat} {F : Nat → Value} {A : Option Addr} {ps : List PF} {u : Value} (h : BefR w B F) (hs : SlF w A ps) : SlF (w.setCell ⟨B, v, none⟩ u) A ps := by
  rcases hs with hs | ⟨g, off, ha, hg, hc⟩
  · exact .inl hs
  · by_cases e : g = B
    · refine .inl ?_
      cases ps with
      | nil => rfl
      | cons p ps =>
        exfalso
        have h0 := hc 0 p rfl
        subst e
        by_cases ho : off + 0 < 4
        · obtain ⟨a, n, c, hF⟩ := h.2.1 _ ho
          rw [h.1.cell ho, hF] at h0
          cases h0
        · obtain ⟨⟨cs, hcs, hz, hv⟩, _⟩ := h
          simp only [World.cell?, hcs, Option.bind_some] at h0
          have h5 : cs[off]? = none := Array.getElem?_eq_none (by omega)
          simp [h5] at h0
    · exact .inr ⟨g, off, ha, by simpa [World.setCell] using hg, fun k p hk => by rw [World.cell?_setCell_other _ _ _ _ (by simp [e])]; exact hc k p hk⟩
theorem BefR.rw' {w : World} {B v : Nat} {F : Nat → Value} {ps : List PF} {u : Value} (h : BefR w B F) (hs : Rws w ps) : Rws (w.setCell ⟨B, v, none⟩ u) ps := fun p hp => by
  have h1 := hs p hp
  refine h1.of_block ((grow_set w B v u).block p.1 h1.lt (fun e => ?_))
  injection e with e
  obtain ⟨⟨cs, hcs, _⟩, _⟩ := h
  obtain ⟨cs', hcs', _⟩ := h1
  rw [e, hcs] at hcs'
  injection hcs' with hcs'
  injection hcs' with _ e2 _
  revert e2
  decide
theorem BefR.set {w : World} {B v n c : Nat} {F : Nat → Value} {a : Option Addr} (h : BefR w B F) : BefR (w.setCell ⟨B, v, none⟩ (.slice a n c)) B (fun i => if i = v then .slice a n c else F i) :=
  ⟨h.1.set v _, fun i hi => by
    by_cases e : i = v
    · exact ⟨a, n, c, if_pos e⟩
    · obtain ⟨a', n', c', h'⟩ := h.2.1 i hi
      exact ⟨a', n', c', (if_neg e).trans h'⟩, fun o => by simpa [go_sem] using h.2.2 o⟩
theorem BefR.below {w w' : World} {B : Nat} {F : Nat → Value} (h : BefR w B F) (hb : Below w.heap.size w w') : BefR w' B F := ⟨row_below h.1 hb, h.2.1, fun o => carryf hb (h.2.2 o) h.1.lt⟩
/-- the state of solveRows behind j steps -/
structure SolS (w : World) (l : List FRw) (n B g x : Nat) (ys : List Nat) (j : Nat) (A : Option Addr) (c : Nat) (ps : List PF) (PS : Nat → List PF) (F : Nat → Value) (wr : World) : Prop where
  below : Below w.heap.size w wr
  sl : SlF wr A ps
  rows : Rws wr ps
  map : ps.map Prod.snd = rowsE l j
  ok : okE l j = true
  bef : BefR wr B F
  ps : ∀ v, v < 4 → 3 - v < j → ∃ a c, F v = .slice a (PS v).length c ∧ SlF wr a (PS v) ∧ Rws wr (PS v) ∧ (PS v).map Prod.snd = rowsE l (3 - v)
  cx : wr.cell? ⟨x, 0, none⟩ = some (.pointer (some ⟨B, 0, none⟩))
  st : ∀ (k y : Nat), ys[k]? = some y → B < y ∧ wr.cell? ⟨g, k, none⟩ = some (stepV x y) ∧ wr.cell? ⟨y, 0, none⟩ = some (.int .i64 (3 - (k : Int)))
  gB : B < g
  xB : B < x
  cl : wr.cell? ⟨w.heap.size, 0, none⟩ = some (.pointer none)
  fz : wr.frozen? ⟨w.heap.size, 0, none⟩ = false
theorem SolS.next {w wr w0 w' : World} {l : List FRw} {n B g x j c c' m' : Nat} {ys : List Nat} {A A' : Option Addr} {ps qs : List PF} {PS : Nat → List PF} {F : Nat → Value} (h : SolS w l n B g x ys j A c ps PS F wr) (hj : j < 4) (hwB : w.heap.size < B) (hb0 : Below wr.heap.size wr w0) (hb' : Below (w0.setCell ⟨B, 3 - j, none⟩ (.slice A ps.length c)).heap.size (w0.setCell ⟨B, 3 - j, none⟩ (.slice A ps.length c)) w')
    (hd : dropOk (3 - j) (rowsE l j) = true) (hs : SlF w' A' qs) (hr : Rws w' qs) (hm : qs.map Prod.snd = dropL (3 - j) (rowsE l j)) :
    SolS w l n B g x ys (j + 1) A' c' qs (fun v => if v = 3 - j then ps else PS v) (fun v => if v = 3 - j then .slice A ps.length c else F v) w' := by
  have hB0 := h.bef.below hb0
  have kc : ∀ b o v, b ≠ B → wr.cell? ⟨b, o, none⟩ = some v → w'.cell? ⟨b, o, none⟩ = some v := fun b o v hne hc => carry hb' (by
    rw [World.cell?_setCell_other _ _ _ _ (by simp [hne])]; exact carry hb0 hc)
  refine ⟨?_, hs, hr, hm, ?_, (hB0.set).below hb', fun v hv hvj => ?_, kc _ _ _ (by have := h.xB; omega) h.cx, fun k y hk => ?_, h.gB, h.xB, kc _ _ _ (by omega) h.cl, ?_⟩
  · exact btr (bst (btr h.below hb0) (p := ⟨B, 3 - j, none⟩) (by simp only; omega) _) hb'
  · unfold okE; rw [h.ok, hd]; rfl
  · by_cases e : v = 3 - j
    · subst e
      refine ⟨A, c, by rw [if_pos rfl, if_pos rfl], ?_, ?_, ?_⟩
      · rw [if_pos rfl]; exact (hB0.sl (h.sl.below hb0)).below hb'
      · rw [if_pos rfl]; exact (hB0.rw' (h.rows.below hb0)).below hb'
      · rw [if_pos rfl, show 3 - (3 - j) = j by omega]; exact h.map
    · obtain ⟨a, c2, h1, h2, h3, h4⟩ := h.ps v hv (by omega)
      refine ⟨a, c2, by rw [if_neg e, if_neg e]; exact h1, ?_, ?_, by rw [if_neg e]; exact h4⟩
      · rw [if_neg e]; exact (hB0.sl (h2.below hb0)).below hb'
      · rw [if_neg e]; exact (hB0.rw' (h3.below hb0)).below hb'
  · obtain ⟨h1, h2, h3⟩ := h.st k y hk
    exact ⟨h1, kc _ _ _ (by have := h.gB; omega) h2, kc _ _ _ (by omega) h3⟩
  · have hl := cell_lt h.cl
    have f0 := carryf hb0 h.fz hl
    have f1 : (w0.setCell ⟨B, 3 - j, none⟩ (.slice A ps.length c)).frozen? ⟨w.heap.size, 0, none⟩ = false := by simpa [go_sem] using f0
    have hl1 : w.heap.size < (w0.setCell ⟨B, 3 - j, none⟩ (.slice A ps.length c)).heap.size := by
      have := hb0.size
      have h6 : (w0.setCell ⟨B, 3 - j, none⟩ (.slice A ps.length c)).heap.size = w0.heap.size := by simp [World.setCell]
      rw [h6]
      have h7 : w.heap.size < wr.heap.size := hl
      omega
    exact carryf hb' f1 hl1
end Go.Proofs.Ytplocljoanaoeaa

namespace Go.Proofs.Ytplocljoanaoeaa
set_option linter.unusedVariables false
set_option linter.unusedSimpArgs false
open Go.RowKit
theorem cells4s : ∀ i, i < 4 → (#[Value.slice none 0 0, .slice none 0 0, .slice none 0 0, .slice none 0 0] : Array Value)[i]? = some ((fun _ => Value.slice none 0 0) i)
  | 0, _ => rfl
  | 1, _ => rfl
  | 2, _ => rfl
  | 3, _ => rfl
  | n + 4, h => absurd h (by omega)
theorem solE_no {l : List FRw} {j : Nat} (h : okE l j = true) (hj : j < 4) (hd : dropOk (3 - j) (rowsE l j) = false) : solE l = .none := by
  have h2 : okE l (j + 1) = false := by unfold okE; rw [h, hd]; rfl
  unfold solE; rw [if_pos (okE_no h2 (by omega))]
theorem solE_yes {l : List FRw} (h : okE l 4 = true) : solE l = match (rowsE l 4).find? badF with
    | some r => .clash r
    | none => .vals (backV l 4) := by
  unfold solE
  rw [if_neg (by rw [h]; simp)]
  all_goals (cases (rowsE l 4).find? badF <;> rfl)
theorem RowA.clash {w : World} {a B : Nat} {r : FRw} {v : Value} (h : RowA w a r) (hc : w.cell? ⟨B, 0, none⟩ = some (.pointer none)) : RowA (w.setCell ⟨B, 0, none⟩ v) a r := by
  refine h.of_block ((grow_set w B 0 v).block a h.lt (fun e => ?_))
  injection e with e
  subst e
  have h0 := h.cell (show 0 < 26 by omega)
  rw [hc] at h0
  simp [frV] at h0
set_option maxRecDepth 100000 in
set_option maxHeartbeats 16000000 in
theorem solverows_any (A : Option Addr) (c n : Nat) (ps0 : List PF) (w : World) (hn : n ≤ 20) (hl : ps0.length ≤ 200) (hA : SlF w A ps0) (hR : Rws w ps0) (hok : ∀ p ∈ ps0, p.2.ok n) :
    Calls Try.prog 36 #[.slice A ps0.length c] w (SolP w (solE (ps0.map Prod.snd))) := by
  have hmf : ∀ (fn : Fn) (first cap : Array Value) (w : World), (Instr.makeFunc fn first cap).run Try.prog w = .ok (.func fn first cap) w := fun _ _ _ _ => rfl
  obtain ⟨l, hlm⟩ : ∃ l, l = ps0.map Prod.snd := ⟨_, rfl⟩
  rw [← hlm]
  have hll : l.length ≤ 200 := by rw [hlm, List.length_map]; exact hl
  have hlo : ∀ r ∈ l, r.ok n := fun r hr => by rw [hlm] at hr; obtain ⟨p, hp, rfl⟩ := List.mem_map.1 hr; exact hok p hp
  have HLO := hid (rowsE_ok hn hlo)
  have HLL := hid (rowsE_len hll)
  have HM0 := hid hlm
  clear hll hlo hok hlm
  have qb := bal (bal (Below.refl w.heap.size w) (.cells #[.pointer none] 61)) (.cells #[.slice none 0 0, .slice none 0 0, .slice none 0 0, .slice none 0 0] 103)
  have hp0 : ((w.alloc (.cells #[.pointer none] 61)).alloc (.cells #[.slice none 0 0, .slice none 0 0, .slice none 0 0, .slice none 0 0] 103)).cell? ⟨w.heap.size, 0, none⟩ = some (.pointer none) := by simp [go_sem]
  have hpf : ((w.alloc (.cells #[.pointer none] 61)).alloc (.cells #[.slice none 0 0, .slice none 0 0, .slice none 0 0, .slice none 0 0] 103)).frozen? ⟨w.heap.size, 0, none⟩ = false := by simp [go_sem]
  have hbr := World.rowIs_alloc (w.alloc (.cells #[.pointer none] 61)) #[.slice none 0 0, .slice none 0 0, .slice none 0 0, .slice none 0 0] 103 _ cells4s
  rw [World.size_alloc] at hbr
  have hbR : BefR ((w.alloc (.cells #[.pointer none] 61)).alloc (.cells #[.slice none 0 0, .slice none 0 0, .slice none 0 0, .slice none 0 0] 103)) (w.heap.size + 1) (fun _ => .slice none 0 0) := ⟨hbr, fun v hv => ⟨_, _, _, rfl⟩, fun o => by simp [go_sem]⟩
  clear hbr
  go_enter_defers Try.func36, Try.ntmps36
  go_upto_region 3 with fail
  generalize (w.alloc (.cells #[.pointer none] 61)).alloc (.cells #[.slice none 0 0, .slice none 0 0, .slice none 0 0, .slice none 0 0] 103) = w0 at *
  go_wp2_with fail
  refine (farsteps_any (w.heap.size + 1) w0).mono ?_
  rintro e w1 ⟨g, cs, x, ys, rfl, hb1, hyl, hx, hxB, hgB, hst⟩
  have lB := hbR.1.lt
  have hS0 := hid (show SolS w l n (w.heap.size + 1) g x ys 0 A c ps0 (fun _ => []) (fun _ => .slice none 0 0) w1 from
    ⟨btr qb hb1, hA.below (btr qb hb1), hR.below (btr qb hb1), HM0.out.symm, rfl, hbR.below hb1, fun v hv h => absurd h (by omega), hx, fun k y hk => by
      obtain ⟨h1, h2, h3⟩ := hst k y hk
      exact ⟨by omega, h2, h3⟩, by omega, by omega, carry hb1 hp0, carryf hb1 hpf (cell_lt hp0)⟩)
  have HYL := hid hyl
  clear hA hR hbR hp0 hpf hx hst qb hb1 hyl hxB hgB lB
  go_wp2
  go_loopw [0, 2, 12] (fun r r2 i wr => ∃ (j : Nat) (A : Option Addr) (c : Nat) (ps : List PF) (PS : Nat → List PF) (F : Nat → Value), j ≤ 4 ∧ i = .int .i64 j ∧ r = .slice A ps.length c ∧ r2 = .slice none 0 0 ∧ SolS w l n (w.heap.size + 1) g x ys j A c ps PS F wr) (fun _ _ i _ => 4 - (intOf i).toNat)
  case atStart => exact ⟨0, A, c, ps0, _, _, Nat.zero_le _, rfl, rfl, rfl, hS0.out⟩
  case round =>
    clear hS0
    obtain ⟨j, A, c, ps, PS, F, hj, rfl, rfl, rfl, hS⟩ := hrel
    have HS := hid hS; clear hS
    have d0 : decide ((j : Int) < 4) = decide (j < 4) := by congr 1; exact propext ⟨fun h => by omega, fun h => by omega⟩
    by_cases hlt : j < 4
    · obtain ⟨y, hy⟩ : ∃ y, ys[j]? = some y := ⟨_, List.getElem?_eq_getElem (by rw [HYL.out]; exact hlt)⟩
      obtain ⟨hyB, hgj, hyc⟩ := HS.out.st j y hy
      rw [show (3 : Int) - (j : Int) = ((3 - j : Nat) : Int) by omega] at hyc
      have hx := HS.out.cx
      have hcl := HS.out.cl
      have hlg := HLL.out j HS.out.ok
      rw [← HS.out.map, List.length_map] at hlg
      have hlk := HLO.out j (by omega) HS.out.ok
      rw [← HS.out.map] at hlk
      have hBc := HS.out.bef.1.cell (show 3 - j < 4 by omega)
      have hBf := HS.out.bef.2.2 (3 - j)
      have hC := hid (step_any A c (3 - j) n (w.heap.size + 1) x y ps (F (3 - j)) wr (by omega) hn hlg (fun p hp => hlk p.2 (List.mem_map.2 ⟨p, hp, rfl⟩)) hx hyc hBc hBf (by omega) (fun w0 h => ⟨(HS.out.bef.below h).sl (HS.out.sl.below h), (HS.out.bef.below h).rw' (HS.out.rows.below h)⟩))
      have lg := cell_lt hgj
      clear hyc hx hBc hBf hlk
      unfold stepV at hgj
      go_upto_region 6 with fail
      go_wp2_with fail
      refine hC.out.mono ?_
      rintro e w2 ⟨w9, hb9, A4, m4, c4, qs, rfl, hb4, hq⟩
      rw [HS.out.map] at hq ⊢
      have hcl2 : w2.cell? ⟨w.heap.size, 0, none⟩ = some (.pointer none) := carry hb4 (by rw [World.cell?_setCell_other _ _ _ _ (by simp)]; exact carry hb9 hcl)
      have hz2 : w2.frozen? ⟨w.heap.size, 0, none⟩ = false := carryf hb4 (by simpa [go_sem] using carryf hb9 HS.out.fz (cell_lt hcl)) (by
        have := hb9.size; have h7 : w.heap.size < wr.heap.size := cell_lt hcl; simp [World.setCell]; omega)
      have hbw : Below w.heap.size w w2 := btr (bst (btr HS.out.below hb9) (p := ⟨w.heap.size + 1, 3 - j, none⟩) (by simp only; omega) _) hb4
      have HB9 := hid hb9; have HB4 := hid hb4; have HQ := hid hq; have HBW := hid hbw
      have hdn := hid (fun h => solE_no HS.out.ok hlt h)
      have hdy := hid (fun h => HS.out.next (c' := c4) (m' := m4) hlt (by omega) hb9 hb4 h (hq h).2.1 (hq h).2.2.1 (hq h).2.2.2)
      clear hb9 hb4 hq hbw hC hgj lg
      generalize dropOk (3 - j) (rowsE l j) = bd at HQ hdn hdy
      cases bd with
      | false =>
        have hN := hid (hdn.out rfl)
        clear hdn hdy HQ
        go_wp2
        refine leaves_cons (f := 67) (args := #[.pointer (some ⟨w.heap.size, 0, none⟩)]) (by simp) (by simp [go_sem]) ?_
        refine (catch_idle _ _).mono ?_
        rintro e u' w'' ⟨rfl, rfl, rfl⟩
        have hc5 := World.cell?_setCell_same' _ _ (.pointer none) (by rw [hcl2]; rfl)
        have hb5 := bst HBW.out (p := ⟨w.heap.size, 0, none⟩) (Nat.le_refl _) (.pointer none)
        generalize w2.setCell ⟨w.heap.size, 0, none⟩ (.pointer none) = w5 at *
        simp [Leaves, settle, results, Try.results36, go_sem, hc5]
        rw [hN.out]
        exact ⟨_, _, _, _, rfl, hb5, rfl, rfl, rfl, rfl⟩
      | true =>
        have hS2 := hid (hdy.out rfl)
        obtain ⟨hml, _⟩ := HQ.out rfl
        subst hml
        clear hdn hdy HQ hcl2 hz2 hcl
        go_wp2
        go_roundw
        case rel => exact ⟨j + 1, A4, c4, qs, _, _, by omega, by go_num, rfl, rfl, hS2.out⟩
        case measure => simp [intOf]; omega
    · have hje : j = 4 := by omega
      subst hje
      have hcl := HS.out.cl
      have hfz := HS.out.fz
      have hlg := HLL.out 4 HS.out.ok
      rw [← HS.out.map, List.length_map] at hlg
      have hlk := HLO.out 4 (by omega) HS.out.ok
      rw [← HS.out.map] at hlk
      have hC := hid (refute_any A c n ps wr hlg HS.out.sl HS.out.rows (fun p hp => hlk p.2 (List.mem_map.2 ⟨p, hp, rfl⟩)))
      have hY := hid (solE_yes HS.out.ok)
      rw [HS.out.map] at hC
      generalize (rowsE l 4).find? badF = R at hC hY
      clear hlg hlk
      clear hj hlt d0
      have d0 : decide (((4 : Nat) : Int) < 4) = false := by decide
      go_wp2_with fail
      refine hC.out.mono ?_
      rintro e w2 ⟨hb2, hq⟩
      cases R with
      | some r =>
        obtain ⟨a, rfl, hra⟩ := hq
        have hcl2 := carry hb2 hcl
        have hz2 := carryf hb2 hfz (cell_lt hcl)
        have hbw := btr HS.out.below hb2
        have hN := hid hY.out
        show Leaves _ _ _ _ _ _ _
        refine leaves_cons (f := 67) (args := #[.pointer (some ⟨w.heap.size, 0, none⟩)]) (by simp) (by simp [go_sem]) ?_
        refine (catch_panicking _ _ _ [] _ hcl2 hz2).mono ?_
        rintro e u' w'' ⟨rfl, rfl, rfl⟩
        have hra5 := hra.clash (v := .pointer (some ⟨a, 0, none⟩)) hcl2
        have hc5 := World.cell?_setCell_same' _ _ (.pointer (some ⟨a, 0, none⟩)) (by rw [hcl2]; rfl)
        have hb5 := bst hbw (p := ⟨w.heap.size, 0, none⟩) (Nat.le_refl _) (.pointer (some ⟨a, 0, none⟩))
        generalize w2.setCell ⟨w.heap.size, 0, none⟩ (.pointer (some ⟨a, 0, none⟩)) = w5 at *
        simp [Leaves, settle, results, Try.results36, go_sem, hc5]
        rw [hN.out]
        exact ⟨_, _, _, _, rfl, hb5, rfl, rfl, rfl, a, rfl, hra5⟩
      | none =>
        subst hq
        have hcl2 := carry hb2 hcl
        have hz2 := carryf hb2 hfz (cell_lt hcl)
        have hbw := btr HS.out.below hb2
        have hN := hid hY.out
        have hA := hid (assign_any (w.heap.size + 1) n l PS w2 (BefA.below (fun i hi => by
          obtain ⟨a, c, h1, h2, h3, h4⟩ := HS.out.ps i hi (by omega)
          exact ⟨a, c, by rw [← h1]; exact HS.out.bef.1.cell hi, h2, h3⟩) hb2) (fun i hi => by
          obtain ⟨a, c, h1, h2, h3, h4⟩ := HS.out.ps i hi (by omega)
          have := HLL.out (3 - i) (okE_le HS.out.ok (by omega)); rw [← h4, List.length_map] at this; exact this) (fun i hi p hp => by
          obtain ⟨a, c, h1, h2, h3, h4⟩ := HS.out.ps i hi (by omega)
          have := HLO.out (3 - i) (by omega) (okE_le HS.out.ok (by omega)); rw [← h4] at this; exact this p.2 (List.mem_map.2 ⟨p, hp, rfl⟩)) (fun i hi => by
          obtain ⟨a, c, h1, h2, h3, h4⟩ := HS.out.ps i hi (by omega)
          exact h4))
        clear hC
        simp only []
        go_wp2_with fail
        refine hA.out.mono ?_
        rintro e w3 ⟨A4, m4, c4, rfl, hb3, hn4, hs4⟩
        have hcl3 := carry hb3 hcl2
        have hz3 := carryf hb3 hz2 (cell_lt hcl2)
        have hb4 := btr hbw hb3
        have hl4 := hid hb2.size
        have hsl : w.heap.size < wr.heap.size := cell_lt hcl
        have HN4 := hid hn4; have HS4 := hid hs4
        clear hA hn4 hs4 hcl2 hz2 hb2 hb3 hcl hfz
        go_wp2
        refine leaves_cons (f := 67) (args := #[.pointer (some ⟨w.heap.size, 0, none⟩)]) (by simp) (by simp [go_sem]) ?_
        refine (catch_idle _ _).mono ?_
        rintro e u' w'' ⟨rfl, rfl, rfl⟩
        have hc5 := World.cell?_setCell_same' _ _ (.pointer none) (by rw [hcl3]; rfl)
        have hb5 := bst hb4 (p := ⟨w.heap.size, 0, none⟩) (Nat.le_refl _) (.pointer none)
        have hg5 := hid (fun (g : Nat) (V : Nat → Value) (hg : w2.heap.size ≤ g) (hr : w3.rowIs g 52 8 V) => hr.setOther (a := ⟨w.heap.size, 0, none⟩) (by have h7 : w.heap.size < w2.heap.size := Nat.lt_of_lt_of_le hsl hl4.out; show g ≠ w.heap.size; omega) (.pointer none))
        generalize w3.setCell ⟨w.heap.size, 0, none⟩ (.pointer none) = w5 at *
        simp [Leaves, settle, results, Try.results36, go_sem, hc5]
        rw [hN.out]
        refine ⟨_, _, _, _, rfl, hb5, rfl, HN4.out, fun X hX => ?_⟩
        obtain ⟨h1, h2, g, h3, h4, h5⟩ := HS4.out X hX
        exact ⟨h1, h2, g, h3, Nat.le_trans hbw.size h4, hg5.out g _ h4 h5⟩
end Go.Proofs.Ytplocljoanaoeaa

namespace Go.Proofs.Ytplocljoanaoeaa
set_option linter.unusedVariables false
set_option linter.unusedSimpArgs false
open Go.RowKit
def FarE.m : FarE → Nat
  | .yes _ _ => 4
  | _ => 0
def FarE.k (n : Nat) : FarE → Nat
  | .no _ => n
  | _ => 0
def FarE.N : FarE → Nat → Int
  | .yes N _ => N
  | _ => fun _ => 0
def FarE.D : FarE → Nat → Int
  | .yes _ D => D
  | _ => fun _ => 0
def FarE.U : FarE → Nat → Int
  | .no U => U
  | _ => fun _ => 0
def FarE.code : FarE → Int
  | .yes _ _ => 0
  | .no _ => 1
  | .much => 2
  | .form => 3
/-- nothing, or fractions in a block of [lo, hi) -/
def RatB (lo hi : Nat) (w : World) (A : Option Addr) (m : Nat) (N D : Nat → Int) : Prop :=
  m = 0 ∨ ∃ g, A = some ⟨g, 0, none⟩ ∧ lo ≤ g ∧ g < hi ∧ w.rowIs g 52 (m * 2) (ratV N D)
/-- nothing, or numbers in a block of [lo, hi) -/
def IntR (lo hi : Nat) (w : World) (A : Option Addr) (m : Nat) (Z : Nat → Int) : Prop :=
  m = 0 ∨ ∃ g, A = some ⟨g, 0, none⟩ ∧ lo ≤ g ∧ g < hi ∧ w.rowIs g 3 m (fun k => .int .i64 (Z k))
theorem allB_zero (n : Nat) (L : Lst) (N D : Nat → Int) : allB n L 0 N D = false := by
  cases e : allB n L 0 N D
  · rfl
  · have := (allB_iff.1 e).2.2
    rw [valsB_len (by omega)] at this
    cases this
def RunP (w : World) (n : Nat) (R : FarE) (e : Ending) (w' : World) : Prop :=
  ∃ A c B d, e = .returned (.tuple #[.slice A R.m c, .slice B (R.k n) d, .int .i64 R.code]) ∧ Below w.heap.size w w' ∧ RatB w.heap.size w'.heap.size w' A R.m R.N R.D ∧ IntR w.heap.size w'.heap.size w' B (R.k n) R.U
theorem RunP.much {w w' : World} {n : Nat} {R : FarE} (h : R = .much) (hb : Below w.heap.size w w') : RunP w n R (.returned (.tuple #[.slice none 0 0, .slice none 0 0, .int .i64 2])) w' := by
  subst h; exact ⟨none, 0, none, 0, rfl, hb, .inl rfl, .inl rfl⟩
theorem RunP.form {w w' : World} {n : Nat} {R : FarE} (h : R = .form) (hb : Below w.heap.size w w') : RunP w n R (.returned (.tuple #[.slice none 0 0, .slice none 0 0, .int .i64 3])) w' := by
  subst h; exact ⟨none, 0, none, 0, rfl, hb, .inl rfl, .inl rfl⟩
theorem RunP.no {w w' : World} {n g d : Nat} {U : Nat → Int} {R : FarE} (h : R = .no U) (hb : Below w.heap.size w w') (hg : w.heap.size ≤ g) (hr : w'.rowIs g 3 n (fun k => .int .i64 (U k))) : RunP w n R (.returned (.tuple #[.slice none 0 0, .slice (some ⟨g, 0, none⟩) n d, .int .i64 1])) w' := by
  subst h; exact ⟨none, 0, _, d, rfl, hb, .inl rfl, .inr ⟨g, rfl, hg, hr.lt, hr⟩⟩
theorem RunP.yes {w w' : World} {n g c : Nat} {N D : Nat → Int} {R : FarE} (h : R = .yes N D) (hb : Below w.heap.size w w') (hg : w.heap.size ≤ g) (hr : w'.rowIs g 52 8 (ratV N D)) : RunP w n R (.returned (.tuple #[.slice (some ⟨g, 0, none⟩) 4 c, .slice none 0 0, .int .i64 0])) w' := by
  subst h; exact ⟨_, c, none, 0, rfl, hb, .inr ⟨g, rfl, hg, hr.lt, hr⟩, .inl rfl⟩
theorem runE_form {n : Nat} {L : Lst} (h : okS n L = false) : runE n L = .form := by unfold runE; rw [if_pos h]
/-- what is answered, from how solveRows ends -/
def runS (n : Nat) (L : Lst) : SolE → FarE
  | .none => .much
  | .clash r => if farOkB (farS n L n r.U) = true then .no r.U else .much
  | .vals none => .much
  | .vals (some V) => if allB n L 4 V.1 V.2 = true then .yes V.1 V.2 else .much
theorem runE_sol {n : Nat} {L : Lst} (h : okS n L = true) : runE n L = runS n L (solE (givenL n L)) := by
  unfold runE solE
  rw [if_neg (by rw [h]; simp)]
  by_cases e : okE (givenL n L) 4 = false
  · rw [if_pos e, if_pos e]; rfl
  · rw [if_neg e, if_neg e]
    cases (rowsE (givenL n L) 4).find? badF with
    | some r => rfl
    | none => cases e2 : backV (givenL n L) 4 <;> simp [runS, e2]
set_option maxRecDepth 100000 in
set_option maxHeartbeats 8000000 in
theorem farrun_any (A : Option Addr) (n c : Nat) (L : Lst) (w : World) (hn : n ≤ 9223372036854775806) (hA : Lins w A n L) (hN : ∀ k, k < n → L.N k ≤ 1048576) :
    Calls Try.prog 15 #[.slice A n c] w (RunP w n (runE n L)) := by
  have hG := given_any A n c L w hn hA hN
  generalize hr : runE n L = R
  have HR := hid hr; clear hr
  cases hok : okS n L with
  | false =>
    have HF := hid (runE_form hok)
    rw [HR.out] at HF
    unfold GivenP at hG
    rw [hok] at hG
    clear hok hA hN hn
    go_enter Try.func15, Try.ntmps15
    go_wp2_with fail
    refine hG.mono ?_
    rintro e w1 ⟨x, rfl, hb, _, hx⟩
    obtain rfl := hx (by trivial)
    clear hG
    go_wp2
    go_ret3
    exact RunP.form HF.out hb
  | true =>
    have HOK := hid hok
    have HF := hid (runE_sol hok)
    rw [HR.out] at HF
    unfold GivenP at hG
    rw [hok] at hG
    clear hok
    have hn20 := (okS_iff.1 HOK.out).1
    have HA := hid hA
    have HN := hid hN
    clear hA hN hn
    go_enter Try.func15, Try.ntmps15
    go_wp2_with fail
    refine hG.mono ?_
    rintro e w1 ⟨x, rfl, hb, hx, _⟩
    obtain ⟨g, G, rfl, hS, hRw⟩ := (hx (by trivial)).sl
    clear hG hx
    have hE := solverows_any (some ⟨g, 0, none⟩) n n (givenF n L G) w1 hn20 (by rw [givenF_len]; omega) hS hRw (fun p hp => given_ok HOK.out p.2 (by rw [← givenF_map n L G]; exact List.mem_map_of_mem hp))
    rw [givenF_len, givenF_map] at hE
    generalize solE (givenL n L) = S at hE HF
    clear hS hRw
    go_wp2_with fail
    refine hE.mono ?_
    clear hE
    rintro e w2 ⟨A2, m, c2, p2, rfl, hb2, hq⟩
    cases S with
    | none =>
      obtain ⟨rfl, rfl, rfl, rfl⟩ := hq
      have hC := farall_any A n c L none 0 0 (fun _ => 0) (fun _ => 0) w2 (by omega) (HA.out.below (btr hb hb2)) HN.out (by omega) (.inl rfl)
      rw [allB_zero] at hC
      have HF := hid (show R = .much from HF.out)
      go_wp2_with fail
      refine hC.mono ?_
      rintro e w3 ⟨rfl, hb3⟩
      clear hC
      go_wp2
      go_ret3
      exact RunP.much HF.out (btr (btr hb hb2) hb3)
    | clash r =>
      obtain ⟨rfl, rfl, rfl, g2, rfl, hra⟩ := hq
      have hC := mults_any g2 n r w2 hn20 hra
      clear hra
      go_wp2_with fail
      refine hC.mono ?_
      rintro e w3 ⟨g3, rfl, hg3, hr3, hb3⟩
      clear hC
      have hF := farok_any A n c L (some ⟨g3, 0, none⟩) n n r.U w3 (by omega) (HA.out.below (btr (btr hb hb2) hb3)) (by omega) (.inr ⟨g3, 0, rfl, hr3.lt, fun k hk => by rw [Nat.zero_add]; exact hr3.cell hk⟩) HN.out
      have hf1 := hid (fun h : farOkB (farS n L n r.U) = true => (show R = .no r.U from HF.out.trans (if_pos h)))
      have hf2 := hid (fun h : farOkB (farS n L n r.U) = false => (show R = .much from HF.out.trans (if_neg (by rw [h]; simp))))
      generalize farOkB (farS n L n r.U) = b at hF hf1 hf2
      have HR3 := hid hr3
      clear hr3
      cases b with
      | true =>
        have hf := hid (hf1.out rfl)
        clear hf1 hf2
        go_wp2_with fail
        refine hF.mono ?_
        rintro e w4 ⟨rfl, hb4⟩
        clear hF
        go_wp2
        go_ret3
        exact RunP.no hf.out (btr (btr (btr hb hb2) hb3) hb4) (by have := (btr hb hb2).size; omega) (row_below HR3.out hb4)
      | false =>
        have hf := hid (hf2.out rfl)
        clear hf1 hf2
        go_wp2_with fail
        refine hF.mono ?_
        rintro e w4 ⟨rfl, hb4⟩
        clear hF
        go_wp2
        go_ret3
        exact RunP.much hf.out (btr (btr (btr hb hb2) hb3) hb4)
    | vals V =>
      obtain ⟨rfl, hV1, hV2⟩ := hq
      cases V with
      | none =>
        obtain ⟨rfl, rfl, rfl⟩ := hV1 rfl
        have hC := farall_any A n c L none 0 0 (fun _ => 0) (fun _ => 0) w2 (by omega) (HA.out.below (btr hb hb2)) HN.out (by omega) (.inl rfl)
        rw [allB_zero] at hC
        have HF := hid (show R = .much from HF.out)
        clear hV1 hV2
        go_wp2_with fail
        refine hC.mono ?_
        rintro e w3 ⟨rfl, hb3⟩
        clear hC
        go_wp2
        go_ret3
        exact RunP.much HF.out (btr (btr hb hb2) hb3)
      | some V =>
        obtain ⟨rfl, rfl, g2, rfl, hg2, hr2⟩ := hV2 V rfl
        have hC := farall_any A n c L (some ⟨g2, 0, none⟩) 4 4 V.1 V.2 w2 (by omega) (HA.out.below (btr hb hb2)) HN.out (by omega) (Rats.of_row hr2)
        have hf1 := hid (fun h : allB n L 4 V.1 V.2 = true => (show R = .yes V.1 V.2 from HF.out.trans (if_pos h)))
        have hf2 := hid (fun h : allB n L 4 V.1 V.2 = false => (show R = .much from HF.out.trans (if_neg (by rw [h]; simp))))
        generalize allB n L 4 V.1 V.2 = b at hC hf1 hf2
        have HR2 := hid hr2
        clear hV1 hV2 hr2
        cases b with
        | true =>
          have hf := hid (hf1.out rfl)
          clear hf1 hf2
          go_wp2_with fail
          refine hC.mono ?_
          rintro e w4 ⟨rfl, hb4⟩
          clear hC
          go_wp2
          go_ret3
          exact RunP.yes hf.out (btr (btr hb hb2) hb4) (by have := hb.size; omega) (row_below HR2.out hb4)
        | false =>
          have hf := hid (hf2.out rfl)
          clear hf1 hf2
          go_wp2_with fail
          refine hC.mono ?_
          rintro e w4 ⟨rfl, hb4⟩
          clear hC
          go_wp2
          go_ret3
          exact RunP.much hf.out (btr (btr hb hb2) hb4)
end Go.Proofs.Ytplocljoanaoeaa

namespace Go.Proofs.Ytplocljoanaoeaa
set_option linter.unusedVariables false
set_option linter.unusedSimpArgs false
open Go.RowKit
theorem SlP.mk {w w' : World} {r : Int × Int × Bool} {x y : Int} {v : Bool} (h : r = (x, y, v)) (hb : Below w.heap.size w w') : SlP w r (.returned (.tuple #[.agg #[.int .i64 x, .int .i64 y], .bool v])) w' := by
  subst h; exact ⟨x, y, rfl, (fun e => by simp at e; rw [e]), hb⟩
/-- at the loop's head: the result still empty, the rest -/
def ReS (w : World) (r : FRw) (v : Nat) (N D : Nat → Int) (k : Nat) (wr : World) : Prop :=
  Below w.heap.size w wr ∧ wr.cell? ⟨w.heap.size + 1, 0, none⟩ = some (.int .i64 0) ∧ wr.cell? ⟨w.heap.size + 1, 1, none⟩ = some (.int .i64 0) ∧ wr.frozen? ⟨w.heap.size + 1, 0, none⟩ = false ∧ wr.frozen? ⟨w.heap.size + 1, 1, none⟩ = false ∧
  wr.frozen? ⟨w.heap.size + 1 + 1, 0, none⟩ = false ∧ wr.frozen? ⟨w.heap.size + 1 + 1, 1, none⟩ = false ∧
  ∃ x y, rstS r v N D k = (x, y, true) ∧ wr.cell? ⟨w.heap.size + 1 + 1, 0, none⟩ = some (.int .i64 x) ∧ wr.cell? ⟨w.heap.size + 1 + 1, 1, none⟩ = some (.int .i64 y)
set_option maxRecDepth 100000 in
set_option maxHeartbeats 8000000 in
theorem srest_any (B' : Option Addr) (c' v n : Nat) (r : FRw) (A : Option Addr) (c : Nat) (N D : Nat → Int) (w : World) (hv : v < 4) (hz : r.Z v ≠ 0) (hZ : Ints w B' 4 r.Z) (ok : r.ok n) (hA : Rats w A 4 N D) :
    Calls Try.prog 108 #[.agg #[.slice B' 4 c', .int .i64 r.B, .bool r.S], .slice A 4 c, .int .i64 v] w (SlP w (bndR r v N D)) := by
  have HZ := hid (fun k (h : k < 4) => ok.z h)
  have hst : ReS w r v N D 0 (((w.alloc (.cells #[.slice B' 4 c', .int .i64 r.B, .bool r.S] 28)).alloc (.cells #[.int .i64 0, .int .i64 0] 52)).alloc (.cells #[.int .i64 r.B, .int .i64 1] 52)) := by
    refine ⟨bal (bal (bal (Below.refl _ _) _) _) _, ?_, ?_, ?_, ?_, ?_, ?_, r.B, 1, rfl, ?_, ?_⟩ <;> simp [go_sem]
  have hk0 : (((w.alloc (.cells #[.slice B' 4 c', .int .i64 r.B, .bool r.S] 28)).alloc (.cells #[.int .i64 0, .int .i64 0] 52)).alloc (.cells #[.int .i64 r.B, .int .i64 1] 52)).cell? ⟨w.heap.size, 0, none⟩ = some (.slice B' 4 c') := by simp [go_sem]
  have HOF := hid (ofR_one hz (ok.z hv))
  clear hz ok
  go_enter Try.func108, Try.ntmps108
  go_wp2
  go_loopw [9] (fun i wr => ∃ k : Nat, k ≤ 4 ∧ i = .int .i64 k ∧ wr.cell? ⟨w.heap.size, 0, none⟩ = some (.slice B' 4 c') ∧ ReS w r v N D k wr) (fun i _ => 4 - (intOf i).toNat)
  case atStart => exact ⟨0, Nat.zero_le _, rfl, hk0, hst⟩
  case round =>
    obtain ⟨k, hk, rfl, k0, hb, r0, r1, f0, f1, g0, g1, x, y, hs, s0, s1⟩ := hrel
    clear hst hk0
    have HS := hid hs; clear hs
    by_cases hlt : k < 4
    · by_cases hkv : k = v
      · have dk : ((k : Int) == (v : Int)) = true := by simp; omega
        have HSK := hid (rst_skip (r := r) (N := N) (D := D) hkv)
        clear hkv
        go_wp2
        go_roundw
        case rel => exact ⟨k + 1, by omega, by go_num, k0, hb, r0, r1, f0, f1, g0, g1, x, y, by rw [HSK.out]; exact HS.out, s0, s1⟩
        case measure => simp [intOf]; omega
      have dk : ((k : Int) == (v : Int)) = false := by simp; omega
      have HSK := hid (rst_step (r := r) (N := N) (D := D) hkv)
      clear hkv
      obtain ⟨zz1, zz2⟩ := HZ.out k hlt
      rcases hA with h0 | ⟨g, off, rfl, hg, hcA⟩
      · exact absurd h0 (by decide)
      rcases hZ with h0 | ⟨g2, off2, rfl, hg2, hcZ⟩
      · exact absurd h0 (by decide)
      have gg : g < wr.heap.size := Nat.lt_of_lt_of_le hg hb.size
      have gg2 : g2 < wr.heap.size := Nat.lt_of_lt_of_le hg2 hb.size
      have gg3 : w.heap.size < wr.heap.size := cell_lt k0
      have a0 : wr.cell? ⟨g, off + k * 2, none⟩ = some (.int .i64 (N k)) := carry hb (hcA k hlt).1
      have a1 : wr.cell? ⟨g, off + k * 2 + 1, none⟩ = some (.int .i64 (D k)) := carry hb (hcA k hlt).2
      have z1 : wr.cell? ⟨g2, off2 + k, none⟩ = some (.int .i64 (r.Z k)) := carry hb (hcZ k hlt)
      clear hcA hcZ
      have hM := fun W => smul_any (-(r.Z k)) 1 (N k) (D k) W
      generalize hmr : mulR (-(r.Z k)) 1 (N k) (D k) = mr at hM
      have gc := @gro_cell wr
      go_upto_region 6 with fail
      go_cut [10, 11] (fun sp sb wx => ∃ NB, sp = .pointer (some ⟨NB, 0, none⟩) ∧ sb = .bool mr.2.2 ∧ Below wr.heap.size wr wx ∧ wx.cell? ⟨NB, 0, none⟩ = some (.int .i64 mr.1) ∧ wx.cell? ⟨NB, 1, none⟩ = some (.int .i64 mr.2.1))
      case first =>
        clear hmr HS s0 s1 r0 r1 f0 f1 g0 g1
        refine region_plan (.takes [0, 1, 2, 3, 4, 5, 6, 7, 8, 9, 10] (.fork 15 11 (.make 11 (.takes [12, 13, 14] (.make 16 .fin))) (.takes [12, 13, 14] (.make 15 (.make 16 .fin))))) 17 rfl (by kernel_rfl) ?_
        refine plan_takes ?_; simp only [pickOps, List.getElem?_cons_zero, List.getElem?_cons_succ]; (repeat (go_big_quiet_step (fail))); refine wpQuiet_nil ?_
        clear gc gg gg2 gg3 a0 a1 z1 k0
        have hBd := (Below.refl wr.heap.size wr).drew
        refine plan_fork ?_ ?_
        · skip
          refine plan_val rfl rfl (.pointer (some ⟨wr.drew.heap.size, 0, none⟩)) (w'' := wr.drew.alloc (.cells #[.int .i64 0, .int .i64 0] 52)) (by kernel_rfl) (bal hBd _) ?_
          have Zt := there2_new wr.drew (.int .i64 0) (.int .i64 0) 52
          have Zb : wr.drew.heap.size < (wr.drew.alloc (.cells #[.int .i64 0, .int .i64 0] 52)).heap.size := by simp
          have hB2 := bal hBd (.cells #[.int .i64 0, .int .i64 0] 52)
          refine plan_call rfl rfl 111 #[.agg #[.int .i64 (-(r.Z k)), .int .i64 1], .agg #[.int .i64 (N k), .int .i64 (D k)]] (by kernel_rfl) ?_
          refine (hM _).mono ?_
          rintro e u1 ⟨rfl, hq⟩
          refine ⟨_, rfl, btr hB2 hq, ?_⟩
          refine plan_takes ?_; simp only [pickOps, List.getElem?_cons_zero, List.getElem?_cons_succ]
          refine quiet_do rfl (.tuple #[.agg #[.int .i64 mr.1, .int .i64 mr.2.1], .bool mr.2.2]) (fun _ => by kernel_rfl) ?_
          refine quiet_do rfl (.agg #[.int .i64 mr.1, .int .i64 mr.2.1]) (fun _ => by kernel_rfl) ?_
          refine quiet_do rfl (.bool mr.2.2) (fun _ => by kernel_rfl) ?_
          refine wpQuiet_nil ?_
          refine plan_store2 rfl rfl _ _ _ rfl _ (.int .i64 mr.1) (.int .i64 mr.2.1) (by kernel_rfl) (by kernel_rfl) (fun j hj => by rw [hq.cell (p := ⟨wr.drew.heap.size, 0 + j, none⟩) Zb, hq.frozen (p := ⟨wr.drew.heap.size, 0 + j, none⟩) Zb]; exact Zt j hj) (by kernel_rfl) (by simp [Value.oneCell']) (btr hB2 hq) hBd.size ?_
          intro wx _ hBx n0 n1
          refine plan_fin ?_
          simp only [List.drop_succ_cons, List.drop_zero]
          go_wp2_with fail
          go_meet
          exact ⟨_, rfl, rfl, hBx, n0, n1⟩
        · skip
          refine plan_call rfl rfl 111 #[.agg #[.int .i64 (-(r.Z k)), .int .i64 1], .agg #[.int .i64 (N k), .int .i64 (D k)]] (by kernel_rfl) ?_
          refine (hM _).mono ?_
          rintro e u1 ⟨rfl, hq⟩
          refine ⟨_, rfl, btr hBd hq, ?_⟩
          refine plan_takes ?_; simp only [pickOps, List.getElem?_cons_zero, List.getElem?_cons_succ]
          refine quiet_do rfl (.tuple #[.agg #[.int .i64 mr.1, .int .i64 mr.2.1], .bool mr.2.2]) (fun _ => by kernel_rfl) ?_
          refine quiet_do rfl (.agg #[.int .i64 mr.1, .int .i64 mr.2.1]) (fun _ => by kernel_rfl) ?_
          refine quiet_do rfl (.bool mr.2.2) (fun _ => by kernel_rfl) ?_
          refine wpQuiet_nil ?_
          refine plan_val rfl rfl (.pointer (some ⟨u1.heap.size, 0, none⟩)) (w'' := u1.alloc (.cells #[.int .i64 0, .int .i64 0] 52)) (by kernel_rfl) (bal (btr hBd hq) _) ?_
          refine plan_store2 rfl rfl _ _ _ rfl _ (.int .i64 mr.1) (.int .i64 mr.2.1) (by kernel_rfl) (by kernel_rfl) (there2_new _ _ _ _) (by kernel_rfl) (by simp [Value.oneCell']) (bal (btr hBd hq) _) (btr hBd hq).size ?_
          intro wx _ hBx n0 n1
          refine plan_fin ?_
          simp only [List.drop_succ_cons, List.drop_zero]
          go_wp2_with fail
          go_meet
          exact ⟨_, rfl, rfl, hBx, n0, n1⟩
      obtain ⟨w1, hwc⟩ : ∃ x, x = wc := ⟨_, rfl⟩
      subst hwc
      obtain ⟨NB, rfl, rfl, hq, n0, n1⟩ := hcut
      clear gc gg gg2 gg3 a0 a1 z1 hM
      replace f0 := carryf hq f0 (cell_lt r0); replace f1 := carryf hq f1 (cell_lt r1); replace g0 := carryf hq g0 (cell_lt s0); replace g1 := carryf hq g1 (cell_lt s1); replace r0 := carry hq r0; replace r1 := carry hq r1; replace s0 := carry hq s0; replace s1 := carry hq s1; replace k0 := carry hq k0; replace hb := btr hb hq
      have l0 := cell_lt r0; have l1 := cell_lt s0; have l2 := cell_lt k0
      rcases mulR_cases (-(r.Z k)) 1 (N k) (D k) with hm | ⟨p, q, hm⟩
      · have HF := hid (bndR_no (r := r) (v := v) (N := N) (D := D) (k := k + 1) (by rw [HSK.out]; exact stepR_no1 (by rw [hm])) (by omega))
        obtain rfl := hmr.symm.trans hm
        clear hm hmr
        simp only at n0 n1
        go_wp2
        obtain ⟨t0, t1⟩ := set2 r0 r1 (.int .i64 x) (.int .i64 y)
        refine bodyPost_ret (v := .tuple #[.agg #[.int .i64 x, .int .i64 y], .bool false]) (by simp [results, Try.results108, go_sem, t0, t1]) rfl (SlP.no HF.out ?_)
        exact bst (bst hb (by simp <;> omega) _) (by simp <;> omega) _
      · obtain rfl := hmr.symm.trans hm
        clear hmr
        simp only at n0 n1
        have hS := fun W => sadd_any x y p q W
        rcases addR_cases x y p q with ha | ⟨u, v', ha⟩
        · have HF := hid (bndR_no (r := r) (v := v) (N := N) (D := D) (k := k + 1) (by rw [HSK.out, HS.out, stepR_yes hm, ha]) (by omega))
          rw [ha] at hS; clear ha hm
          simp only at hS
          go_wp2_with (go_at_call 110; refine (hS _).mono ?_; rintro e w2 ⟨rfl, hq2⟩; replace f0 := carryf hq2 f0 (cell_lt r0); replace f1 := carryf hq2 f1 (cell_lt r1); replace g0 := carryf hq2 g0 (cell_lt s0); replace g1 := carryf hq2 g1 (cell_lt s1); replace r0 := carry hq2 r0; replace r1 := carry hq2 r1; replace s0 := carry hq2 s0; replace s1 := carry hq2 s1; replace k0 := carry hq2 k0; replace hb := btr hb hq2; replace n0 := carry hq2 n0; replace n1 := carry hq2 n1)
          obtain ⟨s0, s1⟩ := set2 s0 s1 (.int .i64 0) (.int .i64 0)
          obtain ⟨t0, t1⟩ := set2 (far2 (.int .i64 0) (.int .i64 0) (p := w.heap.size + 1 + 1) (by omega) r0) (far2 (.int .i64 0) (.int .i64 0) (p := w.heap.size + 1 + 1) (by omega) r1) (.int .i64 0) (.int .i64 0)
          refine bodyPost_ret (v := .tuple #[.agg #[.int .i64 0, .int .i64 0], .bool false]) (by simp [results, Try.results108, go_sem, t0, t1]) rfl (SlP.no HF.out ?_)
          exact bst (bst (bst (bst hb (by simp <;> omega) _) (by simp <;> omega) _) (by simp <;> omega) _) (by simp <;> omega) _
        · have HS2 := hid (show rstS r v N D (k + 1) = (u, v', true) by rw [HSK.out, HS.out, stepR_yes hm, ha])
          rw [ha] at hS; clear ha hm
          simp only at hS
          go_wp2_with (go_at_call 110; refine (hS _).mono ?_; rintro e w2 ⟨rfl, hq2⟩; replace f0 := carryf hq2 f0 (cell_lt r0); replace f1 := carryf hq2 f1 (cell_lt r1); replace g0 := carryf hq2 g0 (cell_lt s0); replace g1 := carryf hq2 g1 (cell_lt s1); replace r0 := carry hq2 r0; replace r1 := carry hq2 r1; replace s0 := carry hq2 s0; replace s1 := carry hq2 s1; replace k0 := carry hq2 k0; replace hb := btr hb hq2; replace n0 := carry hq2 n0; replace n1 := carry hq2 n1)
          go_roundw
          case rel =>
            obtain ⟨t0, t1⟩ := set2 s0 s1 (.int .i64 u) (.int .i64 v')
            exact ⟨k + 1, by omega, by go_num, far2 _ _ (by omega) k0, bst (bst hb (by simp <;> omega) _) (by simp <;> omega) _, far2 _ _ (by omega) r0, far2 _ _ (by omega) r1, frz2 _ _ f0, frz2 _ _ f1, frz2 _ _ g0, frz2 _ _ g1, u, v', HS2.out, t0, t1⟩
          case measure => simp [intOf]; omega
    · have hke : k = 4 := by omega
      subst hke
      have HF := hid (bndR_yes HS.out)
      rcases hZ with h0 | ⟨g2, off2, rfl, hg2, hcZ⟩
      · exact absurd h0 (by decide)
      have gg2 : g2 < wr.heap.size := Nat.lt_of_lt_of_le hg2 hb.size
      have cv : wr.cell? ⟨g2, off2 + v, none⟩ = some (.int .i64 (r.Z v)) := carry hb (hcZ v hv)
      clear hcZ
      have hO := fun W => sof_any 1 (r.Z v) W
      have hof := HOF.out
      obtain ⟨⟨ox, oy, oo⟩, ho⟩ : ∃ o, o = ofR 1 (r.Z v) := ⟨_, rfl⟩
      rw [← ho] at hO HF hof
      clear ho
      simp only at hO HF hof
      subst hof
      have hM := fun W => smul_any x y ox oy W
      obtain ⟨⟨mx, my, mo⟩, hmm⟩ : ∃ o, o = mulR x y ox oy := ⟨_, rfl⟩
      rw [← hmm] at hM HF
      clear hmm
      simp only at hM
      have l0 := cell_lt r0; have l1 := cell_lt s0; have l2 := cell_lt k0
      go_wp2_with (first | (go_at_call 63; refine (hO _).mono ?_; rintro e w1 ⟨rfl, hq⟩; clear l0 l1 l2; replace f0 := carryf hq f0 (cell_lt r0); replace f1 := carryf hq f1 (cell_lt r1); replace g0 := carryf hq g0 (cell_lt s0); replace g1 := carryf hq g1 (cell_lt s1); replace r0 := carry hq r0; replace r1 := carry hq r1; replace s0 := carry hq s0; replace s1 := carry hq s1; replace k0 := carry hq k0; replace hb := btr hb hq; have l0 := cell_lt r0; have l1 := cell_lt s0) | (go_at_call 111; refine (hM _).mono ?_; rintro e w2 ⟨rfl, hq2⟩; replace f0 := carryf hq2 (carryAf2 _ r0 f0) (cell_lt (carryA _ r0)); replace f1 := carryf hq2 (carryAf2 _ r1 f1) (cell_lt (carryA _ r1)); replace r0 := carry hq2 (carryA _ r0); replace r1 := carry hq2 (carryA _ r1); have l2 := cell_lt r0; replace hb := btr (bal hb _) hq2))
      obtain ⟨t0, t1⟩ := set2 r0 r1 (.int .i64 mx) (.int .i64 my)
      refine bodyPost_ret (v := .tuple #[.agg #[.int .i64 mx, .int .i64 my], .bool mo]) (by simp [results, Try.results108, go_sem, t0, t1]) rfl (SlP.mk HF.out ?_)
      exact bst (bst hb (by simp <;> omega) _) (by simp <;> omega) _
end Go.Proofs.Ytplocljoanaoeaa

namespace Go.Proofs.Ytplocljoanaoeaa
set_option linter.unusedVariables false
set_option linter.unusedSimpArgs false
open Go.RowKit
def Rm.l1 (m : Rm) : Int := match m.lo with
  | some a => a.1
  | none => 0
def Rm.l2 (m : Rm) : Int := match m.lo with
  | some a => a.2
  | none => 0
def Rm.h1 (m : Rm) : Int := match m.hi with
  | some a => a.1
  | none => 0
def Rm.h2 (m : Rm) : Int := match m.hi with
  | some a => a.2
  | none => 0
def Rm.isL (m : Rm) : Bool := m.lo.isSome
def Rm.isH (m : Rm) : Bool := m.hi.isSome
set_option maxRecDepth 100000 in
set_option maxHeartbeats 8000000 in
theorem schoose_any (m : Rm) (w : World) :
    Calls Try.prog 85 #[.agg #[.int .i64 m.l1, .int .i64 m.l2, .int .i64 m.h1, .int .i64 m.h2, .bool m.isL, .bool m.isH]] w (AtP w (pickR m)) := by
  obtain ⟨mlo, mhi⟩ := m
  obtain ⟨C, hC⟩ : ∃ C, C = Obj.cells #[.int .i64 (Rm.l1 ⟨mlo, mhi⟩), .int .i64 (Rm.l2 ⟨mlo, mhi⟩), .int .i64 (Rm.h1 ⟨mlo, mhi⟩), .int .i64 (Rm.h2 ⟨mlo, mhi⟩), .bool (Rm.isL ⟨mlo, mhi⟩), .bool (Rm.isH ⟨mlo, mhi⟩)] 126 := ⟨_, rfl⟩
  have hb0 := bal (bal (Below.refl w.heap.size w) C) (.cells #[.int .i64 0, .int .i64 0] 52)
  have r0 : ((w.alloc C).alloc (.cells #[.int .i64 0, .int .i64 0] 52)).cell? ⟨w.heap.size + 1, 0, none⟩ = some (.int .i64 0) := by simp [go_sem]
  have r1 : ((w.alloc C).alloc (.cells #[.int .i64 0, .int .i64 0] 52)).cell? ⟨w.heap.size + 1, 1, none⟩ = some (.int .i64 0) := by simp [go_sem]
  have f0 : ((w.alloc C).alloc (.cells #[.int .i64 0, .int .i64 0] 52)).frozen? ⟨w.heap.size + 1, 0, none⟩ = false := by simp [go_sem]
  have f1 : ((w.alloc C).alloc (.cells #[.int .i64 0, .int .i64 0] 52)).frozen? ⟨w.heap.size + 1, 1, none⟩ = false := by simp [go_sem]
  have lr : w.heap.size + 1 < ((w.alloc C).alloc (.cells #[.int .i64 0, .int .i64 0] 52)).heap.size := by simp
  subst hC
  cases mlo with
  | none =>
    cases mhi with
    | none =>
      simp only [Rm.l1, Rm.l2, Rm.h1, Rm.h2, Rm.isL, Rm.isH, Option.isSome_none, Option.isSome_some] at *
      go_enter Try.func85, Try.ntmps85
      go_wp2
      obtain ⟨t0, t1⟩ := set2 r0 r1 (.int .i64 0) (.int .i64 1)
      refine bodyPost_ret (v := .tuple #[.agg #[.int .i64 0, .int .i64 1], .bool true]) (by simp [results, Try.results85, go_sem, t0, t1]) rfl (AtP.mk rfl ?_)
      exact bal (bal (Below.refl _ _) _) _
    | some q =>
      obtain ⟨u, v⟩ := q
      have hA := fun W => sadd_any u v (-1) 1 W
      have hP := hid (show pickR ⟨none, some (u, v)⟩ = addR u v (-1) 1 from rfl)
      obtain ⟨⟨ax, ay, ao⟩, ha⟩ : ∃ o, o = addR u v (-1) 1 := ⟨_, rfl⟩
      rw [← ha] at hA hP
      clear ha
      simp only at hA
      simp only [Rm.l1, Rm.l2, Rm.h1, Rm.h2, Rm.isL, Rm.isH, Option.isSome_none, Option.isSome_some] at *
      go_enter Try.func85, Try.ntmps85
      go_wp2_with (go_at_call 110; refine (hA _).mono ?_; rintro e w1 ⟨rfl, hq⟩; replace f0 := carryf hq f0 lr; replace f1 := carryf hq f1 lr; replace r0 := carry hq r0; replace r1 := carry hq r1; replace hb0 := btr hb0 hq; have lr2 := cell_lt r0)
      obtain ⟨t0, t1⟩ := set2 r0 r1 (.int .i64 ax) (.int .i64 ay)
      refine bodyPost_ret (v := .tuple #[.agg #[.int .i64 ax, .int .i64 ay], .bool ao]) (by simp [results, Try.results85, go_sem, t0, t1]) rfl (AtP.mk hP.out ?_)
      exact bst (bst hb0 (by simp <;> omega) _) (by simp <;> omega) _
  | some p =>
    obtain ⟨x, y⟩ := p
    cases mhi with
    | none =>
      have hA := fun W => sadd_any x y 1 1 W
      have hP := hid (show pickR ⟨some (x, y), none⟩ = addR x y 1 1 from rfl)
      obtain ⟨⟨ax, ay, ao⟩, ha⟩ : ∃ o, o = addR x y 1 1 := ⟨_, rfl⟩
      rw [← ha] at hA hP
      clear ha
      simp only at hA
      simp only [Rm.l1, Rm.l2, Rm.h1, Rm.h2, Rm.isL, Rm.isH, Option.isSome_none, Option.isSome_some] at *
      go_enter Try.func85, Try.ntmps85
      go_wp2_with (go_at_call 110; refine (hA _).mono ?_; rintro e w1 ⟨rfl, hq⟩; replace f0 := carryf hq f0 lr; replace f1 := carryf hq f1 lr; replace r0 := carry hq r0; replace r1 := carry hq r1; replace hb0 := btr hb0 hq; have lr2 := cell_lt r0)
      obtain ⟨t0, t1⟩ := set2 r0 r1 (.int .i64 ax) (.int .i64 ay)
      refine bodyPost_ret (v := .tuple #[.agg #[.int .i64 ax, .int .i64 ay], .bool ao]) (by simp [results, Try.results85, go_sem, t0, t1]) rfl (AtP.mk hP.out ?_)
      exact bst (bst hb0 (by simp <;> omega) _) (by simp <;> omega) _
    | some q =>
      obtain ⟨u, v⟩ := q
      have hA := fun W => smid_any x y u v W
      have hP := hid (show pickR ⟨some (x, y), some (u, v)⟩ = midR x y u v from rfl)
      obtain ⟨⟨ax, ay, ao⟩, ha⟩ : ∃ o, o = midR x y u v := ⟨_, rfl⟩
      rw [← ha] at hA hP
      clear ha
      simp only at hA
      simp only [Rm.l1, Rm.l2, Rm.h1, Rm.h2, Rm.isL, Rm.isH, Option.isSome_none, Option.isSome_some] at *
      go_enter Try.func85, Try.ntmps85
      go_wp2_with (go_at_call 109; refine (hA _).mono ?_; rintro e w1 ⟨rfl, hq⟩; replace f0 := carryf hq f0 lr; replace f1 := carryf hq f1 lr; replace r0 := carry hq r0; replace r1 := carry hq r1; replace hb0 := btr hb0 hq; have lr2 := cell_lt r0)
      obtain ⟨t0, t1⟩ := set2 r0 r1 (.int .i64 ax) (.int .i64 ay)
      refine bodyPost_ret (v := .tuple #[.agg #[.int .i64 ax, .int .i64 ay], .bool ao]) (by simp [results, Try.results85, go_sem, t0, t1]) rfl (AtP.mk hP.out ?_)
      exact bst (bst hb0 (by simp <;> omega) _) (by simp <;> omega) _
/-- what l3Bad answers -/
def SBadP (w : World) (n : Nat) (R : Option FRw) (e : Ending) (w' : World) : Prop :=
  ∃ A k c, e = .returned (.slice A k c) ∧ Below w.heap.size w w' ∧ match R with
    | none => k = 0
    | some r => k = n ∧ Ints w' A n r.U
set_option maxRecDepth 100000 in
set_option maxHeartbeats 4000000 in
theorem sbad_any (n : Nat) (A : Option Addr) (c : Nat) (ms : List MRow) (w : World) (hl : ms.length ≤ 200) (hA : SlM n w A ms) (hM : ∀ m ∈ ms, MRd n w m) :
    Calls Try.prog 54 #[.slice A ms.length c] w (SBadP w n ((ms.map MRow.r).find? badF)) := by
  have HM := hid hM; clear hM
  obtain ⟨N, hN⟩ : ∃ m, m = ms.length := ⟨_, rfl⟩
  rw [← hN] at hl ⊢
  have HN := hid hN; clear hN
  have HLR := hid (fun k (m : MRow) (h : ms[k]? = some m) => (show (ms.map MRow.r)[k]? = some m.r by rw [List.getElem?_map, h]; rfl))
  have HLL := hid (show (ms.map MRow.r).length = N by rw [List.length_map]; exact HN.out.symm)
  generalize ms.map MRow.r = l at *
  go_enter Try.func54, Try.ntmps54
  go_wp2
  go_loopw [3] (fun i wr => ∃ k : Nat, k ≤ N ∧ i = .int .i64 k ∧ Below w.heap.size w wr ∧ (l.take k).find? badF = none) (fun i _ => N - (intOf i).toNat)
  case atStart => exact ⟨0, Nat.zero_le _, rfl, Below.refl _ _, rfl⟩
  case round =>
    obtain ⟨k, hk, rfl, hb, hs⟩ := hrel
    have HS := hid hs; clear hs
    by_cases hlt : k < N
    · obtain ⟨⟨aA, aC, aT, aD, ar⟩, hp⟩ : ∃ p, ms[k]? = some p := ⟨_, List.getElem?_eq_getElem (by have := HN.out; omega)⟩
      have hrd := hid ((HM.out _ (List.mem_of_getElem? hp)).below hb)
      have hst := hid (find_take (p := badF) (HLR.out k _ hp))
      rcases hA with h0 | ⟨g, off, rfl, hg, hcA⟩
      · rw [h0] at hp; cases hp
      obtain ⟨q0, q1, q2, q3⟩ := hcA k _ hp
      replace q0 := carry hb q0; replace q1 := carry hb q1; replace q2 := carry hb q2; replace q3 := carry hb q3
      have lg := cell_lt q0
      clear hcA hp
      simp only at q0 q1 q2 q3 hrd hst
      have hC := slinbad_any aA 4 aC ar.Z ar.B ar.S wr (by omega) hrd.out.1
      have hbe : badB 4 ar.Z ar.B ar.S = badF ar := rfl
      rw [hbe] at hC
      clear hbe
      have hbf := hid (fun (h : badF ar = true) => (show l.find? badF = some ar from by
        have e := hst.out
        rw [HS.out] at e
        simp only [h, if_true, Option.none_or] at e
        rw [← List.take_append_drop (k + 1) l, List.find?_append, e]; rfl))
      have hbn := hid (fun (h : badF ar = false) => (show (l.take (k + 1)).find? badF = none from by
        have e := hst.out
        rw [HS.out] at e
        simp only [h, Bool.false_eq_true, if_false, Option.none_or] at e
        exact e))
      generalize badF ar = bd at hC hbf hbn
      cases bd with
      | true =>
        have HF := hid (hbf.out rfl)
        clear hbf hbn
        go_wp2_with fail
        refine hC.mono ?_
        rintro e w2 ⟨rfl, hq⟩
        have hR2 := hid (hrd.out.2.below hq)
        clear hC
        replace q3 := carry hq q3
        have lg2 := cell_lt q3
        go_wp2
        go_ret
        rw [HF.out]
        exact ⟨_, _, _, rfl, btr hb hq, rfl, hR2.out⟩
      | false =>
        have HF := hid (hbn.out rfl)
        clear hbf hbn
        go_wp2_with fail
        refine hC.mono ?_
        rintro e w2 ⟨rfl, hq⟩
        clear hC
        go_wp2
        go_roundw
        case rel => exact ⟨k + 1, by omega, by go_num, btr hb hq, HF.out⟩
        case measure => simp [intOf]; omega
    · have hke : k = N := by omega
      have HF := hid (show l.find? badF = none by have := HS.out; rwa [List.take_of_length_le (by rw [HLL.out]; omega)] at this)
      clear hke
      go_wp2
      go_ret
      rw [HF.out]
      exact ⟨_, _, _, rfl, bal hb _, rfl⟩
end Go.Proofs.Ytplocljoanaoeaa

namespace Go.Proofs.Ytplocljoanaoeaa
set_option linter.unusedVariables false
set_option linter.unusedSimpArgs false
open Go.RowKit
def endC (m : Rm) : Nat → Value
  | 0 => .int .i64 m.l1
  | 1 => .int .i64 m.l2
  | 2 => .int .i64 m.h1
  | 3 => .int .i64 m.h2
  | 4 => .bool m.isL
  | _ => .bool m.isH
theorem lt6 {i : Nat} (h : i < 6) : i = 0 ∨ i = 1 ∨ i = 2 ∨ i = 3 ∨ i = 4 ∨ i = 5 := by omega
theorem row6 {w : World} {g : Nat} {T : TypeId} {f : Nat → Value} (h : w.rowIs g T 6 f) (m : Rm) :
    ((((((w.setCell ⟨g, 0, none⟩ (.int .i64 m.l1)).setCell ⟨g, 1, none⟩ (.int .i64 m.l2)).setCell ⟨g, 2, none⟩ (.int .i64 m.h1)).setCell ⟨g, 3, none⟩ (.int .i64 m.h2)).setCell ⟨g, 4, none⟩ (.bool m.isL)).setCell ⟨g, 5, none⟩ (.bool m.isH)).rowIs g T 6 (endC m) :=
  ((((((h.set 0 _).set 1 _).set 2 _).set 3 _).set 4 _).set 5 _).congr (fun i hi => by rcases lt6 hi with rfl | rfl | rfl | rfl | rfl | rfl <;> rfl)
theorem rowHi {w : World} {g : Nat} {T : TypeId} {m : Rm} {x y : Int} (h : w.rowIs g T 6 (endC m)) :
    (((w.setCell ⟨g, 2, none⟩ (.int .i64 x)).setCell ⟨g, 3, none⟩ (.int .i64 y)).setCell ⟨g, 5, none⟩ (.bool true)).rowIs g T 6 (endC ⟨m.lo, some (x, y)⟩) :=
  (((h.set 2 _).set 3 _).set 5 _).congr (fun i hi => by rcases lt6 hi with rfl | rfl | rfl | rfl | rfl | rfl <;> rfl)
theorem rowLo {w : World} {g : Nat} {T : TypeId} {m : Rm} {x y : Int} (h : w.rowIs g T 6 (endC m)) :
    (((w.setCell ⟨g, 0, none⟩ (.int .i64 x)).setCell ⟨g, 1, none⟩ (.int .i64 y)).setCell ⟨g, 4, none⟩ (.bool true)).rowIs g T 6 (endC ⟨some (x, y), m.hi⟩) :=
  (((h.set 0 _).set 1 _).set 4 _).congr (fun i hi => by rcases lt6 hi with rfl | rfl | rfl | rfl | rfl | rfl <;> rfl)
theorem ends0 : ∀ i, i < 6 → (#[Value.int .i64 0, .int .i64 0, .int .i64 0, .int .i64 0, .bool false, .bool false] : Array Value)[i]? = some (endC rm0 i)
  | 0, _ => rfl
  | 1, _ => rfl
  | 2, _ => rfl
  | 3, _ => rfl
  | 4, _ => rfl
  | 5, _ => rfl
  | n + 6, h => absurd h (by omega)
/-- what l3Bounds answers -/
def EndP (w : World) (R : Option Rm) (e : Ending) (w' : World) : Prop :=
  ∃ m : Rm, e = .returned (.tuple #[.agg #[.int .i64 m.l1, .int .i64 m.l2, .int .i64 m.h1, .int .i64 m.h2, .bool m.isL, .bool m.isH], .bool R.isSome]) ∧ Below w.heap.size w w' ∧ ∀ m', R = some m' → m' = m
theorem EndP.no {w w' : World} {R : Option Rm} {m : Rm} (h : R = none) (hb : Below w.heap.size w w') : EndP w R (.returned (.tuple #[.agg #[.int .i64 m.l1, .int .i64 m.l2, .int .i64 m.h1, .int .i64 m.h2, .bool m.isL, .bool m.isH], .bool false])) w' := by
  subst h; exact ⟨m, rfl, hb, fun m' e => by cases e⟩
theorem EndP.yes {w w' : World} {R : Option Rm} {m : Rm} (h : R = some m) (hb : Below w.heap.size w w') : EndP w R (.returned (.tuple #[.agg #[.int .i64 m.l1, .int .i64 m.l2, .int .i64 m.h1, .int .i64 m.h2, .bool m.isL, .bool m.isH], .bool true])) w' := by
  subst h; exact ⟨m, rfl, hb, fun m' e => by injection e with e; exact e.symm⟩
theorem build_ends (w : World) : (Instr.build 126 #[]).run Try.prog w = .ok (.agg #[.int .i64 0, .int .i64 0, .int .i64 0, .int .i64 0, .bool false, .bool false]) w := by kernel_rfl
set_option maxRecDepth 100000 in
set_option maxHeartbeats 16000000 in
theorem sbounds_any (n v : Nat) (A : Option Addr) (c : Nat) (ms : List MRow) (V : Option Addr) (d : Nat) (N D : Nat → Int) (w : World) (hv : v < 4) (hl : ms.length ≤ 200) (hA : SlM n w A ms) (hM : ∀ m ∈ ms, MRd n w m) (hok : ∀ m ∈ ms, m.r.ok n) (hV : Rats w V 4 N D) :
    Calls Try.prog 84 #[.slice A ms.length c, .slice V 4 d, .int .i64 v] w (EndP w (roomS v N D (ms.map MRow.r) rm0)) := by
  have HM := hid hM; have HOK := hid hok; clear hM hok
  obtain ⟨NN, hN⟩ : ∃ m, m = ms.length := ⟨_, rfl⟩
  rw [← hN] at hl ⊢
  have HN := hid hN; clear hN
  have HLR := hid (fun k (m : MRow) (h : ms[k]? = some m) => (show (ms.map MRow.r)[k]? = some m.r by rw [List.getElem?_map, h]; rfl))
  have HLL := hid (show (ms.map MRow.r).length = NN by rw [List.length_map]; exact HN.out.symm)
  generalize ms.map MRow.r = l at *
  have hb0 := bal (bal (Below.refl w.heap.size w) (.cells #[.int .i64 0, .int .i64 0, .int .i64 0, .int .i64 0, .bool false, .bool false] 126)) (.cells #[.int .i64 0, .int .i64 0, .int .i64 0, .int .i64 0, .bool false, .bool false] 126)
  have hr0 := (World.rowIs_alloc w #[.int .i64 0, .int .i64 0, .int .i64 0, .int .i64 0, .bool false, .bool false] 126 _ ends0).alloc (.cells #[.int .i64 0, .int .i64 0, .int .i64 0, .int .i64 0, .bool false, .bool false] 126)
  have he0 := World.rowIs_alloc (w.alloc (.cells #[.int .i64 0, .int .i64 0, .int .i64 0, .int .i64 0, .bool false, .bool false] 126)) #[.int .i64 0, .int .i64 0, .int .i64 0, .int .i64 0, .bool false, .bool false] 126 _ ends0
  rw [World.size_alloc] at he0
  have hbe := build_ends
  go_enter Try.func84, Try.ntmps84
  go_wp2
  clear hbe
  generalize (w.alloc (.cells #[.int .i64 0, .int .i64 0, .int .i64 0, .int .i64 0, .bool false, .bool false] 126)).alloc (.cells #[.int .i64 0, .int .i64 0, .int .i64 0, .int .i64 0, .bool false, .bool false] 126) = w0 at *
  go_loopw [9] (fun i wr => ∃ (k : Nat) (M : Rm), k ≤ NN ∧ i = .int .i64 k ∧ Below w.heap.size w wr ∧ wr.rowIs w.heap.size 126 6 (endC rm0) ∧ wr.rowIs (w.heap.size + 1) 126 6 (endC M) ∧ roomS v N D (l.take k) rm0 = some M) (fun i _ => NN - (intOf i).toNat)
  case atStart => exact ⟨0, rm0, Nat.zero_le _, rfl, hb0, hr0, he0, rfl⟩
  case round =>
    clear hb0 hr0 he0
    obtain ⟨k, M, hk, rfl, hb, hR, hE, hs⟩ := hrel
    have HS := hid hs; have HR := hid hR; have HE := hid hE
    clear hs hR hE
    have lE : w.heap.size + 1 < wr.heap.size := HE.out.lt
    by_cases hlt : k < NN
    · obtain ⟨⟨aA, aC, aT, aD, r⟩, hp⟩ : ∃ p, ms[k]? = some p := ⟨_, List.getElem?_eq_getElem (by have := HN.out; omega)⟩
      have hrd := hid ((HM.out _ (List.mem_of_getElem? hp)).below hb)
      have hwd := hid (HM.out _ (List.mem_of_getElem? hp))
      have hrok := hid (HOK.out _ (List.mem_of_getElem? hp))
      have hst := hid (roomS_take (v := v) (N := N) (D := D) (HLR.out k _ hp))
      rcases hA with h0 | ⟨g, off, rfl, hg, hcA⟩
      · rw [h0] at hp; cases hp
      obtain ⟨q0, q1, q2, q3⟩ := hcA k _ hp
      replace q0 := carry hb q0; replace q1 := carry hb q1; replace q2 := carry hb q2
      have lg := cell_lt q0
      clear hcA hp q3
      simp only at q0 q1 q2 hrd hwd hst hrok
      rcases hwd.out.1 with h0 | ⟨gz, oz, rfl, hgz, hcZ⟩
      · exact absurd h0 (by decide)
      have z0 := carry hb (hcZ v hv)
      have lz0 := cell_lt z0
      clear hcZ
      have al := bal (Below.refl wr.heap.size wr) (.cells #[.slice (some ⟨gz, oz, none⟩) 4 aC, .int .i64 r.B, .bool r.S] 28)
      by_cases hz : r.Z v = 0
      · have dz : (r.Z v == 0) = true := by simpa using hz
        have hT := hid (show roomT v N D r M = some M by unfold roomT; rw [if_pos hz])
        clear hz
        go_wp2
        go_roundw
        case rel => exact ⟨k + 1, M, by omega, by go_num, bal hb _, HR.out.alloc _, HE.out.alloc _, by rw [hst.out, HS.out]; exact hT.out⟩
        case measure => simp [intOf]; omega
      have dz : (r.Z v == 0) = false := by simpa using hz
      have HZ := hid hz
      have hB := srest_any (some ⟨gz, oz, none⟩) aC v n r V d N D _ hv hz (hrd.out.1.below al) hrok.out ((hV.below hb).below al)
      clear hz
      have hT0 := hid (fun (h : (bndR r v N D).2.2 = false) => (show roomT v N D r M = none by unfold roomT; rw [if_neg HZ.out, if_neg (by rw [h]; simp)]))
      have hT1 := hid (fun (h : (bndR r v N D).2.2 = true) (hp : 0 < r.Z v) => (show roomT v N D r M = some (M.lowHi (bndR r v N D).1 (bndR r v N D).2.1) by unfold roomT; rw [if_neg HZ.out, if_pos h, if_pos hp]))
      have hT2 := hid (fun (h : (bndR r v N D).2.2 = true) (hp : ¬ 0 < r.Z v) => (show roomT v N D r M = some (M.raiseLo (bndR r v N D).1 (bndR r v N D).2.1) by unfold roomT; rw [if_neg HZ.out, if_pos h, if_neg hp]))
      unfold SlP at hB
      generalize bndR r v N D = B at *
      obtain ⟨x, y, ok⟩ := B
      simp only at hB hT0 hT1 hT2
      have AL := hid al
      have l3 : wr.heap.size < (wr.alloc (.cells #[.slice (some ⟨gz, oz, none⟩) 4 aC, .int .i64 r.B, .bool r.S] 28)).heap.size := by simp
      have z3 := carry al z0
      have b3 : (wr.alloc (.cells #[.slice (some ⟨gz, oz, none⟩) 4 aC, .int .i64 r.B, .bool r.S] 28)).cell? ⟨wr.heap.size, 0, none⟩ = some (.slice (some ⟨gz, oz, none⟩) 4 aC) := by simp [go_sem]
      clear al
      cases ok with
      | false =>
        have hF := hid (show roomS v N D l rm0 = none from roomS_none (k := k + 1) (by rw [hst.out, HS.out]; exact hT0.out rfl))
        clear hT0 hT1 hT2 z3 b3
        go_wp2_with fail
        refine hB.mono ?_
        rintro e w2 ⟨x', y', rfl, _, hq⟩
        clear hB
        have hb2 := btr (btr hb AL.out) hq
        have hE2 := (row_below (row_below HE.out AL.out) hq).alloc (.cells #[.int .i64 x', .int .i64 y'] 52)
        have hR2 := (row_below (row_below HR.out AL.out) hq).alloc (.cells #[.int .i64 x', .int .i64 y'] 52)
        have hb3 := bal hb2 (.cells #[.int .i64 x', .int .i64 y'] 52)
        clear z0 q0 q1 q2 lg hgz hq l3
        go_upto_region 8 with fail
        generalize w2.alloc (.cells #[.int .i64 x', .int .i64 y'] 52) = w3 at *
        have e0 : w3.cell? ⟨w.heap.size + 1, 0, none⟩ = some (.int .i64 M.l1) := hE2.cell (i := 0) (by omega); have e1 : w3.cell? ⟨w.heap.size + 1, 1, none⟩ = some (.int .i64 M.l2) := hE2.cell (i := 1) (by omega); have e2 : w3.cell? ⟨w.heap.size + 1, 2, none⟩ = some (.int .i64 M.h1) := hE2.cell (i := 2) (by omega); have e3 : w3.cell? ⟨w.heap.size + 1, 3, none⟩ = some (.int .i64 M.h2) := hE2.cell (i := 3) (by omega); have e4 : w3.cell? ⟨w.heap.size + 1, 4, none⟩ = some (.bool M.isL) := hE2.cell (i := 4) (by omega); have e5 : w3.cell? ⟨w.heap.size + 1, 5, none⟩ = some (.bool M.isH) := hE2.cell (i := 5) (by omega)
        have f0 : w3.frozen? ⟨w.heap.size, 0, none⟩ = false := hR2.frozen 0; have r0 : w3.cell? ⟨w.heap.size, 0, none⟩ = some (.int .i64 0) := hR2.cell (i := 0) (by omega); have f1 : w3.frozen? ⟨w.heap.size, 1, none⟩ = false := hR2.frozen 1; have r1 : w3.cell? ⟨w.heap.size, 1, none⟩ = some (.int .i64 0) := hR2.cell (i := 1) (by omega); have f2 : w3.frozen? ⟨w.heap.size, 2, none⟩ = false := hR2.frozen 2; have r2 : w3.cell? ⟨w.heap.size, 2, none⟩ = some (.int .i64 0) := hR2.cell (i := 2) (by omega); have f3 : w3.frozen? ⟨w.heap.size, 3, none⟩ = false := hR2.frozen 3; have r3 : w3.cell? ⟨w.heap.size, 3, none⟩ = some (.int .i64 0) := hR2.cell (i := 3) (by omega); have f4 : w3.frozen? ⟨w.heap.size, 4, none⟩ = false := hR2.frozen 4; have r4 : w3.cell? ⟨w.heap.size, 4, none⟩ = some (.bool false) := hR2.cell (i := 4) (by omega); have f5 : w3.frozen? ⟨w.heap.size, 5, none⟩ = false := hR2.frozen 5; have r5 : w3.cell? ⟨w.heap.size, 5, none⟩ = some (.bool false) := hR2.cell (i := 5) (by omega)
        have l2 := hE2.lt
        have l1 := hR2.lt
        have HR2 := hid hR2
        clear hE2 hR2
        go_wp2
        have h6 := row6 HR2.out M
        have t0 := h6.cell (i := 0) (by omega); have t1 := h6.cell (i := 1) (by omega); have t2 := h6.cell (i := 2) (by omega); have t3 := h6.cell (i := 3) (by omega); have t4 := h6.cell (i := 4) (by omega); have t5 := h6.cell (i := 5) (by omega)
        simp only [endC] at t0 t1 t2 t3 t4 t5
        refine bodyPost_ret (v := .tuple #[.agg #[.int .i64 M.l1, .int .i64 M.l2, .int .i64 M.h1, .int .i64 M.h2, .bool M.isL, .bool M.isH], .bool false]) (by simp [results, Try.results84, go_sem, t0, t1, t2, t3, t4, t5]) rfl (EndP.no hF.out ?_)
        exact bst (bst (bst (bst (bst (bst hb3 (Nat.le_refl _) _) (Nat.le_refl _) _) (Nat.le_refl _) _) (Nat.le_refl _) _) (Nat.le_refl _) _) (Nat.le_refl _) _
      | true =>
        go_wp2_with fail
        refine hB.mono ?_
        rintro e w2 ⟨x', y', rfl, hxy, hq⟩
        obtain ⟨rfl, rfl⟩ : x = x' ∧ y = y' := (by simpa using hxy)
        clear hB hxy
        have a2 := bal (Below.refl w2.heap.size w2) (.cells #[.int .i64 x, .int .i64 y] 52)
        have hE3 := (row_below (row_below HE.out AL.out) hq).alloc (.cells #[.int .i64 x, .int .i64 y] 52)
        have hR3 := (row_below (row_below HR.out AL.out) hq).alloc (.cells #[.int .i64 x, .int .i64 y] 52)
        have hb3 := btr (btr (btr hb AL.out) hq) a2
        have z4 := carry a2 (carry hq z3)
        have b4 := carry a2 (carry hq b3)
        have x4 : (w2.alloc (.cells #[.int .i64 x, .int .i64 y] 52)).cell? ⟨w2.heap.size, 0, none⟩ = some (.int .i64 x) := by simp [go_sem]
        have y4 : (w2.alloc (.cells #[.int .i64 x, .int .i64 y] 52)).cell? ⟨w2.heap.size, 1, none⟩ = some (.int .i64 y) := by simp [go_sem]
        have lw2 : wr.heap.size < w2.heap.size := Nat.lt_of_lt_of_le l3 hq.size
        clear z0 q0 q1 q2 lg z3 b3 hq l3 a2
        go_upto_region 8 with fail
        generalize w2.alloc (.cells #[.int .i64 x, .int .i64 y] 52) = w3 at *
        have lE3 := hE3.lt; have lb4 := cell_lt b4; have lz4 := cell_lt z4; have lx4 := cell_lt x4
        clear lw2
        by_cases hpos : 0 < r.Z v
        · have hT := hid (hT1.out (by trivial) hpos)
          have dp : decide (0 < r.Z v) = true := by simpa using hpos
          have dn : decide (r.Z v < 0) = false := decide_eq_false (by omega)
          clear hpos hT0 hT1 hT2
          obtain ⟨mlo, mhi⟩ := M
          cases mhi with
          | none =>
            rw [lowHi_none rfl] at hT
            have ei : w3.cell? ⟨w.heap.size + 1, 5, none⟩ = some (.bool false) := hE3.cell (i := 5) (by omega)
            go_upto_region 11 with fail
            have fe := fun o => hE3.frozen o
            have g0 : w3.cell? ⟨w.heap.size + 1, 2, none⟩ = some _ := hE3.cell (i := 2) (by omega)
            have g1 : w3.cell? ⟨w.heap.size + 1, 3, none⟩ = some _ := hE3.cell (i := 3) (by omega)
            have g2 : w3.cell? ⟨w.heap.size + 1, 5, none⟩ = some _ := hE3.cell (i := 5) (by omega)
            have hE5 := rowHi (x := x) (y := y) hE3
            have hb5 := bst (bst (bst hb3 (p := ⟨w.heap.size + 1, 2, none⟩) (Nat.le_succ _) (.int .i64 x)) (p := ⟨w.heap.size + 1, 3, none⟩) (Nat.le_succ _) (.int .i64 y)) (p := ⟨w.heap.size + 1, 5, none⟩) (Nat.le_succ _) (.bool true)
            have hR5 := ((hR3.setOther (a := ⟨w.heap.size + 1, 2, none⟩) (Nat.ne_of_lt (Nat.lt_succ_self _)) (.int .i64 x)).setOther (a := ⟨w.heap.size + 1, 3, none⟩) (Nat.ne_of_lt (Nat.lt_succ_self _)) (.int .i64 y)).setOther (a := ⟨w.heap.size + 1, 5, none⟩) (Nat.ne_of_lt (Nat.lt_succ_self _)) (.bool true)
            have kc : ∀ b o u, b ≠ w.heap.size + 1 → w3.cell? ⟨b, o, none⟩ = some u → (((w3.setCell ⟨w.heap.size + 1, 2, none⟩ (.int .i64 x)).setCell ⟨w.heap.size + 1, 3, none⟩ (.int .i64 y)).setCell ⟨w.heap.size + 1, 5, none⟩ (.bool true)).cell? ⟨b, o, none⟩ = some u := fun b o u hne hc => by
              rw [World.cell?_setCell_other _ _ _ _ (by simp [hne]), World.cell?_setCell_other _ _ _ _ (by simp [hne]), World.cell?_setCell_other _ _ _ _ (by simp [hne])]; exact hc
            have z5 := kc _ _ _ (by omega) z4
            have b5 := kc _ _ _ (by omega) b4
            clear kc z4 b4 hE3 hR3 hb3
            go_upto_region 13 with fail
            generalize ((w3.setCell ⟨w.heap.size + 1, 2, none⟩ (.int .i64 x)).setCell ⟨w.heap.size + 1, 3, none⟩ (.int .i64 y)).setCell ⟨w.heap.size + 1, 5, none⟩ (.bool true) = w5 at *
            have lb5 := cell_lt b5; have lz5 := cell_lt z5
            clear fe g0 g1 g2
            go_wp2
            go_roundw
            case rel => exact ⟨k + 1, _, by omega, by go_num, hb5, hR5, hE5, by rw [hst.out, HS.out]; exact hT.out⟩
            case measure => simp [intOf]; omega
          | some hh =>
            obtain ⟨u1, u2⟩ := hh
            have ei : w3.cell? ⟨w.heap.size + 1, 5, none⟩ = some (.bool true) := hE3.cell (i := 5) (by omega)
            have ex : w3.cell? ⟨w.heap.size + 1, 2, none⟩ = some (.int .i64 u1) := hE3.cell (i := 2) (by omega)
            have ey : w3.cell? ⟨w.heap.size + 1, 3, none⟩ = some (.int .i64 u2) := hE3.cell (i := 3) (by omega)
            have hL := fun W => sless_any x y u1 u2 W
            cases hlb : lessB x y u1 u2 with
            | true =>
              rw [lowHi_yes rfl hlb] at hT
              rw [hlb] at hL
              go_upto_region 11 with (go_at_call 87; refine (hL _).mono ?_; rintro e w4 ⟨rfl, hq4⟩; clear ei ex ey lE3 lb4 lz4 lx4; replace hE3 := row_below hE3 hq4; replace hR3 := row_below hR3 hq4; replace hb3 := btr hb3 hq4; replace z4 := carry hq4 z4; replace b4 := carry hq4 b4; replace x4 := carry hq4 x4; replace y4 := carry hq4 y4; have lE3 := hE3.lt; have lb4 := cell_lt b4; have lz4 := cell_lt z4; have lx4 := cell_lt x4; clear hq4)
              have fe := fun o => hE3.frozen o
              have g0 : w4.cell? ⟨w.heap.size + 1, 2, none⟩ = some _ := hE3.cell (i := 2) (by omega)
              have g1 : w4.cell? ⟨w.heap.size + 1, 3, none⟩ = some _ := hE3.cell (i := 3) (by omega)
              have g2 : w4.cell? ⟨w.heap.size + 1, 5, none⟩ = some _ := hE3.cell (i := 5) (by omega)
              have hE5 := rowHi (x := x) (y := y) hE3
              have hb5 := bst (bst (bst hb3 (p := ⟨w.heap.size + 1, 2, none⟩) (Nat.le_succ _) (.int .i64 x)) (p := ⟨w.heap.size + 1, 3, none⟩) (Nat.le_succ _) (.int .i64 y)) (p := ⟨w.heap.size + 1, 5, none⟩) (Nat.le_succ _) (.bool true)
              have hR5 := ((hR3.setOther (a := ⟨w.heap.size + 1, 2, none⟩) (Nat.ne_of_lt (Nat.lt_succ_self _)) (.int .i64 x)).setOther (a := ⟨w.heap.size + 1, 3, none⟩) (Nat.ne_of_lt (Nat.lt_succ_self _)) (.int .i64 y)).setOther (a := ⟨w.heap.size + 1, 5, none⟩) (Nat.ne_of_lt (Nat.lt_succ_self _)) (.bool true)
              have kc : ∀ b o u, b ≠ w.heap.size + 1 → w4.cell? ⟨b, o, none⟩ = some u → (((w4.setCell ⟨w.heap.size + 1, 2, none⟩ (.int .i64 x)).setCell ⟨w.heap.size + 1, 3, none⟩ (.int .i64 y)).setCell ⟨w.heap.size + 1, 5, none⟩ (.bool true)).cell? ⟨b, o, none⟩ = some u := fun b o u hne hc => by
                rw [World.cell?_setCell_other _ _ _ _ (by simp [hne]), World.cell?_setCell_other _ _ _ _ (by simp [hne]), World.cell?_setCell_other _ _ _ _ (by simp [hne])]; exact hc
              have z5 := kc _ _ _ (by omega) z4
              have b5 := kc _ _ _ (by omega) b4
              clear kc z4 b4 hE3 hR3 hb3
              go_upto_region 13 with fail
              generalize ((w4.setCell ⟨w.heap.size + 1, 2, none⟩ (.int .i64 x)).setCell ⟨w.heap.size + 1, 3, none⟩ (.int .i64 y)).setCell ⟨w.heap.size + 1, 5, none⟩ (.bool true) = w5 at *
              have lb5 := cell_lt b5; have lz5 := cell_lt z5
              clear fe g0 g1 g2
              go_wp2
              go_roundw
              case rel => exact ⟨k + 1, _, by omega, by go_num, hb5, hR5, hE5, by rw [hst.out, HS.out]; exact hT.out⟩
              case measure => simp [intOf]; omega
            | false =>
              rw [lowHi_no rfl hlb] at hT
              rw [hlb] at hL
              go_upto_region 13 with (go_at_call 87; refine (hL _).mono ?_; rintro e w4 ⟨rfl, hq4⟩; clear ei ex ey lE3 lb4 lz4 lx4; replace hE3 := row_below hE3 hq4; replace hR3 := row_below hR3 hq4; replace hb3 := btr hb3 hq4; replace z4 := carry hq4 z4; replace b4 := carry hq4 b4; replace x4 := carry hq4 x4; replace y4 := carry hq4 y4; have lE3 := hE3.lt; have lb4 := cell_lt b4; have lz4 := cell_lt z4; have lx4 := cell_lt x4; clear hq4)
              go_wp2
              go_roundw
              case rel => exact ⟨k + 1, _, by omega, by go_num, hb3, hR3, hE3, by rw [hst.out, HS.out]; exact hT.out⟩
              case measure => simp [intOf]; omega
        · have hneg : r.Z v < 0 := by have := HZ.out; omega
          have hT := hid (hT2.out (by trivial) (by omega))
          have dp : decide (0 < r.Z v) = false := by simpa using hpos
          have dn : decide (r.Z v < 0) = true := decide_eq_true hneg
          clear hpos hneg hT0 hT1 hT2
          obtain ⟨mlo, mhi⟩ := M
          cases mlo with
          | none =>
            rw [raiseLo_none rfl] at hT
            have ei : w3.cell? ⟨w.heap.size + 1, 4, none⟩ = some (.bool false) := hE3.cell (i := 4) (by omega)
            go_upto_region 14 with fail
            have fe := fun o => hE3.frozen o
            have g0 : w3.cell? ⟨w.heap.size + 1, 0, none⟩ = some _ := hE3.cell (i := 0) (by omega)
            have g1 : w3.cell? ⟨w.heap.size + 1, 1, none⟩ = some _ := hE3.cell (i := 1) (by omega)
            have g2 : w3.cell? ⟨w.heap.size + 1, 4, none⟩ = some _ := hE3.cell (i := 4) (by omega)
            have hE5 := rowLo (x := x) (y := y) hE3
            have hb5 := bst (bst (bst hb3 (p := ⟨w.heap.size + 1, 0, none⟩) (Nat.le_succ _) (.int .i64 x)) (p := ⟨w.heap.size + 1, 1, none⟩) (Nat.le_succ _) (.int .i64 y)) (p := ⟨w.heap.size + 1, 4, none⟩) (Nat.le_succ _) (.bool true)
            have hR5 := ((hR3.setOther (a := ⟨w.heap.size + 1, 0, none⟩) (Nat.ne_of_lt (Nat.lt_succ_self _)) (.int .i64 x)).setOther (a := ⟨w.heap.size + 1, 1, none⟩) (Nat.ne_of_lt (Nat.lt_succ_self _)) (.int .i64 y)).setOther (a := ⟨w.heap.size + 1, 4, none⟩) (Nat.ne_of_lt (Nat.lt_succ_self _)) (.bool true)
            have kc : ∀ b o u, b ≠ w.heap.size + 1 → w3.cell? ⟨b, o, none⟩ = some u → (((w3.setCell ⟨w.heap.size + 1, 0, none⟩ (.int .i64 x)).setCell ⟨w.heap.size + 1, 1, none⟩ (.int .i64 y)).setCell ⟨w.heap.size + 1, 4, none⟩ (.bool true)).cell? ⟨b, o, none⟩ = some u := fun b o u hne hc => by
              rw [World.cell?_setCell_other _ _ _ _ (by simp [hne]), World.cell?_setCell_other _ _ _ _ (by simp [hne]), World.cell?_setCell_other _ _ _ _ (by simp [hne])]; exact hc
            have z5 := kc _ _ _ (by omega) z4
            have b5 := kc _ _ _ (by omega) b4
            clear kc z4 b4 hE3 hR3 hb3
            go_upto_region 4 with fail
            generalize ((w3.setCell ⟨w.heap.size + 1, 0, none⟩ (.int .i64 x)).setCell ⟨w.heap.size + 1, 1, none⟩ (.int .i64 y)).setCell ⟨w.heap.size + 1, 4, none⟩ (.bool true) = w5 at *
            have lb5 := cell_lt b5; have lz5 := cell_lt z5
            clear fe g0 g1 g2
            go_wp2
            go_roundw
            case rel => exact ⟨k + 1, _, by omega, by go_num, hb5, hR5, hE5, by rw [hst.out, HS.out]; exact hT.out⟩
            case measure => simp [intOf]; omega
          | some hh =>
            obtain ⟨u1, u2⟩ := hh
            have ei : w3.cell? ⟨w.heap.size + 1, 4, none⟩ = some (.bool true) := hE3.cell (i := 4) (by omega)
            have ex : w3.cell? ⟨w.heap.size + 1, 0, none⟩ = some (.int .i64 u1) := hE3.cell (i := 0) (by omega)
            have ey : w3.cell? ⟨w.heap.size + 1, 1, none⟩ = some (.int .i64 u2) := hE3.cell (i := 1) (by omega)
            have hL := fun W => sless_any u1 u2 x y W
            cases hlb : lessB u1 u2 x y with
            | true =>
              rw [raiseLo_yes rfl hlb] at hT
              rw [hlb] at hL
              go_upto_region 14 with (go_at_call 87; refine (hL _).mono ?_; rintro e w4 ⟨rfl, hq4⟩; clear ei ex ey lE3 lb4 lz4 lx4; replace hE3 := row_below hE3 hq4; replace hR3 := row_below hR3 hq4; replace hb3 := btr hb3 hq4; replace z4 := carry hq4 z4; replace b4 := carry hq4 b4; replace x4 := carry hq4 x4; replace y4 := carry hq4 y4; have lE3 := hE3.lt; have lb4 := cell_lt b4; have lz4 := cell_lt z4; have lx4 := cell_lt x4; clear hq4)
              have fe := fun o => hE3.frozen o
              have g0 : w4.cell? ⟨w.heap.size + 1, 0, none⟩ = some _ := hE3.cell (i := 0) (by omega)
              have g1 : w4.cell? ⟨w.heap.size + 1, 1, none⟩ = some _ := hE3.cell (i := 1) (by omega)
              have g2 : w4.cell? ⟨w.heap.size + 1, 4, none⟩ = some _ := hE3.cell (i := 4) (by omega)
              have hE5 := rowLo (x := x) (y := y) hE3
              have hb5 := bst (bst (bst hb3 (p := ⟨w.heap.size + 1, 0, none⟩) (Nat.le_succ _) (.int .i64 x)) (p := ⟨w.heap.size + 1, 1, none⟩) (Nat.le_succ _) (.int .i64 y)) (p := ⟨w.heap.size + 1, 4, none⟩) (Nat.le_succ _) (.bool true)
              have hR5 := ((hR3.setOther (a := ⟨w.heap.size + 1, 0, none⟩) (Nat.ne_of_lt (Nat.lt_succ_self _)) (.int .i64 x)).setOther (a := ⟨w.heap.size + 1, 1, none⟩) (Nat.ne_of_lt (Nat.lt_succ_self _)) (.int .i64 y)).setOther (a := ⟨w.heap.size + 1, 4, none⟩) (Nat.ne_of_lt (Nat.lt_succ_self _)) (.bool true)
              have kc : ∀ b o u, b ≠ w.heap.size + 1 → w4.cell? ⟨b, o, none⟩ = some u → (((w4.setCell ⟨w.heap.size + 1, 0, none⟩ (.int .i64 x)).setCell ⟨w.heap.size + 1, 1, none⟩ (.int .i64 y)).setCell ⟨w.heap.size + 1, 4, none⟩ (.bool true)).cell? ⟨b, o, none⟩ = some u := fun b o u hne hc => by
                rw [World.cell?_setCell_other _ _ _ _ (by simp [hne]), World.cell?_setCell_other _ _ _ _ (by simp [hne]), World.cell?_setCell_other _ _ _ _ (by simp [hne])]; exact hc
              have z5 := kc _ _ _ (by omega) z4
              have b5 := kc _ _ _ (by omega) b4
              clear kc z4 b4 hE3 hR3 hb3
              go_upto_region 4 with fail
              generalize ((w4.setCell ⟨w.heap.size + 1, 0, none⟩ (.int .i64 x)).setCell ⟨w.heap.size + 1, 1, none⟩ (.int .i64 y)).setCell ⟨w.heap.size + 1, 4, none⟩ (.bool true) = w5 at *
              have lb5 := cell_lt b5; have lz5 := cell_lt z5
              clear fe g0 g1 g2
              go_wp2
              go_roundw
              case rel => exact ⟨k + 1, _, by omega, by go_num, hb5, hR5, hE5, by rw [hst.out, HS.out]; exact hT.out⟩
              case measure => simp [intOf]; omega
            | false =>
              rw [raiseLo_no rfl hlb] at hT
              rw [hlb] at hL
              go_wp2_with (go_at_call 87; refine (hL _).mono ?_; rintro e w4 ⟨rfl, hq4⟩; clear ei ex ey lE3 lb4 lz4 lx4; replace hE3 := row_below hE3 hq4; replace hR3 := row_below hR3 hq4; replace hb3 := btr hb3 hq4; replace z4 := carry hq4 z4; replace b4 := carry hq4 b4; replace x4 := carry hq4 x4; replace y4 := carry hq4 y4; have lE3 := hE3.lt; have lb4 := cell_lt b4; have lz4 := cell_lt z4; have lx4 := cell_lt x4; clear hq4)
              go_wp2
              go_roundw
              case rel => exact ⟨k + 1, _, by omega, by go_num, hb3, hR3, hE3, by rw [hst.out, HS.out]; exact hT.out⟩
              case measure => simp [intOf]; omega
    · have hke : k = NN := by omega
      have HF := hid (show roomS v N D l rm0 = some M by have := HS.out; rwa [List.take_of_length_le (by rw [HLL.out]; omega)] at this)
      clear hke
      have hE2 := HE.out
      have hR2 := HR.out
      have e0 : wr.cell? ⟨w.heap.size + 1, 0, none⟩ = some (.int .i64 M.l1) := hE2.cell (i := 0) (by omega); have e1 : wr.cell? ⟨w.heap.size + 1, 1, none⟩ = some (.int .i64 M.l2) := hE2.cell (i := 1) (by omega); have e2 : wr.cell? ⟨w.heap.size + 1, 2, none⟩ = some (.int .i64 M.h1) := hE2.cell (i := 2) (by omega); have e3 : wr.cell? ⟨w.heap.size + 1, 3, none⟩ = some (.int .i64 M.h2) := hE2.cell (i := 3) (by omega); have e4 : wr.cell? ⟨w.heap.size + 1, 4, none⟩ = some (.bool M.isL) := hE2.cell (i := 4) (by omega); have e5 : wr.cell? ⟨w.heap.size + 1, 5, none⟩ = some (.bool M.isH) := hE2.cell (i := 5) (by omega)
      have f0 : wr.frozen? ⟨w.heap.size, 0, none⟩ = false := hR2.frozen 0; have r0 : wr.cell? ⟨w.heap.size, 0, none⟩ = some (.int .i64 0) := hR2.cell (i := 0) (by omega); have f1 : wr.frozen? ⟨w.heap.size, 1, none⟩ = false := hR2.frozen 1; have r1 : wr.cell? ⟨w.heap.size, 1, none⟩ = some (.int .i64 0) := hR2.cell (i := 1) (by omega); have f2 : wr.frozen? ⟨w.heap.size, 2, none⟩ = false := hR2.frozen 2; have r2 : wr.cell? ⟨w.heap.size, 2, none⟩ = some (.int .i64 0) := hR2.cell (i := 2) (by omega); have f3 : wr.frozen? ⟨w.heap.size, 3, none⟩ = false := hR2.frozen 3; have r3 : wr.cell? ⟨w.heap.size, 3, none⟩ = some (.int .i64 0) := hR2.cell (i := 3) (by omega); have f4 : wr.frozen? ⟨w.heap.size, 4, none⟩ = false := hR2.frozen 4; have r4 : wr.cell? ⟨w.heap.size, 4, none⟩ = some (.bool false) := hR2.cell (i := 4) (by omega); have f5 : wr.frozen? ⟨w.heap.size, 5, none⟩ = false := hR2.frozen 5; have r5 : wr.cell? ⟨w.heap.size, 5, none⟩ = some (.bool false) := hR2.cell (i := 5) (by omega)
      have l2 := hE2.lt
      have l1 := hR2.lt
      clear hE2 hR2
      go_wp2
      have h6 := row6 HR.out M
      have t0 := h6.cell (i := 0) (by omega); have t1 := h6.cell (i := 1) (by omega); have t2 := h6.cell (i := 2) (by omega); have t3 := h6.cell (i := 3) (by omega); have t4 := h6.cell (i := 4) (by omega); have t5 := h6.cell (i := 5) (by omega)
      simp only [endC] at t0 t1 t2 t3 t4 t5
      refine bodyPost_ret (v := .tuple #[.agg #[.int .i64 M.l1, .int .i64 M.l2, .int .i64 M.h1, .int .i64 M.h2, .bool M.isL, .bool M.isH], .bool true]) (by simp [results, Try.results84, go_sem, t0, t1, t2, t3, t4, t5]) rfl (EndP.yes HF.out ?_)
      exact bst (bst (bst (bst (bst (bst hb (Nat.le_refl _) _) (Nat.le_refl _) _) (Nat.le_refl _) _) (Nat.le_refl _) _) (Nat.le_refl _) _) (Nat.le_refl _) _
end Go.Proofs.Ytplocljoanaoeaa

namespace Go.Proofs.Ytplocljoanaoeaa
set_option linter.unusedVariables false
set_option linter.unusedSimpArgs false
open Go.RowKit
def flatZ : Nat → List Value
  | 0 => []
  | k + 1 => flatZ k ++ [.int .i64 0, .int .i64 1]
/-- four fractions in the block g, to read and to write -/
def RO (w : World) (g : Nat) (N D : Nat → Int) : Prop :=
  g < w.heap.size ∧ (∀ k, k < 4 → w.cell? ⟨g, k * 2, none⟩ = some (.int .i64 (N k)) ∧ w.cell? ⟨g, k * 2 + 1, none⟩ = some (.int .i64 (D k))) ∧ ∀ o, w.frozen? ⟨g, o, none⟩ = false
theorem RO.below {w w' : World} {g : Nat} {N D : Nat → Int} (h : RO w g N D) (hb : Below w.heap.size w w') : RO w' g N D :=
  ⟨Nat.lt_of_lt_of_le h.1 hb.size, fun k hk => ⟨carry hb (h.2.1 k hk).1, carry hb (h.2.1 k hk).2⟩, fun o => carryf hb (h.2.2 o) h.1⟩
theorem RO.rats {w : World} {g : Nat} {N D : Nat → Int} (h : RO w g N D) : Rats w (some ⟨g, 0, none⟩) 4 N D :=
  .inr ⟨g, 0, rfl, h.1, fun k hk => by rw [Nat.zero_add]; exact h.2.1 k hk⟩
theorem RO.set {w : World} {g k : Nat} {N D : Nat → Int} {x y : Int} (h : RO w g N D) (hk : k < 4) : RO ((w.setCell ⟨g, k * 2, none⟩ (.int .i64 x)).setCell ⟨g, k * 2 + 1, none⟩ (.int .i64 y)) g (updV N k x) (updV D k y) := by
  refine ⟨by simpa [World.setCell] using h.1, fun j hj => ?_, fun o => by simpa [go_sem] using h.2.2 o⟩
  by_cases e : j = k
  · subst e
    unfold updV
    rw [if_pos rfl, if_pos rfl]
    constructor
    · rw [World.cell?_setCell_other _ _ _ _ (by simp)]
      exact World.cell?_setCell_same' _ _ _ (by rw [(h.2.1 j hj).1]; rfl)
    · exact World.cell?_setCell_same' _ _ _ (by rw [World.cell?_setCell_other _ _ _ _ (by simp), (h.2.1 j hj).2]; rfl)
  · unfold updV
    rw [if_neg e, if_neg e]
    constructor
    · rw [World.cell?_setCell_other _ _ _ _ (by simp <;> omega), World.cell?_setCell_other _ _ _ _ (by simp <;> omega)]; exact (h.2.1 j hj).1
    · rw [World.cell?_setCell_other _ _ _ _ (by simp <;> omega), World.cell?_setCell_other _ _ _ _ (by simp <;> omega)]; exact (h.2.1 j hj).2
theorem own4 {w : World} {lo : Nat} {v : Value} (h : w.ownsRow lo 52 2 v 4 (flatZ 4)) : ∃ g c, v = .slice (some ⟨g, 0, none⟩) 4 c ∧ lo ≤ g ∧ RO w g (fun _ => 0) (fun _ => 1) := by
  have hc := fun g hg => h.cells (g := g) hg
  obtain ⟨_, ⟨e, h0⟩ | ⟨g, cap, cur, e, hg, hh, _⟩⟩ := h
  · omega
  · subst e
    refine ⟨g, cap, rfl, hg, (Array.getElem?_eq_some_iff.1 hh).1, fun k hk => ?_, fun o => by simp [World.frozen?, hh]⟩
    have hx : ∀ j x, (flatZ 4)[j]? = some x → w.cell? ⟨g, j, none⟩ = some x := fun j x hj => by
      have := hc g rfl j x hj
      rw [show (⟨g, 0, none⟩ : Addr).add j = ⟨g, j, none⟩ by unfold Addr.add; split <;> simp_all] at this
      exact this
    rcases lt4 hk with rfl | rfl | rfl | rfl <;> exact ⟨hx _ _ rfl, hx _ _ rfl⟩
/-- the lists of the steps, in the model's memory -/
def BefM (w : World) (S n : Nat) (ms : Nat → List MRow) : Prop := ∀ i, i < 4 → ∃ A c, w.cell? ⟨S, i, none⟩ = some (.slice A (ms i).length c) ∧ SlM n w A (ms i) ∧ ∀ m ∈ ms i, MRd n w m
theorem BefM.below {w w' : World} {S n : Nat} {ms : Nat → List MRow} (h : BefM w S n ms) (hb : Below w.heap.size w w') : BefM w' S n ms := fun i hi => by
  obtain ⟨A, c, h0, h1, h2⟩ := h i hi
  exact ⟨A, c, carry hb h0, h1.below hb, fun m hm => (h2 m hm).below hb⟩
/-- what l3Back answers -/
def BackP (w : World) (V : Option ((Nat → Int) × (Nat → Int))) (e : Ending) (w' : World) : Prop :=
  ∃ g c, e = .returned (.tuple #[.slice (some ⟨g, 0, none⟩) 4 c, .bool V.isSome]) ∧ Below w.heap.size w w' ∧ w.heap.size ≤ g ∧ ∀ X, V = some X → RO w' g X.1 X.2
theorem BackP.no {w w' : World} {V : Option ((Nat → Int) × (Nat → Int))} {g c : Nat} (h : V = none) (hb : Below w.heap.size w w') (hg : w.heap.size ≤ g) : BackP w V (.returned (.tuple #[.slice (some ⟨g, 0, none⟩) 4 c, .bool false])) w' := by
  subst h; exact ⟨g, c, rfl, hb, hg, fun X e => by cases e⟩
theorem BackP.yes {w w' : World} {V : Option ((Nat → Int) × (Nat → Int))} {X : (Nat → Int) × (Nat → Int)} {g c : Nat} (h : V = some X) (hb : Below w.heap.size w w') (hg : w.heap.size ≤ g) (hr : RO w' g X.1 X.2) : BackP w V (.returned (.tuple #[.slice (some ⟨g, 0, none⟩) 4 c, .bool true])) w' := by
  subst h; exact ⟨g, c, rfl, hb, hg, fun Y e => by injection e with e; subst e; exact hr⟩
theorem build_r1 (w : World) : (Instr.build 52 #[(1, .int .i64 1)]).run Try.prog w = .ok (.agg #[.int .i64 0, .int .i64 1]) w := by kernel_rfl
set_option maxRecDepth 100000 in
set_option maxHeartbeats 16000000 in
theorem sback_any (S n : Nat) (l : List FRw) (ms : Nat → List MRow) (w : World) (hB : BefM w S n ms) (hlen : ∀ i, i < 4 → (ms i).length ≤ 200) (hok : ∀ i, i < 4 → ∀ m ∈ ms i, m.r.ok n) (hmap : ∀ i, i < 4 → (ms i).map MRow.r = rowsE l (3 - i)) :
    Calls Try.prog 55 #[.slice (some ⟨S, 0, none⟩) 4 4] w (BackP w (backV l 4)) := by
  obtain ⟨i0, hi, hz0, hz1, hz2⟩ := info_parts infoR
  have HB := hid hB; have HLEN := hid hlen; have HOK := hid hok; have HMAP := hid hmap
  clear hB hlen hok hmap
  have ho0 : (w.alloc (.cells #[] 52)).ownsRow w.heap.size 52 2 (.slice (some ⟨w.heap.size, 0, none⟩) 0 0) 0 (flatZ 0) := World.ownsRow_made w #[] 0 (Nat.le_refl _) (by decide) rfl
  have hb0 : Below w.heap.size w (w.alloc (.cells #[] 52)) := bal (Below.refl _ _) _
  have hbr := build_r1
  go_enter Try.func55, Try.ntmps55
  go_wp2
  go_loopw [4, 5] (fun r4 i wr => ∃ k : Nat, k ≤ 4 ∧ i = .int .i64 k ∧ Below w.heap.size w wr ∧ wr.ownsRow w.heap.size 52 2 r4 k (flatZ k)) (fun _ i _ => 4 - (intOf i).toNat)
  case atStart => exact ⟨0, Nat.zero_le _, rfl, hb0, ho0⟩
  case round =>
    clear ho0 hb0
    obtain ⟨k, hk, rfl, hb, ho⟩ := hrel
    have HO := hid ho
    clear ho
    have dk : decide ((k : Int) < 4) = decide (k < 4) := by congr 1; exact propext ⟨fun h => by omega, fun h => by omega⟩
    by_cases hlt : k < 4
    · have hbA := bal (Below.refl wr.heap.size wr) (.cells #[.int .i64 0, .int .i64 1] 52)
      have hoA := hid (own_below hbA HO.out)
      have hszA : w.heap.size ≤ (wr.alloc (.cells #[.int .i64 0, .int .i64 1] 52)).heap.size := Nat.le_trans hb.size hbA.size
      have hn1 : Hid (∀ j u, ([.int .i64 0, .int .i64 1] : List Value)[j]? = some u → (wr.alloc (.cells #[.int .i64 0, .int .i64 1] 52)).cell? ((⟨wr.heap.size, 0, none⟩ : Addr).add j) = some u) := hid (fun j u hj => by
        rw [show (⟨wr.heap.size, 0, none⟩ : Addr).add j = ⟨wr.heap.size, j, none⟩ by unfold Addr.add; split <;> simp_all]
        have hj2 : j < 2 := (List.getElem?_eq_some_iff.1 hj).1
        rcases (show j = 0 ∨ j = 1 by omega) with rfl | rfl <;> (simp at hj; subst hj; simp [go_sem]))
      have h1c : Hid (∀ u ∈ ([.int .i64 0, .int .i64 1] : List Value), u.oneCell' = true) := hid (fun u hu => by simp at hu; rcases hu with rfl | rfl <;> rfl)
      have hbb := hid (btr hb hbA)
      clear hbA
      go_wp2_with ((at_builtin; go_loud (refine wpList_append_own_at _ rfl _ _ 29 rfl w.heap.size 52 i0 _ 2 16 Try.underlying29 hi hz0 hz1 hz2 rfl (by decide) _ _ _ rfl hoA.out ⟨wr.heap.size, 0, none⟩ 1 1 [.int .i64 0, .int .i64 1] rfl rfl hn1.out h1c.out (by unfold maxLen; omega) (by omega) hszA ?_); intro v' w5 hown hgrow _ hblk; have hb5 := hid (fl_growM hbb.out hgrow (fun g e => (hoA.out.lt g e).1)); have HOW := hid hown; clear hown hgrow hblk))
      go_roundw
      case rel => exact ⟨k + 1, by omega, by go_num, hb5.out, HOW.out⟩
      case measure => simp [intOf]; omega
    · have hke : k = 4 := by omega
      subst hke
      clear dk
      have dk : decide (((4 : Nat) : Int) < 4) = false := by decide
      obtain ⟨g, cg, rfl, hg, hRO⟩ := own4 HO.out
      have HR0 := hid hRO
      clear hRO HO dk
      simp only [Int.cast_ofNat_Int]
      have dk : decide ((4 : Int) < 4) = false := by decide
      go_wp2
      clear dk
      go_loopw [6] (fun i wx => ∃ (k : Nat) (X : (Nat → Int) × (Nat → Int)), k ≤ 4 ∧ i = .int .i64 k ∧ Below w.heap.size w wx ∧ RO wx g X.1 X.2 ∧ backV l k = some X) (fun i _ => 4 - (intOf i).toNat)
      case atStart => exact ⟨0, (fun _ => 0, fun _ => 1), Nat.zero_le _, rfl, hb, HR0.out, rfl⟩
      case round =>
        clear HR0 hb hk hlt
        obtain ⟨k, X, hk, rfl, hb, hR, hs⟩ := hrel
        have HR := hid hR; have HS := hid hs
        clear hR hs
        have dk : decide ((k : Int) < 4) = decide (k < 4) := by congr 1; exact propext ⟨fun h => by omega, fun h => by omega⟩
        by_cases hlt : k < 4
        · obtain ⟨A1, c1, s0, hS, hM⟩ := HB.out.below hb k hlt
          have ls := cell_lt s0
          have hC := hid (sbounds_any n k A1 c1 (ms k) (some ⟨g, 0, none⟩) cg X.1 X.2 wr hlt (HLEN.out k hlt) hS hM (HOK.out k hlt) HR.out.rats)
          generalize hrm : roomS k X.1 X.2 ((ms k).map MRow.r) rm0 = R at hC
          have HRM := hid (show roomS k X.1 X.2 (rowsE l (3 - k)) rm0 = R by rw [← HMAP.out k hlt]; exact hrm)
          clear hrm hS hM
          go_wp2_with fail
          refine hC.out.mono ?_
          rintro e w2 ⟨M, rfl, hq, hMR⟩
          clear hC
          have a2 := bal (Below.refl w2.heap.size w2) (.cells #[.int .i64 M.l1, .int .i64 M.l2, .int .i64 M.h1, .int .i64 M.h2, .bool M.isL, .bool M.isH] 126)
          have hb3 := btr (btr hb hq) a2
          have hR3 := (HR.out.below hq).below a2
          cases R with
          | none =>
            have hF := hid (backV_no (j := 4) (backV_a HS.out HRM.out) (by omega))
            clear a2 hMR
            go_wp2
            go_ret2
            exact BackP.no hF.out hb3 hg
          | some M1 =>
            obtain rfl := hMR M1 rfl
            have hP := hid (schoose_any M1)
            obtain ⟨⟨x, y, b⟩, hpk⟩ : ∃ p, p = pickR M1 := ⟨_, rfl⟩
            rw [← hpk] at hP
            unfold AtP at hP
            simp only at hP
            have hk1 := hid (fun h : b = false => backV_no (j := 4) (backV_b HS.out HRM.out (by rw [← hpk]; exact h)) (by omega))
            have hk2 := hid (fun h : b = true => backV_c HS.out HRM.out (show pickR M1 = (x, y, true) by rw [← hpk, h]))
            clear hpk hMR
            have d6 : ∀ o v, #[Value.int .i64 M1.l1, .int .i64 M1.l2, .int .i64 M1.h1, .int .i64 M1.h2, .bool M1.isL, .bool M1.isH][o]? = some v → (w2.alloc (.cells #[.int .i64 M1.l1, .int .i64 M1.l2, .int .i64 M1.h1, .int .i64 M1.h2, .bool M1.isL, .bool M1.isH] 126)).cell? ⟨w2.heap.size, o, none⟩ = some v := fun o v h => by simp [go_sem, h]
            have c0 := d6 0 _ rfl; have c1 := d6 1 _ rfl; have c2 := d6 2 _ rfl; have c3 := d6 3 _ rfl; have c4 := d6 4 _ rfl; have c5 := d6 5 _ rfl
            have HR3 := hid hR3
            clear a2 d6 hR3
            go_upto_region 10 with fail
            generalize w2.alloc (.cells #[.int .i64 M1.l1, .int .i64 M1.l2, .int .i64 M1.h1, .int .i64 M1.h2, .bool M1.isL, .bool M1.isH] 126) = w3 at *
            have l0 := cell_lt c0
            go_wp2_with fail
            refine (hP.out _).mono ?_
            rintro e w4 ⟨rfl, hq4⟩
            have hb4 := btr hb3 hq4
            have hR4 := HR3.out.below hq4
            have hR5 := hid (hR4.set (x := x) (y := y) hlt)
            have hb5 := hid (bst (bst hb4 (p := ⟨g, k * 2, none⟩) hg (.int .i64 x)) (p := ⟨g, k * 2 + 1, none⟩) hg (.int .i64 y))
            have v0 := (hR4.2.1 k hlt).1
            have v1 := (hR4.2.1 k hlt).2
            have vf := hR4.2.2
            have lv := hR4.1
            clear hP c0 c1 c2 c3 c4 c5 l0 hR4 hb3 hb4
            cases b with
            | false =>
              have hF := hid (hk1.out rfl)
              clear hk1 hk2
              go_wp2
              go_ret2
              exact BackP.no hF.out hb5.out hg
            | true =>
              have hF := hid (hk2.out rfl)
              clear hk1 hk2
              go_wp2
              go_roundw
              case rel =>
                exact ⟨k + 1, _, by omega, by go_num, hb5.out, hR5.out, hF.out⟩
              case measure => simp [intOf]; omega
        · have hke : k = 4 := by omega
          subst hke
          go_wp2
          go_ret2
          exact BackP.yes HS.out hb hg HR.out
end Go.Proofs.Ytplocljoanaoeaa

namespace Go.Proofs.Ytplocljoanaoeaa
set_option linter.unusedVariables false
set_option linter.unusedSimpArgs false
open Go.RowKit
/-- the block of the model's steps -/
def BfM (w : World) (S : Nat) (F : Nat → Value) : Prop := w.rowIs S 86 4 F ∧ ∀ v, v < 4 → ∃ a n c, F v = .slice a n c
theorem BfM.far {w : World} {S g o : Nat} {F : Nat → Value} {x : Int} (h : BfM w S F) (hc : w.cell? ⟨g, o, none⟩ = some (.int .i64 x)) : g ≠ S := by
  intro e
  subst e
  by_cases ho : o < 4
  · obtain ⟨a, n, c, hF⟩ := h.2 _ ho
    rw [h.1.cell ho, hF] at hc
    cases hc
  · obtain ⟨⟨cs, hcs, hz, hv⟩, _⟩ := h
    simp only [World.cell?, hcs, Option.bind_some] at hc
    have h5 : cs[o]? = none := Array.getElem?_eq_none (by omega)
    simp [h5] at hc
theorem BfM.ints {w : World} {S v n : Nat} {F : Nat → Value} {A : Option Addr} {Z : Nat → Int} {u : Value} (h : BfM w S F) (hn : n ≠ 0) (hs : Ints w A n Z) : Ints (w.setCell ⟨S, v, none⟩ u) A n Z := by
  rcases hs with hs | ⟨g, off, ha, hg, hc⟩
  · exact .inl hs
  · have e := h.far (hc 0 (by omega))
    exact .inr ⟨g, off, ha, by simpa [World.setCell] using hg, fun k hk => by rw [World.cell?_setCell_other _ _ _ _ (by simp [e])]; exact hc k hk⟩
theorem BfM.rd {w : World} {S v n : Nat} {F : Nat → Value} {m : MRow} {u : Value} (h : BfM w S F) (hn : n ≠ 0) (hs : MRd n w m) : MRd n (w.setCell ⟨S, v, none⟩ u) m := ⟨h.ints (by omega) hs.1, h.ints hn hs.2⟩
theorem BfM.sl {w : World} {S v n : Nat} {F : Nat → Value} {A : Option Addr} {ms : List MRow} {u : Value} (h : BfM w S F) (hs : SlM n w A ms) : SlM n (w.setCell ⟨S, v, none⟩ u) A ms := by
  rcases hs with hs | ⟨g, off, ha, hg, hc⟩
  · exact .inl hs
  · cases ms with
    | nil => exact .inl rfl
    | cons m ms =>
      have e := h.far (hc 0 m rfl).2.1
      refine .inr ⟨g, off, ha, by simpa [World.setCell] using hg, fun k m' hk => ?_⟩
      obtain ⟨h1, h2, h3, h4⟩ := hc k m' hk
      refine ⟨?_, ?_, ?_, ?_⟩ <;> (rw [World.cell?_setCell_other _ _ _ _ (by simp [e])]; assumption)
theorem BfM.set {w : World} {S v n c : Nat} {F : Nat → Value} {a : Option Addr} (h : BfM w S F) : BfM (w.setCell ⟨S, v, none⟩ (.slice a n c)) S (fun i => if i = v then .slice a n c else F i) :=
  ⟨h.1.set v _, fun i hi => by
    by_cases e : i = v
    · exact ⟨a, n, c, if_pos e⟩
    · obtain ⟨a', n', c', h'⟩ := h.2 i hi
      exact ⟨a', n', c', (if_neg e).trans h'⟩⟩
theorem BfM.below {w w' : World} {S : Nat} {F : Nat → Value} (h : BfM w S F) (hb : Below w.heap.size w w') : BfM w' S F := ⟨row_below h.1 hb, h.2⟩
/-- the state of the model's FarRun behind j steps -/
structure SolM (w : World) (l : List FRw) (n S j : Nat) (A : Option Addr) (ms : List MRow) (MS : Nat → List MRow) (F : Nat → Value) (wr : World) : Prop where
  below : Below w.heap.size w wr
  sl : SlM n wr A ms
  rd : ∀ m ∈ ms, MRd n wr m
  map : ms.map MRow.r = rowsE l j
  ok : okE l j = true
  bf : BfM wr S F
  ps : ∀ v, v < 4 → 3 - v < j → ∃ a c, F v = .slice a (MS v).length c ∧ SlM n wr a (MS v) ∧ (∀ m ∈ MS v, MRd n wr m) ∧ (MS v).map MRow.r = rowsE l (3 - v)
theorem SolM.next {w wr w' : World} {l : List FRw} {n S j c : Nat} {A A' : Option Addr} {ms qs : List MRow} {MS : Nat → List MRow} {F : Nat → Value} (h : SolM w l n S j A ms MS F wr) (hj : j < 4) (hn : n ≠ 0) (hwS : w.heap.size ≤ S) (hb' : Below (wr.setCell ⟨S, 3 - j, none⟩ (.slice A ms.length c)).heap.size (wr.setCell ⟨S, 3 - j, none⟩ (.slice A ms.length c)) w')
    (hd : dropOk (3 - j) (rowsE l j) = true) (hs : SlM n w' A' qs) (hr : ∀ m ∈ qs, MRd n w' m) (hm : qs.map MRow.r = dropL (3 - j) (rowsE l j)) :
    SolM w l n S (j + 1) A' qs (fun v => if v = 3 - j then ms else MS v) (fun v => if v = 3 - j then .slice A ms.length c else F v) w' := by
  refine ⟨btr (bst h.below (p := ⟨S, 3 - j, none⟩) hwS _) hb', hs, hr, hm, ?_, (h.bf.set).below hb', fun v hv hvj => ?_⟩
  · unfold okE; rw [h.ok, hd]; rfl
  · by_cases e : v = 3 - j
    · subst e
      refine ⟨A, c, by rw [if_pos rfl, if_pos rfl], ?_, ?_, ?_⟩
      · rw [if_pos rfl]; exact (h.bf.sl h.sl).below hb'
      · rw [if_pos rfl]; exact fun m hm => (h.bf.rd hn (h.rd m hm)).below hb'
      · rw [if_pos rfl, show 3 - (3 - j) = j by omega]; exact h.map
    · obtain ⟨a, c2, h1, h2, h3, h4⟩ := h.ps v hv (by omega)
      refine ⟨a, c2, by rw [if_neg e, if_neg e]; exact h1, ?_, ?_, by rw [if_neg e]; exact h4⟩
      · rw [if_neg e]; exact (h.bf.sl h2).below hb'
      · rw [if_neg e]; exact fun m hm => (h.bf.rd hn (h3 m hm)).below hb'
/-- nothing, or fractions in a block before z -/
def RatZ (z : Nat) (w : World) (A : Option Addr) (m : Nat) (N D : Nat → Int) : Prop :=
  m = 0 ∨ ∃ g, A = some ⟨g, 0, none⟩ ∧ g < z ∧ g < w.heap.size ∧ ∀ k, k < m → w.cell? ⟨g, k * 2, none⟩ = some (.int .i64 (N k)) ∧ w.cell? ⟨g, k * 2 + 1, none⟩ = some (.int .i64 (D k))
/-- nothing, or numbers in a block before z -/
def IntZ (z : Nat) (w : World) (A : Option Addr) (m : Nat) (Z : Nat → Int) : Prop :=
  m = 0 ∨ ∃ g, A = some ⟨g, 0, none⟩ ∧ g < z ∧ g < w.heap.size ∧ ∀ k, k < m → w.cell? ⟨g, k, none⟩ = some (.int .i64 (Z k))
def SRunP (w : World) (n : Nat) (R : FarE) (e : Ending) (w' : World) : Prop :=
  ∃ A c B d, e = .returned (.tuple #[.slice A R.m c, .slice B (R.k n) d, .int .i64 R.code]) ∧ Below w.heap.size w w' ∧ RatZ w'.heap.size w' A R.m R.N R.D ∧ IntZ w'.heap.size w' B (R.k n) R.U
theorem SRunP.much {w w' : World} {n c d : Nat} {A B : Option Addr} {R : FarE} (h : R = .much) (hb : Below w.heap.size w w') : SRunP w n R (.returned (.tuple #[.slice A 0 c, .slice B 0 d, .int .i64 2])) w' := by
  subst h; exact ⟨A, c, B, d, rfl, hb, .inl rfl, .inl rfl⟩
theorem SRunP.form {w w' : World} {n c d : Nat} {A B : Option Addr} {R : FarE} (h : R = .form) (hb : Below w.heap.size w w') : SRunP w n R (.returned (.tuple #[.slice A 0 c, .slice B 0 d, .int .i64 3])) w' := by
  subst h; exact ⟨A, c, B, d, rfl, hb, .inl rfl, .inl rfl⟩
theorem SRunP.no {w w' : World} {n c d : Nat} {A B : Option Addr} {U : Nat → Int} {R : FarE} (h : R = .no U) (hb : Below w.heap.size w w') {W0 : World} (hr : OwnI W0 w' B n U) : SRunP w n R (.returned (.tuple #[.slice A 0 c, .slice B n d, .int .i64 1])) w' := by
  subst h
  refine ⟨A, c, B, d, rfl, hb, .inl rfl, ?_⟩
  rcases hr with h | ⟨g, ha, _, hg, hc⟩
  · exact .inl h
  · exact .inr ⟨g, ha, hg, hg, fun k hk => (hc k hk).1⟩
theorem SRunP.yes {w w' : World} {n g c d : Nat} {B : Option Addr} {N D : Nat → Int} {R : FarE} (h : R = .yes N D) (hb : Below w.heap.size w w') (hr : RO w' g N D) : SRunP w n R (.returned (.tuple #[.slice (some ⟨g, 0, none⟩) 4 c, .slice B 0 d, .int .i64 0])) w' := by
  subst h; exact ⟨_, c, B, d, rfl, hb, .inr ⟨g, rfl, hr.1, hr.1, fun k hk => hr.2.1 k hk⟩, .inl rfl⟩
theorem mks4 (w : World) : (Instr.makeSlice 92 (.int .i64 4) (.int .i64 4)).run Try.prog w = .ok (.slice (some ⟨w.heap.size, 0, none⟩) 4 4) (w.alloc (.cells #[.slice none 0 0, .slice none 0 0, .slice none 0 0, .slice none 0 0] 86)) := by kernel_rfl
theorem rowsE_nil : ∀ j, rowsE [] j = []
  | 0 => rfl
  | j + 1 => by
    show dropL (3 - j) (rowsE [] j) = []
    rw [rowsE_nil j]
    rfl
set_option maxRecDepth 100000 in
set_option maxHeartbeats 16000000 in
theorem sfarrun_any (A : Option Addr) (n c : Nat) (L : Lst) (w : World) (hn : n ≤ 9223372036854775806) (hA : Lins w A n L) (hN : ∀ k, k < n → L.N k ≤ 1048576) :
    Calls Try.prog 26 #[.slice A n c] w (SRunP w n (runE n L)) := by
  generalize hr : runE n L = R
  have HR := hid hr; clear hr
  cases hok : okS n L with
  | false =>
    have HF := hid (runE_form hok)
    rw [HR.out] at HF
    have hG := fun W hb => sl3ok_at' (c := c) hn hA hN hok W hb
    clear hok hA hN
    go_enter Try.func26, Try.ntmps26
    go_wp2_with fail
    refine (hG _ (bal (Below.refl _ _) _)).mono ?_
    rintro e w1 ⟨rfl, hb⟩
    clear hG
    go_wp2
    go_ret3
    exact SRunP.form HF.out (bal (btr (bal (Below.refl _ _) _) hb) _)
  | true =>
    have HOK := hid hok
    have HF := hid (runE_sol hok)
    rw [HR.out] at HF
    have hG := fun W hb => sl3ok_at' (c := c) hn hA hN hok W hb
    clear hok
    have hn20 := (okS_iff.1 HOK.out).1
    have hN4 : ∀ k, k < n → L.N k = 4 := fun k hk => (okL_iff.1 ((okS_iff.1 HOK.out).2 k hk)).1
    have q0 : Below w.heap.size w (w.alloc (.cells #[] 52)) := bal (Below.refl _ _) _
    have HA := hid hA
    have HN := hid hN
    have hms := mks4
    clear hA hN hn
    go_enter Try.func26, Try.ntmps26
    go_wp2_with fail
    refine (hG _ q0).mono ?_
    rintro e w1 ⟨rfl, hb⟩
    clear hG
    replace q0 := btr q0 hb
    have q1 := bal q0 (.cells #[.slice none 0 0, .slice none 0 0, .slice none 0 0, .slice none 0 0] 86)
    have hRows := srows_any A n c L _ hn20 (HA.out.below q1) hN4
    have hB0 : BfM (w1.alloc (.cells #[.slice none 0 0, .slice none 0 0, .slice none 0 0, .slice none 0 0] 86)) w1.heap.size (fun _ => .slice none 0 0) := ⟨World.rowIs_alloc w1 _ _ _ cells4s, fun v hv => ⟨_, _, _, rfl⟩⟩
    have hS0 : w.heap.size ≤ w1.heap.size := q0.size
    clear hb q0
    go_wp2_with fail
    clear hms
    refine hRows.mono ?_
    clear hRows
    rintro e w2 ⟨A2, c2, ms, rfl, hb, hml, hS, hM, hmr⟩
    replace hB0 := hB0.below hb
    replace q1 := btr q1 hb
    clear hb
    generalize w1.heap.size = S at *
    obtain ⟨n1, hn1, hn12, hnn, hS1, hM1, hO1⟩ : ∃ n1, 0 < n1 ∧ n1 ≤ 20 ∧ (n1 = n ∨ givenL n L = []) ∧ SlM n1 w2 A2 ms ∧ (∀ m ∈ ms, MRd n1 w2 m) ∧ (∀ r ∈ givenL n L, r.ok n1) := by
      by_cases e : n = 0
      · have h0 : ms = [] := List.length_eq_zero_iff.1 (by omega)
        subst h0
        have h1 : givenL n L = [] := hmr.symm
        exact ⟨1, by omega, by omega, .inr h1, .inl rfl, (fun m hm => by cases hm), (fun m hm => by rw [h1] at hm; cases hm)⟩
      · exact ⟨n, by omega, hn20, .inl rfl, hS, hM, fun r hr => given_ok HOK.out r hr⟩
    have hll : (givenL n L).length ≤ 200 := by rw [given_len]; omega
    have HNN := hid hnn
    have HLO := hid (rowsE_ok hn12 hO1)
    have HLL := hid (rowsE_len hll)
    have hS00 : SolM w (givenL n L) n1 S 0 A2 ms (fun _ => []) (fun _ => .slice none 0 0) w2 := ⟨q1, hS1, hM1, hmr, rfl, hB0, fun v hv h => absurd h (by omega)⟩
    have HS0 := hid hS00
    clear hS hM hS1 hM1 hO1 hll hnn hS00 hB0 q1 hmr
    have HML := hid hml
    clear hml
    generalize givenL n L = l at *
    go_wp2
    go_loopw [7, 8] (fun r7 i wr => ∃ (j : Nat) (A : Option Addr) (c : Nat) (ms : List MRow) (MS : Nat → List MRow) (F : Nat → Value), j ≤ 4 ∧ i = .int .i64 (3 - (j : Int)) ∧ r7 = .slice A ms.length c ∧ SolM w l n1 S j A ms MS F wr) (fun _ i _ => (intOf i + 1).toNat)
    case atStart => exact ⟨0, A2, c2, ms, _, _, Nat.zero_le _, rfl, by rw [HML.out], HS0.out⟩
    case round =>
      clear HS0
      obtain ⟨j, A3, c3, ms, MS, F, hj, rfl, rfl, hS⟩ := hrel
      have HS := hid hS; clear hS
      have hlen := HLL.out j HS.out.ok
      rw [← HS.out.map, List.length_map] at hlen
      by_cases hlt : j < 4
      · obtain ⟨v, hv⟩ : ∃ v : Nat, v = 3 - j := ⟨_, rfl⟩
        have hvi : (3 : Int) - (j : Int) = (v : Int) := by omega
        have hv4 : v < 4 := by omega
        have HV := hid hv
        have HVI := hid hvi
        rw [hvi]
        clear hvi hv
        have d0 : decide ((0 : Int) ≤ (v : Int)) = true := decide_eq_true (by omega)
        have s0 := HS.out.bf.1.cell hv4
        have sf := HS.out.bf.1.frozen v
        have ls := HS.out.bf.1.lt
        have hlk := HLO.out j (by omega) HS.out.ok
        rw [← HS.out.map] at hlk
        have hC := hid (sdrop_any n1 v A3 c3 ms (wr.setCell ⟨S, v, none⟩ (.slice A3 ms.length c3)) hv4 hn1 hn12 hlen (HS.out.bf.sl HS.out.sl) (fun m hm => HS.out.bf.rd (by omega) (HS.out.rd m hm)) (fun m hm => hlk m.r (List.mem_map.2 ⟨m, hm, rfl⟩)))
        rw [HS.out.map] at hC
        clear hlk
        go_wp2_with fail
        refine hC.out.mono ?_
        rintro e w3 ⟨A4, m4, c4, qs, rfl, hb4, hq⟩
        clear hC
        have hbw := hid (btr (bst HS.out.below (p := ⟨S, v, none⟩) hS0 (.slice A3 ms.length c3)) hb4)
        have hdn := hid (fun (h : dropOk v (rowsE l j) = false) => solE_no HS.out.ok hlt (by rw [← HV.out]; exact h))
        have hdy := hid (fun (h : dropOk v (rowsE l j) = true) => HS.out.next (c := c3) hlt (by omega) hS0 (by rw [← HV.out]; exact hb4) (by rw [← HV.out]; exact h) (hq h).2.1 (hq h).2.2.1 (by rw [← HV.out]; exact (hq h).2.2.2))
        have hml := hid (fun (h : dropOk v (rowsE l j) = true) => (hq h).1)
        clear hb4 hq s0 sf ls
        generalize dropOk v (rowsE l j) = bd at hdn hdy hml
        cases bd with
        | false =>
          have hN := hid (hdn.out rfl)
          clear hdn hdy hml
          rw [hN.out] at HF
          have hF := hid (show R = .much from HF.out)
          go_wp2
          go_ret3
          exact SRunP.much hF.out (bal hbw.out _)
        | true =>
          have hS2 := hid (hdy.out rfl)
          obtain hml2 := hml.out rfl
          subst hml2
          clear hdn hdy hml
          go_wp2
          go_roundw
          case rel => exact ⟨j + 1, A4, c4, qs, _, _, by omega, congrArg (Value.int .i64) (by have := HVI.out; omega), rfl, hS2.out⟩
          case measure => simp [intOf] <;> omega
      · have hje : j = 4 := by omega
        subst hje
        clear hj hlt
        have d0 : decide ((0 : Int) ≤ 3 - ((4 : Nat) : Int)) = false := by decide
        have hC := hid (sbad_any n1 A3 c3 ms wr hlen HS.out.sl HS.out.rd)
        have hY := hid (solE_yes HS.out.ok)
        have hnil := hid (fun (h : l = []) => (show (rowsE l 4).find? badF = none by rw [h, rowsE_nil]; rfl))
        rw [HS.out.map] at hC
        generalize (rowsE l 4).find? badF = Q at hC hY hnil
        go_wp2_with fail
        refine hC.out.mono ?_
        rintro e w3 ⟨Ab, kb, cb, rfl, hb, hq⟩
        have hbw := hid (btr HS.out.below hb)
        clear hC
        cases Q with
        | some r =>
          obtain ⟨rfl, hU⟩ := hq
          obtain rfl : kb = n := HNN.out.elim id (fun h => by have := hnil.out h; cases this)
          have hY2 := hid hY.out
          simp only at hY2
          rw [hY2.out] at HF
          have hFO := hid (sfarok_any A kb c L Ab kb cb r.U w3 (by omega) (HA.out.below hbw.out) (by omega) hU HN.out)
          have hf1 := hid (fun h : farOkB (farS kb L kb r.U) = true => (show R = .no r.U from HF.out.trans (if_pos h)))
          have hf2 := hid (fun h : farOkB (farS kb L kb r.U) = false => (show R = .much from HF.out.trans (if_neg (by rw [h]; simp))))
          generalize farOkB (farS kb L kb r.U) = b at hFO hf1 hf2
          have HU := hid hU
          have dl : decide ((0 : Int) < (kb : Int)) = true := decide_eq_true (by omega)
          clear hb hU hY hnil hlen
          cases b with
          | false =>
            have hf := hid (hf2.out rfl)
            clear hf1 hf2
            go_wp2_with (go_at_call 14; refine hFO.out.mono ?_; rintro e w4 ⟨rfl, hb4⟩)
            go_ret3
            exact SRunP.much hf.out (bal (btr hbw.out hb4) _)
          | true =>
            have hf := hid (hf1.out rfl)
            clear hf1 hf2
            go_upto_region 17 with (go_at_call 14; refine hFO.out.mono ?_; rintro e w4 ⟨rfl, hb4⟩)
            have hb5 := hid (btr hbw.out hb4)
            have HU4 := hid (HU.out.below hb4)
            obtain ⟨i0, hi, hz0, hz1, hz2⟩ := info_parts infoI
            have hoA : Hid ((w4.alloc (.cells #[] 3)).ownsRow w4.heap.size 3 1 (.slice (some ⟨w4.heap.size, 0, none⟩) 0 0) 0 []) := hid (World.ownsRow_made w4 #[] 0 (Nat.le_refl _) (by decide) rfl)
            rcases HU4.out with h0 | ⟨ga, oa, rfl, hga, hca⟩
            · omega
            have hq6 := bal (Below.refl w4.heap.size w4) (.cells #[] 3)
            have hnews := hid (show ∀ j u, (vals kb r.U)[j]? = some u → (w4.alloc (.cells #[] 3)).cell? ((⟨ga, oa, none⟩ : Addr).add j) = some u from by
              intro j u hj
              have hj4 : j < kb := by
                have h1 := (List.getElem?_eq_some_iff.1 hj).1
                unfold vals at h1
                rw [List.length_map, List.length_range] at h1
                exact h1
              have hu : u = .int .i64 (r.U j) := by
                have h2 := (vals_at (Z := r.U) hj4).symm.trans hj
                exact (Option.some.inj h2).symm
              rw [hu]
              rw [show (⟨ga, oa, none⟩ : Addr).add j = ⟨ga, oa + j, none⟩ by unfold Addr.add; split <;> simp_all]
              exact carry hq6 (hca j hj4))
            have hone := hid (show ∀ u ∈ vals kb r.U, u.oneCell' = true from fun u hu => by
              simp only [vals, List.mem_map] at hu
              obtain ⟨j, _, rfl⟩ := hu
              rfl)
            have hvl := hid (show (vals kb r.U).length = kb * 1 by unfold vals; rw [List.length_map, List.length_range, Nat.mul_one])
            have hq7 := hid hq6
            have hb7 := hid (btr hb5.out hq6)
            clear hq6 hca hga hb4 hFO
            go_wp2_with ((at_builtin; go_loud (refine wpList_append_own_at _ rfl _ _ 24 rfl w4.heap.size 3 i0 _ 1 8 Try.underlying24 hi hz0 hz1 hz2 rfl (by decide) _ _ _ rfl hoA.out ⟨ga, oa, none⟩ kb cb (vals kb r.U) rfl hvl.out hnews.out hone.out (by unfold maxLen; omega) (by omega) hq7.out.size ?_); intro v' w5 hown hgrow _ hblk; have HOW := hid hown; have HGR := hid hgrow; have HBL := hid hblk; clear hown hgrow hblk))
            have hown := HOW.out
            rw [List.nil_append, Nat.zero_add] at hown
            obtain ⟨A7, c7, rfl, _, _, hO⟩ := own_new (W := { w4 with heap := #[] }) (by omega) (Nat.zero_le _) hown
            go_ret3
            exact SRunP.no hf.out (fl_growM hb7.out HGR.out (fun g e => by obtain rfl : w4.heap.size = g := Option.some.inj e; exact hb5.out.size)) hO
        | none =>
          subst hq
          have hY2 := hid hY.out
          simp only at hY2
          rw [hY2.out] at HF
          have hBk := hid (sback_any S n1 l MS w3 (BefM.below (fun i hi => by
            obtain ⟨a, c, h1, h2, h3, h4⟩ := HS.out.ps i hi (by omega)
            exact ⟨a, c, by rw [← h1]; exact HS.out.bf.1.cell hi, h2, h3⟩) hb) (fun i hi => by
            obtain ⟨a, c, h1, h2, h3, h4⟩ := HS.out.ps i hi (by omega)
            have := HLL.out (3 - i) (okE_le HS.out.ok (by omega)); rw [← h4, List.length_map] at this; exact this) (fun i hi m hm => by
            obtain ⟨a, c, h1, h2, h3, h4⟩ := HS.out.ps i hi (by omega)
            have := HLO.out (3 - i) (by omega) (okE_le HS.out.ok (by omega)); rw [← h4] at this; exact this m.r (List.mem_map.2 ⟨m, hm, rfl⟩)) (fun i hi => by
            obtain ⟨a, c, h1, h2, h3, h4⟩ := HS.out.ps i hi (by omega)
            exact h4))
          clear hY hnil hlen hb
          generalize backV l 4 = V at hBk HF
          go_wp2_with fail
          refine hBk.out.mono ?_
          rintro e w4 ⟨g4, c4, rfl, hb4, hg4, hx⟩
          clear hBk
          have hb5 := hid (btr hbw.out hb4)
          cases V with
          | none =>
            have hF := hid (show R = .much from HF.out)
            clear hx
            go_wp2
            go_ret3
            exact SRunP.much hF.out (bal hb5.out _)
          | some X =>
            have hRO := hx X rfl
            have HRO := hid hRO
            have hFA := hid (sfarall_any A n c L (some ⟨g4, 0, none⟩) 4 c4 X.1 X.2 w4 (by omega) (HA.out.below hb5.out) HN.out (by omega) hRO.rats)
            have hf1 := hid (fun h : allB n L 4 X.1 X.2 = true => (show R = .yes X.1 X.2 from HF.out.trans (if_pos h)))
            have hf2 := hid (fun h : allB n L 4 X.1 X.2 = false => (show R = .much from HF.out.trans (if_neg (by rw [h]; simp))))
            generalize allB n L 4 X.1 X.2 = b at hFA hf1 hf2
            clear hx hRO hb4
            cases b with
            | false =>
              have hf := hid (hf2.out rfl)
              clear hf1 hf2
              go_wp2_with (go_at_call 28; refine hFA.out.mono ?_; rintro e w5 ⟨rfl, hb6⟩)
              go_ret3
              exact SRunP.much hf.out (bal (btr hb5.out hb6) _)
            | true =>
              have hf := hid (hf1.out rfl)
              clear hf1 hf2
              go_wp2_with (go_at_call 28; refine hFA.out.mono ?_; rintro e w5 ⟨rfl, hb6⟩)
              go_ret3
              exact SRunP.yes hf.out (bal (btr hb5.out hb6) _) ((HRO.out.below hb6).below (bal (Below.refl _ _) _))
end Go.Proofs.Ytplocljoanaoeaa

namespace Go.Proofs.Ytplocljoanaoeaa
set_option linter.unusedVariables false
set_option linter.unusedSimpArgs false
open Go.RowKit
/-- behind marks from k on -/
def RatM (lo hi : Nat) (w : World) (A : Option Addr) (m : Nat) (k : Int) : Prop :=
  m = 0 ∨ ∃ g, A = some ⟨g, 0, none⟩ ∧ lo ≤ g ∧ g < hi ∧ w.rowIs g 52 (m * 2) (fun t => .int .i64 (k + t))
theorem RatM.below {lo hi : Nat} {w w' : World} {A : Option Addr} {m : Nat} {k : Int} (h : RatM lo hi w A m k) (hb : Below w.heap.size w w') : RatM lo hi w' A m k :=
  h.imp id (fun ⟨g, h1, h2, h3, h4⟩ => ⟨g, h1, h2, h3, row_below h4 hb⟩)
theorem RatM.wrt {lo hi lo' hi' : Nat} {w w' : World} {A : Option Addr} {m : Nat} {k : Int} (h : RatM lo hi w A m k) (hg : Wrt lo' hi' w w') (hd : hi ≤ lo' ∨ hi' ≤ lo) : RatM lo hi w' A m k :=
  h.imp id (fun ⟨g, h1, h2, h3, h4⟩ => ⟨g, h1, h2, h3, h4.of_block (hg.block g h4.lt (by omega))⟩)
end Go.Proofs.Ytplocljoanaoeaa

namespace Go.Proofs.Ytplocljoanaoeaa
set_option linter.unusedVariables false
set_option linter.unusedSimpArgs false
open Go.RowKit
theorem RatZ.rats {z : Nat} {w : World} {A : Option Addr} {m : Nat} {N D : Nat → Int} (h : RatZ z w A m N D) : Rats w A m N D :=
  h.imp id (fun ⟨g, h1, _, h3, h4⟩ => ⟨g, 0, h1, h3, fun k hk => by rw [Nat.zero_add]; exact h4 k hk⟩)
theorem IntZ.ints {z : Nat} {w : World} {A : Option Addr} {m : Nat} {Z : Nat → Int} (h : IntZ z w A m Z) : Ints w A m Z :=
  h.imp id (fun ⟨g, h1, _, h3, h4⟩ => ⟨g, 0, h1, h3, fun k hk => by rw [Nat.zero_add]; exact h4 k hk⟩)
theorem RatZ.below {z : Nat} {w w' : World} {A : Option Addr} {m : Nat} {N D : Nat → Int} (h : RatZ z w A m N D) (hb : Below w.heap.size w w') : RatZ z w' A m N D :=
  h.imp id (fun ⟨g, h1, h2, h3, h4⟩ => ⟨g, h1, h2, Nat.lt_of_lt_of_le h3 hb.size, fun k hk => ⟨carry hb (h4 k hk).1, carry hb (h4 k hk).2⟩⟩)
theorem IntZ.below {z : Nat} {w w' : World} {A : Option Addr} {m : Nat} {Z : Nat → Int} (h : IntZ z w A m Z) (hb : Below w.heap.size w w') : IntZ z w' A m Z :=
  h.imp id (fun ⟨g, h1, h2, h3, h4⟩ => ⟨g, h1, h2, Nat.lt_of_lt_of_le h3 hb.size, fun k hk => carry hb (h4 k hk)⟩)
theorem RatZ.wrt {z lo hi : Nat} {w w' : World} {A : Option Addr} {m : Nat} {N D : Nat → Int} (h : RatZ z w A m N D) (hg : Wrt lo hi w w') (hd : z ≤ lo) : RatZ z w' A m N D :=
  h.imp id (fun ⟨g, h1, h2, h3, h4⟩ => ⟨g, h1, h2, Nat.lt_of_lt_of_le h3 hg.size, fun k hk => ⟨hg.cell (h4 k hk).1 (.inl (by omega)), hg.cell (h4 k hk).2 (.inl (by omega))⟩⟩)
theorem IntZ.wrt {z lo hi : Nat} {w w' : World} {A : Option Addr} {m : Nat} {Z : Nat → Int} (h : IntZ z w A m Z) (hg : Wrt lo hi w w') (hd : z ≤ lo) : IntZ z w' A m Z :=
  h.imp id (fun ⟨g, h1, h2, h3, h4⟩ => ⟨g, h1, h2, Nat.lt_of_lt_of_le h3 hg.size, fun k hk => hg.cell (h4 k hk) (.inl (by omega))⟩)
theorem RatB.below {lo hi : Nat} {w w' : World} {A : Option Addr} {m : Nat} {N D : Nat → Int} (h : RatB lo hi w A m N D) (hb : Below w.heap.size w w') : RatB lo hi w' A m N D :=
  h.imp id (fun ⟨g, h1, h2, h3, h4⟩ => ⟨g, h1, h2, h3, row_below h4 hb⟩)
theorem RatB.wrt {lo hi lo' hi' : Nat} {w w' : World} {A : Option Addr} {m : Nat} {N D : Nat → Int} (h : RatB lo hi w A m N D) (hg : Wrt lo' hi' w w') (hd : hi ≤ lo' ∨ hi' ≤ lo) : RatB lo hi w' A m N D :=
  h.imp id (fun ⟨g, h1, h2, h3, h4⟩ => ⟨g, h1, h2, h3, h4.of_block (hg.block g h4.lt (by omega))⟩)
theorem RatB.rats {lo hi : Nat} {w : World} {A : Option Addr} {m : Nat} {N D : Nat → Int} (h : RatB lo hi w A m N D) : Rats w A m N D := by
  rcases h with h | ⟨g, rfl, _, _, h4⟩
  · exact .inl h
  · exact Rats.of_row h4
theorem IntR.ownB {lo hi : Nat} {w : World} {A : Option Addr} {m : Nat} {Z : Nat → Int} (h : IntR lo hi w A m Z) : OwnB lo hi w A m Z := by
  rcases h with h | ⟨g, rfl, h2, h3, h4⟩
  · exact .inl h
  · exact .inr ⟨g, rfl, h2, h3, h4.lt, fun k hk => ⟨h4.cell hk, h4.frozen k⟩⟩
end Go.Proofs.Ytplocljoanaoeaa
