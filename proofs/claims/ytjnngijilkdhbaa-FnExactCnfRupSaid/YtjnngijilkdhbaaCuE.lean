/- watchAnother: another literal of a clause is watched, or the clause is due. -/
import Derived.Test.YtjnngijilkdhbaaCuD
import Derived.RegionTactic
import Derived.ChangeAlike
import Derived.BigRegion
import Derived.Deep.QuietTactic
namespace Go.Proofs.Ytjnngijilkdhbaa
set_option linter.unusedVariables false
set_option linter.unusedSimpArgs false
open Go.RowKit
/-- two literals of a clause changed places -/
theorem PrM.swap {lo b : Nat} {k : Pq} {s : Ps} {w : World} (h : PrM lo b k s w) {i j j' g : Nat} (hi : i < k.n) (hj : j < k.N i) (hj' : j' < k.N i) (hg : (k.cv i).ownBlock = some g) (hne : j ≠ j') :
    PrM lo b k {s with C := fun i' => if i' = i then swp j j' (s.C i) else s.C i'} ((w.setCell ⟨g, j, none⟩ (.int .i64 (s.C i j'))).setCell ⟨g, j', none⟩ (.int .i64 (s.C i j))) := by
  have h2 := (h.setC hi hj hg (s.C i j')).setC hi hj' hg (s.C i j)
  refine cast (congrArg (fun c => PrM lo b k {s with C := c} _) ?_) h2
  funext i'
  simp only
  by_cases e : i' = i
  · simp only [if_pos e, ↓reduceIte]
    funext t
    unfold swp
    by_cases e1 : t = j'
    · rw [if_pos e1, if_neg (by omega), if_pos e1]
    · rw [if_neg e1]
      by_cases e2 : t = j
      · rw [if_pos e2, if_pos e2]
      · rw [if_neg e2, if_neg e2, if_neg e1]
  · simp only [if_neg e]
/-- what comes of a clause whose second literal is gone: r whether another one is watched -/
def WaP (lo b : Nat) (k : Pq) (s : Ps) (i : Nat) (c : Nat → Int) (r : Bool) (w' : World) : Prop :=
  (r = true ∧ ∃ a v', 2 ≤ a ∧ a < k.N i ∧ s.S (vrC (c a)).toNat ≠ -(c a) ∧ PrM lo b k {s with C := fun i' => if i' = i then swp 1 a c else s.C i', WV := fun q => if q = plc (c a) then v' else s.WV q, Wl := fun q => if q = plc (c a) then s.Wl (plc (c a)) ++ [i] else s.Wl q} w') ∨
  (r = false ∧ (∀ a, 2 ≤ a → a < k.N i → s.S (vrC (c a)).toNat = -(c a)) ∧ PrM lo b k {s with C := fun i' => if i' = i then c else s.C i'} w')
theorem lit_rng {x : Int} (h : ofC x 60 = true) : ∃ v : Nat, vrC x = (v : Int) ∧ (vrC x).toNat = v ∧ v ≤ 60 ∧ -9223372036854775807 ≤ x ∧ x ≤ 9223372036854775807 ∧ -9223372036854775807 ≤ -x ∧ -x ≤ 9223372036854775807 ∧ vrC (-x) = (v : Int) := by
  obtain ⟨v, e1, e2, e3, e4, e5, e6, e7⟩ := of_rng h
  have := ofC_iff.1 h
  exact ⟨v, e5, by rw [e5]; rfl, e3, by omega, by omega, by omega, by omega, by rw [vrC_neg]; exact e5⟩
/-- the clause's row, read -/
theorem PrM.cg' {lo b : Nat} {k : Pq} {s : Ps} {w : World} (h : PrM lo b k s w) {i g : Nat} (hi : i < k.n) (hN : 0 < k.N i) (hCA : k.CA i = some ⟨g, 0, none⟩) :
    (k.cv i).ownBlock = some g ∧ lo ≤ g ∧ (∀ j, j < k.N i → w.cell? ⟨g, j, none⟩ = some (.int .i64 (s.C i j))) ∧ ∀ j, w.frozen? ⟨g, j, none⟩ = false := by
  obtain ⟨g', e1, e2, e3, e4, e5, e6⟩ := h.cg hi hN
  rw [hCA] at e1
  injection e1 with e1
  injection e1 with e1 _ _
  subst e1
  exact ⟨e4, e3, e5, e6⟩
theorem Ps.sameC (s : Ps) (i : Nat) : ({s with C := fun i' => if i' = i then s.C i else s.C i'} : Ps) = s := by
  cases s with
  | mk C WV Wl due S TV T =>
    simp only [Ps.mk.injEq, and_true, and_self]
    funext i'
    split
    · rename_i e; subst e; rfl
    · rfl
set_option maxHeartbeats 8000000 in
set_option maxRecDepth 100000 in
theorem wanother_any (lo b i : Nat) (k : Pq) (s : Ps) (x : Int) (w : World) (hP : PrM lo b k s w) (hi : i < k.n) (hN : 2 ≤ k.N i) (hN6 : k.N i ≤ 1000) (hl : ∀ j, j < k.N i → ofC (s.C i j) 60 = true) (hlen : ∀ y, ofC y 60 = true → s.S (vrC y).toNat ≠ -y → (s.Wl (plc y)).length ≤ 1000000) (hlo : lo ≤ w.heap.size) :
    Calls Try.prog 59 #[.pointer (some ⟨b, 0, none⟩), .int .i64 (i : Int), .int .i64 x] w fun e w' => (∃ r : Bool, e = .returned (.bool r) ∧ WaP lo b k s i (sw01 x (s.C i)) r w') ∧ Below lo w w' := by
  obtain ⟨g, hCA, hgl, hlg, hob, hcells, hfr⟩ := hP.cg hi (by omega)
  have p0 := hP.c0
  have pc := hP.cc hi
  rw [hCA] at pc
  have HC := hid hcells
  have HFR := hid hfr
  have c0 := hcells 0 (by omega)
  have c1 := hcells 1 (by omega)
  have f0 := hfr 0
  have f1 := hfr 1
  have hNb : (1 : Int) < (k.N i : Int) := by omega
  have hiI : (i : Int) < (k.n : Int) := by omega
  have HP := hid hP
  clear hcells hfr hP
  by_cases e : s.C i 0 = x
  · have d1 : (s.C i 0 == x) = true := by simpa using e
    have hc : sw01 x (s.C i) = swp 0 1 (s.C i) := by unfold sw01; rw [if_pos e]
    rw [hc]
    obtain ⟨c, hcc⟩ : ∃ c, c = swp 0 1 (s.C i) := ⟨_, rfl⟩
    rw [← hcc]
    have HCC := hid hcc
    clear e hc hcc
    go_enter Try.func59, Try.ntmps59
    go_wp2
    go_region
    have HPs := hid (HP.out.swap (j := 0) (j' := 1) hi (by omega) (by omega) hob (by omega))
    have HCL : Hid (∀ j, j < k.N i → ofC (swp 0 1 (s.C i) j) 60 = true) := hid (fun j hj => by
      unfold swp
      split
      · exact hl 1 (by omega)
      · split
        · exact hl 0 (by omega)
        · exact hl j hj)
    have q1 : Below lo w ((w.setCell ⟨g, 0, none⟩ (.int .i64 (s.C i 1))).setCell ⟨g, 1, none⟩ (.int .i64 (s.C i 0))).drew := (((Below.refl lo w).setCell hlg _).setCell hlg _).drew
    have HP1 := hid (HPs.out.below ((Below.refl _ _).drew))
    clear HPs hl
    obtain ⟨w1, hw1⟩ : ∃ w1, w1 = ((w.setCell ⟨g, 0, none⟩ (.int .i64 (s.C i 1))).setCell ⟨g, 1, none⟩ (.int .i64 (s.C i 0))).drew := ⟨_, rfl⟩
    rw [← hw1] at q1 HP1 ⊢
    have hlo1 : lo ≤ w1.heap.size := Nat.le_trans hlo q1.size
    clear hw1 c0 c1 f0 f1 p0 pc HFR
    rw [← HCC.out] at HCL HP1
    clear HCC
    have hcl : ∀ j, j < k.N i → ofC (c j) 60 = true := HCL.out
    have HP2 := hid (show PrM lo b k {s with C := fun i' => if i' = i then c else s.C i'} w1 from HP1.out)
    have hloW : lo ≤ w1.heap.size := hlo1
    go_wp2
    go_loopw [8] (fun v wr => ∃ a : Nat, 2 ≤ a ∧ a ≤ k.N i ∧ v = .int .i64 (a : Int) ∧ Below w1.heap.size w1 wr ∧ ∀ j, 2 ≤ j → j < a → s.S (vrC (c j)).toNat = -(c j)) (fun v _ => k.N i - (intOf v).toNat)
    case atStart => exact ⟨2, Nat.le_refl _, hN, rfl, Below.refl _ _, fun j h1 h2 => by omega⟩
    case round =>
      obtain ⟨a, a2, haN, rfl, hb, he⟩ := hrel
      have HE := hid he; clear he
      by_cases hlt : a < k.N i
      · have HPr := hid (HP2.out.below hb)
        obtain ⟨hob, hlog, hcells, hfr⟩ := HPr.out.cg' hi (by omega) hCA
        have ca : wr.cell? ⟨g, a, none⟩ = some (.int .i64 (c a)) := by have := hcells a hlt; simpa using this
        obtain ⟨v, e1, e2, e3, e4, e5, e6, e7, e8⟩ := lit_rng (hcl a hlt)
        have hsc := HPr.out.cs (v := v) (by omega)
        replace hsc : wr.cell? ⟨b, 123 + v, none⟩ = some (.int .i64 (s.S v)) := hsc
        have hNt := fun X : Gro wr => (not_any (c a) (gro wr X) ⟨by omega, by omega⟩).mono fun e w' h => (⟨h.1, h.2 ▸ Below.refl _ _⟩ : e = .returned (.int .i64 (-(c a))) ∧ Below (gro wr X).heap.size (gro wr X) w')
        have hHs := fun X : Gro wr => hasU_any b 123 v (-(c a)) (s.S v) (gro wr X) (carry X.h hsc) ⟨by omega, by omega⟩ e8 e3
        have hsz := cell_lt ca
        have hsb := cell_lt hsc
        have gc := @gro_cell wr
        have hNa : (a : Int) < (k.N i : Int) := by omega
        cases hv : (s.S v == -(c a))
        · rw [hv] at hHs
          have hv' : s.S (vrC (c a)).toNat ≠ -(c a) := by rw [e2]; simpa using hv
          have HV := hid hv'
          have HCA2 := hid (hcl a hlt)
          clear hv hv' e1 e2 e3 e4 e5 e6 e7 e8 hsc
          have c1 : wr.cell? ⟨g, 1, none⟩ = some (.int .i64 (c 1)) := by have := hcells 1 (by omega); simpa using this
          have HF := hid hfr
          clear hcells hfr
          go_upto_region 7 with fail
          refine wp_region_grow_lit (by kernel_rfl) (by kernel_rfl) ?_
          repeat (go_big_quiet_step (first | (go_at_call 57; exact grow_call _ (hNt _)) | (go_at_call 61; exact grow_call _ (hHs _))))
          refine wpQuiet_nil ?_
          rintro _ ⟨X, rfl⟩
          clear gc hNt hHs
          have XH : Below wr.heap.size wr (gro wr X) := X.h
          have HX := hid XH
          have x1 := carry XH c1
          have xa := carry XH ca
          have f1 : (gro wr X).frozen? ⟨g, 1, none⟩ = false := carryf XH (HF.out 1) hsz
          have fa : (gro wr X).frozen? ⟨g, a, none⟩ = false := carryf XH (HF.out a) hsz
          have HPx := hid (HPr.out.below XH)
          have hszx : wr.heap.size ≤ (gro wr X).heap.size := XH.size
          generalize gro wr X = wx at *
          clear c1 ca X XH
          have hNb : (1 : Int) < (k.N i : Int) := by omega
          have ha1 : ¬ ((a : Int) = 1) := by omega
          have ha1' : ¬ (a = 1) := by omega
          go_wp2
          go_region
          have HPs := hid (HPx.out.swap (j := 1) (j' := a) hi (by omega) hlt hob (by omega))
          simp only [↓reduceIte] at HPs
          have hs1 : swp 1 a c 1 = c a := by unfold swp; rw [if_pos rfl]
          have hsw : (swp 1 a c) = swp 1 a c := rfl
          have q2 : Below lo wx ((wx.setCell ⟨g, 1, none⟩ (.int .i64 (c a))).setCell ⟨g, a, none⟩ (.int .i64 (c 1))).drew := (((Below.refl lo wx).setCell hlog _).setCell hlog _).drew
          have HP3 := hid (HPs.out.below ((Below.refl _ _).drew))
          have q3 : Below lo w ((wx.setCell ⟨g, 1, none⟩ (.int .i64 (c a))).setCell ⟨g, a, none⟩ (.int .i64 (c 1))).drew := (q1.trans ((btr hb HX.out).mono hloW)).trans q2
          clear HPs q2
          obtain ⟨w3, hw3⟩ : ∃ w3, w3 = ((wx.setCell ⟨g, 1, none⟩ (.int .i64 (c a))).setCell ⟨g, a, none⟩ (.int .i64 (c 1))).drew := ⟨_, rfl⟩
          rw [← hw3] at q3 HP3 ⊢
          have hlo3 : lo ≤ w3.heap.size := Nat.le_trans hlo q3.size
          clear hw3 x1 xa f1 fa HX
          have y1 : w3.cell? ⟨g, 1, none⟩ = some (.int .i64 (c a)) := by
            have h2 := (HP3.out.cg' hi (by omega) hCA).2.2.1 1 (by omega)
            simp only [↓reduceIte] at h2
            rw [hs1] at h2
            exact h2
          have hlenp := hlen (c a) HCA2.out HV.out
          have hWt := watch_any lo b i k _ (c a) w3 HP3.out HCA2.out hlenp hlo3
          clear hs1 hsw
          go_wp2_with (go_at_call 54; refine hWt.mono ?_; rintro e w4 ⟨rfl, ⟨v', hP4⟩, hq4⟩)
          go_ret
          refine ⟨⟨true, rfl, .inl ⟨rfl, a, v', a2, hlt, HV.out, ?_⟩⟩, q3.trans hq4⟩
          have he : (fun i' => if i' = i then swp 1 a c else if i' = i then c else s.C i') = (fun i' => if i' = i then swp 1 a c else s.C i') := by
            funext i'
            by_cases e : i' = i <;> simp [e]
          simp only [he] at hP4
          exact hP4
        · rw [hv] at hHs
          have hv' : s.S (vrC (c a)).toNat = -(c a) := by rw [e2]; simpa using hv
          have HV := hid hv'
          clear hv hv' e1 e2 e3 e4 e5 e6 e7 e8 hsc hcells hfr
          go_upto_region 7 with fail
          refine wp_region_grow_lit (by kernel_rfl) (by kernel_rfl) ?_
          repeat (go_big_quiet_step (first | (go_at_call 57; exact grow_call _ (hNt _)) | (go_at_call 61; exact grow_call _ (hHs _))))
          refine wpQuiet_nil ?_
          rintro _ ⟨X, rfl⟩
          clear gc hNt hHs
          go_wp2
          go_roundw
          case rel =>
            refine ⟨a + 1, by omega, by omega, by go_num, btr hb X.h, fun j h1 h2 => ?_⟩
            by_cases e : j = a
            · subst e; exact HV.out
            · exact HE.out j h1 (by omega)
          case measure => simp [intOf]; omega
      · have hke : a = k.N i := by omega
        subst hke
        go_wp2
        go_ret
        exact ⟨⟨false, rfl, .inr ⟨rfl, HE.out, HP2.out.below hb⟩⟩, q1.trans (hb.mono hloW)⟩
  · have d1 : (s.C i 0 == x) = false := by simpa using e
    have hc : sw01 x (s.C i) = s.C i := by unfold sw01; rw [if_neg e]
    rw [hc]
    have HP1 : Hid (PrM lo b k {s with C := fun i' => if i' = i then s.C i else s.C i'} w) := hid (by rw [s.sameC i]; exact HP.out)
    have HCL := hid hl
    have hlo1 := hlo
    have q1 : Below lo w w := Below.refl _ _
    obtain ⟨c, hcc⟩ : ∃ c, c = s.C i := ⟨_, rfl⟩
    rw [← hcc]
    have HCC := hid hcc
    clear e hc hl hcc
    go_enter Try.func59, Try.ntmps59
    go_upto_region 4 with fail
    clear c0 c1 f0 f1 p0 pc HFR HC d1
    rw [← HCC.out] at HCL HP1
    clear HCC
    obtain ⟨w1, hw1⟩ : ∃ w1, w1 = w := ⟨_, rfl⟩
    rw [← hw1] at HP1 hlo1 ⊢
    replace q1 : Below lo w w1 := by rw [hw1]; exact q1
    clear hw1
    have hcl : ∀ j, j < k.N i → ofC (c j) 60 = true := HCL.out
    have HP2 := hid (show PrM lo b k {s with C := fun i' => if i' = i then c else s.C i'} w1 from HP1.out)
    have hloW : lo ≤ w1.heap.size := hlo1
    go_wp2
    go_loopw [8] (fun v wr => ∃ a : Nat, 2 ≤ a ∧ a ≤ k.N i ∧ v = .int .i64 (a : Int) ∧ Below w1.heap.size w1 wr ∧ ∀ j, 2 ≤ j → j < a → s.S (vrC (c j)).toNat = -(c j)) (fun v _ => k.N i - (intOf v).toNat)
    case atStart => exact ⟨2, Nat.le_refl _, hN, rfl, Below.refl _ _, fun j h1 h2 => by omega⟩
    case round =>
      obtain ⟨a, a2, haN, rfl, hb, he⟩ := hrel
      have HE := hid he; clear he
      by_cases hlt : a < k.N i
      · have HPr := hid (HP2.out.below hb)
        obtain ⟨hob, hlog, hcells, hfr⟩ := HPr.out.cg' hi (by omega) hCA
        have ca : wr.cell? ⟨g, a, none⟩ = some (.int .i64 (c a)) := by have := hcells a hlt; simpa using this
        obtain ⟨v, e1, e2, e3, e4, e5, e6, e7, e8⟩ := lit_rng (hcl a hlt)
        have hsc := HPr.out.cs (v := v) (by omega)
        replace hsc : wr.cell? ⟨b, 123 + v, none⟩ = some (.int .i64 (s.S v)) := hsc
        have hNt := fun X : Gro wr => (not_any (c a) (gro wr X) ⟨by omega, by omega⟩).mono fun e w' h => (⟨h.1, h.2 ▸ Below.refl _ _⟩ : e = .returned (.int .i64 (-(c a))) ∧ Below (gro wr X).heap.size (gro wr X) w')
        have hHs := fun X : Gro wr => hasU_any b 123 v (-(c a)) (s.S v) (gro wr X) (carry X.h hsc) ⟨by omega, by omega⟩ e8 e3
        have hsz := cell_lt ca
        have hsb := cell_lt hsc
        have gc := @gro_cell wr
        have hNa : (a : Int) < (k.N i : Int) := by omega
        cases hv : (s.S v == -(c a))
        · rw [hv] at hHs
          have hv' : s.S (vrC (c a)).toNat ≠ -(c a) := by rw [e2]; simpa using hv
          have HV := hid hv'
          have HCA2 := hid (hcl a hlt)
          clear hv hv' e1 e2 e3 e4 e5 e6 e7 e8 hsc
          have c1 : wr.cell? ⟨g, 1, none⟩ = some (.int .i64 (c 1)) := by have := hcells 1 (by omega); simpa using this
          have HF := hid hfr
          clear hcells hfr
          go_upto_region 7 with fail
          refine wp_region_grow_lit (by kernel_rfl) (by kernel_rfl) ?_
          repeat (go_big_quiet_step (first | (go_at_call 57; exact grow_call _ (hNt _)) | (go_at_call 61; exact grow_call _ (hHs _))))
          refine wpQuiet_nil ?_
          rintro _ ⟨X, rfl⟩
          clear gc hNt hHs
          have XH : Below wr.heap.size wr (gro wr X) := X.h
          have HX := hid XH
          have x1 := carry XH c1
          have xa := carry XH ca
          have f1 : (gro wr X).frozen? ⟨g, 1, none⟩ = false := carryf XH (HF.out 1) hsz
          have fa : (gro wr X).frozen? ⟨g, a, none⟩ = false := carryf XH (HF.out a) hsz
          have HPx := hid (HPr.out.below XH)
          have hszx : wr.heap.size ≤ (gro wr X).heap.size := XH.size
          generalize gro wr X = wx at *
          clear c1 ca X XH
          have hNb : (1 : Int) < (k.N i : Int) := by omega
          have ha1 : ¬ ((a : Int) = 1) := by omega
          have ha1' : ¬ (a = 1) := by omega
          go_wp2
          go_region
          have HPs := hid (HPx.out.swap (j := 1) (j' := a) hi (by omega) hlt hob (by omega))
          simp only [↓reduceIte] at HPs
          have hs1 : swp 1 a c 1 = c a := by unfold swp; rw [if_pos rfl]
          have hsw : (swp 1 a c) = swp 1 a c := rfl
          have q2 : Below lo wx ((wx.setCell ⟨g, 1, none⟩ (.int .i64 (c a))).setCell ⟨g, a, none⟩ (.int .i64 (c 1))).drew := (((Below.refl lo wx).setCell hlog _).setCell hlog _).drew
          have HP3 := hid (HPs.out.below ((Below.refl _ _).drew))
          have q3 : Below lo w ((wx.setCell ⟨g, 1, none⟩ (.int .i64 (c a))).setCell ⟨g, a, none⟩ (.int .i64 (c 1))).drew := (q1.trans ((btr hb HX.out).mono hloW)).trans q2
          clear HPs q2
          obtain ⟨w3, hw3⟩ : ∃ w3, w3 = ((wx.setCell ⟨g, 1, none⟩ (.int .i64 (c a))).setCell ⟨g, a, none⟩ (.int .i64 (c 1))).drew := ⟨_, rfl⟩
          rw [← hw3] at q3 HP3 ⊢
          have hlo3 : lo ≤ w3.heap.size := Nat.le_trans hlo q3.size
          clear hw3 x1 xa f1 fa HX
          have y1 : w3.cell? ⟨g, 1, none⟩ = some (.int .i64 (c a)) := by
            have h2 := (HP3.out.cg' hi (by omega) hCA).2.2.1 1 (by omega)
            simp only [↓reduceIte] at h2
            rw [hs1] at h2
            exact h2
          have hlenp := hlen (c a) HCA2.out HV.out
          have hWt := watch_any lo b i k _ (c a) w3 HP3.out HCA2.out hlenp hlo3
          clear hs1 hsw
          go_wp2_with (go_at_call 54; refine hWt.mono ?_; rintro e w4 ⟨rfl, ⟨v', hP4⟩, hq4⟩)
          go_ret
          refine ⟨⟨true, rfl, .inl ⟨rfl, a, v', a2, hlt, HV.out, ?_⟩⟩, q3.trans hq4⟩
          have he : (fun i' => if i' = i then swp 1 a c else if i' = i then c else s.C i') = (fun i' => if i' = i then swp 1 a c else s.C i') := by
            funext i'
            by_cases e : i' = i <;> simp [e]
          simp only [he] at hP4
          exact hP4
        · rw [hv] at hHs
          have hv' : s.S (vrC (c a)).toNat = -(c a) := by rw [e2]; simpa using hv
          have HV := hid hv'
          clear hv hv' e1 e2 e3 e4 e5 e6 e7 e8 hsc hcells hfr
          go_upto_region 7 with fail
          refine wp_region_grow_lit (by kernel_rfl) (by kernel_rfl) ?_
          repeat (go_big_quiet_step (first | (go_at_call 57; exact grow_call _ (hNt _)) | (go_at_call 61; exact grow_call _ (hHs _))))
          refine wpQuiet_nil ?_
          rintro _ ⟨X, rfl⟩
          clear gc hNt hHs
          go_wp2
          go_roundw
          case rel =>
            refine ⟨a + 1, by omega, by omega, by go_num, btr hb X.h, fun j h1 h2 => ?_⟩
            by_cases e : j = a
            · subst e; exact HV.out
            · exact HE.out j h1 (by omega)
          case measure => simp [intOf]; omega
      · have hke : a = k.N i := by omega
        subst hke
        go_wp2
        go_ret
        exact ⟨⟨false, rfl, .inr ⟨rfl, HE.out, HP2.out.below hb⟩⟩, q1.trans (hb.mono hloW)⟩
end Go.Proofs.Ytjnngijilkdhbaa
