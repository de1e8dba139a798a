/- run: literals are derived until there are no more, or a clause is falsified. -/
import Derived.Test.YtjnngijilkdhbaaCuH
namespace Go.Proofs.Ytjnngijilkdhbaa
set_option linter.unusedVariables false
set_option linter.unusedSimpArgs false
open Go.RowKit
/-- the first that is due, or -1 -/
def IdxP (n : Nat) (D : Nat → Bool) (r : Int) : Prop := (r = -1 ∧ ∀ i, i < n → D i = false) ∨ ∃ i : Nat, i < n ∧ r = (i : Int) ∧ D i = true ∧ ∀ j, j < i → D j = false
set_option maxHeartbeats 2000000 in
theorem sindex_any (gd n : Nat) (D : Nat → Bool) (w : World) (hn : n ≤ 400) (hr : w.rowIs gd 4 n (fun i => .bool (D i))) :
    Calls Try.prog 60 #[.slice (some ⟨gd, 0, none⟩) n n, .bool true] w fun e w' => (∃ r : Int, e = .returned (.int .i64 r) ∧ IdxP n D r) ∧ w = w' := by
  have hnI : (n : Int) ≤ 400 := by omega
  go_enter Try.func60, Try.ntmps60
  go_wp2
  go_loop [8] (fun v => ∃ k : Nat, k ≤ n ∧ v = .int .i64 (k : Int) ∧ ∀ j, j < k → D j = false) (fun v => n - (intOf v).toNat)
  case atStart => exact ⟨0, Nat.zero_le _, rfl, fun j hj => by omega⟩
  case round =>
    obtain ⟨k, hk, rfl, he⟩ := hrel
    have HE := hid he; clear he
    by_cases hlt : k < n
    · have c0 := hr.cell hlt
      have hkI : (k : Int) < (n : Int) := by omega
      cases hd : D k
      · rw [hd] at c0
        have HD := hid hd; clear hd
        go_wp2
        go_round
        case rel =>
          refine ⟨k + 1, by omega, by go_num, fun j hj => ?_⟩
          by_cases e : j = k
          · subst e; exact HD.out
          · exact HE.out j (by omega)
        case measure => simp [intOf]; omega
      · rw [hd] at c0
        have HD := hid hd; clear hd
        go_wp2
        go_ret
        exact ⟨⟨k, rfl, .inr ⟨k, hlt, rfl, HD.out, HE.out⟩⟩, rfl⟩
    · have hke : k = n := by omega
      subst hke
      go_wp2
      go_ret
      exact ⟨⟨-1, rfl, .inl ⟨rfl, HE.out⟩⟩, rfl⟩
def rdI (w : World) (b o : Nat) : Int := match w.cell? ⟨b, o, none⟩ with | some (.int _ z) => z | _ => 0
def rdB (w : World) (b o : Nat) : Bool := match w.cell? ⟨b, o, none⟩ with | some (.bool z) => z | _ => false
/-- how much is left to do -/
def measU (b gd n : Nat) (w : World) : Nat := cntP (fun v => decide (rdI w b (123 + (v + 1)) = 0)) 60 * (n + 1) + cntP (fun i => rdB w gd i) n
theorem measU_eq {lo b : Nat} {k : Pq} {s : Ps} {w : World} (h : PrM lo b k s w) (hS : SetS s.S s.T) : measU b k.gd k.n w = frU 60 s.T * (k.n + 1) + cntP s.due k.n := by
  unfold measU frU
  congr 1
  · congr 1
    refine cntP_congr fun v hv => ?_
    unfold rdI
    rw [h.cs (v := v + 1) (by omega)]
    simp only
    rw [hS (v + 1) (by omega)]
  · refine cntP_congr fun i hi => ?_
    unfold rdB
    rw [h.cd hi]
theorem GoU.mono {m m' : Int} {T : List Int} (h : GoU m T) (hm : m ≤ m') : GoU m' T := by
  induction h with
  | nil => exact .nil
  | push T x h h1 h0 ih => exact .push T x ih (by have := ofC_iff.1 h1; exact ofC_iff.2 ⟨this.1, by omega, by omega⟩) h0
theorem GoU.len60 {T : List Int} (h : GoU 60 T) : T.length ≤ 60 := by
  have := GoU.len (m := 60) h
  omega
theorem Ur.good {n : Nat} {L : Lls} {T T' : List Int} {r : Bool} (hL : LitL n L) (h : Ur n L T T' r) (hg : GoU 60 T) : GoU 60 T' := by
  induction h with
  | stop T h => exact hg
  | bad T i hi hf h => exact hg
  | step T i x T' r hi hu h hr ih => exact ih (.push T x hg (hL i hi x hu.1) hu.2.1)
/-- the state of a run on its way -/
def RunS (lo b : Nat) (k : Pq) (L : Lls) (T0 : List Int) (s : Ps) (W : World) : Prop :=
  PrM lo b k s W ∧ InvB k.n L s.C s.Wl s.T ∧ InvD k.n L s.C s.due s.T 0 ∧ SetS s.S s.T ∧ GoU 60 s.T ∧ ∀ T' r, Ur k.n L s.T T' r → Ur k.n L T0 T' r
theorem dd_mono {N : Nat} {c : Nat → Int} {T : List Int} {m : Int} {d : Bool} (h : Dd N c T 0 d) (h0 : 0 < N → c 0 ≠ 0) : Dd N c T m d := by
  unfold Dd at h ⊢
  split
  · rename_i e; rw [if_pos e] at h; exact h
  · rename_i e; rw [if_neg e] at h
    rcases h with ⟨a, h⟩ | h
    · exact .inl ⟨a, .inl (h.resolve_right (h0 a))⟩
    · exact .inr h
theorem RunS.idle {lo b : Nat} {k : Pq} {L : Lls} {T0 : List Int} {s : Ps} {W : World} (h : RunS lo b k L T0 s W) (hL : LitL k.n L) {j : Nat} (hj : j < k.n) (hd : s.due j = false) : Idle (L.N j) (L.Z j) s.T := by
  obtain ⟨_, hB, hD, _⟩ := h
  have := hD j hj
  unfold Dd at this
  rw [hd, if_neg (by simp)] at this
  exact inv_idle hB hj this fun t ht => (ofC_iff.1 (mem_lit hL hB hj ht)).1
theorem RunS.d1 {lo b : Nat} {k : Pq} {L : Lls} {T0 : List Int} {s : Ps} {W : World} (h : RunS lo b k L T0 s W) {j : Nat} (hj : j < k.n) (hd : s.due j = true) : D1 (L.N j) (s.C j) s.T := by
  have := h.2.2.1 j hj
  unfold Dd at this
  rw [hd, if_pos rfl] at this
  exact this
/-- a clause whose first literal is true is due no more -/
theorem RunS.pass {lo b : Nat} {k : Pq} {L : Lls} {T0 : List Int} {s : Ps} {W W' : World} (h : RunS lo b k L T0 s W) {i : Nat} (hi : i < k.n) (hN : 0 < L.N i) (ht : atU s.T (s.C i 0) = 1) (hP : PrM lo b k {s with due := fun j => if j = i then false else s.due j} W') :
    RunS lo b k L T0 {s with due := fun j => if j = i then false else s.due j} W' := by
  obtain ⟨_, hB, hD, hS, hG, hU⟩ := h
  refine ⟨hP, hB, fun j hj => ?_, hS, hG, hU⟩
  simp only
  by_cases e : j = i
  · subst e
    rw [if_pos rfl]
    unfold Dd
    rw [if_neg (by simp)]
    exact .inl ⟨hN, .inl ht⟩
  · rw [if_neg e]; exact hD j hj
theorem RunS.asg {lo b : Nat} {k : Pq} {L : Lls} {T0 : List Int} {s : Ps} {W : World} (h : RunS lo b k L T0 s W) (hL : LitL k.n L) {i : Nat} (hi : i < k.n) (hN : 0 < L.N i) :
    InvD k.n L s.C (fun j => if j = i then false else s.due j) s.T (s.C i 0) := by
  obtain ⟨_, hB, hD, hS, hG, hU⟩ := h
  intro j hj
  simp only
  by_cases e : j = i
  · subst e
    rw [if_pos rfl]
    unfold Dd
    rw [if_neg (by simp)]
    exact .inl ⟨hN, .inr rfl⟩
  · rw [if_neg e]
    exact dd_mono (hD j hj) fun h0 => (ofC_iff.1 (mem_lit hL hB hj h0)).1
theorem meas_less {a a' c c' n : Nat} (h : a = a' + 1) (hc : c' ≤ n) : a' * (n + 1) + c' < a * (n + 1) + c := by
  subst h; rw [Nat.add_mul, Nat.one_mul]; omega
set_option maxHeartbeats 8000000 in
set_option maxRecDepth 100000 in
theorem prrun_any (lo b : Nat) (k : Pq) (s : Ps) (L : Lls) (w : World) (hR : RunS lo b k L s.T s w) (hkL : k.N = L.N) (hn : k.n ≤ 400) (hL : LitL k.n L) (hN : ∀ i, i < k.n → L.N i ≤ 61) (hlo : lo ≤ w.heap.size) :
    Calls Try.prog 44 #[.pointer (some ⟨b, 0, none⟩)] w fun e w' => (∃ s' r, e = .returned (.bool r) ∧ PrM lo b k s' w' ∧ Ur k.n L s.T s'.T r) ∧ Below lo w w' := by
  have hIx := fun (s1 : Ps) W (h : PrM lo b k s1 W) => sindex_any k.gd k.n s1.due W hn h.du
  have HL := hid hL; have HNN := hid hN; have HKL := hid hkL; have HR := hid hR
  have b122 := hR.1.c122
  clear hL hN hkL
  have hnI : (k.n : Int) ≤ 400 := by omega
  go_enter Try.func44, Try.ntmps44
  go_wp2_with (go_at_call 60; refine (hIx s _ HR.out.1).mono ?_; rintro e w1 ⟨⟨r0, rfl, hr0⟩, rfl⟩)
  go_loopw [3] (fun v wr => ∃ (s1 : Ps) (r : Int), v = .int .i64 r ∧ IdxP k.n s1.due r ∧ RunS lo b k L s.T s1 wr ∧ Below lo w wr) (fun _ wr => measU b k.gd k.n wr)
  case atStart => exact ⟨s, r0, rfl, hr0, HR.out, Below.refl _ _⟩
  case round =>
    clear b122 hr0 HR hR
    obtain ⟨s1, r, rfl, hr, hS, hb⟩ := hrel
    rcases hr with ⟨rfl, hno⟩ | ⟨i, hi, rfl, hdi, hbefore⟩
    · have HF := hid (show Ur k.n L s.T s1.T false from hS.2.2.2.2.2 _ _ (Ur.stop _ fun j hj => hS.idle HL.out hj (hno j hj)))
      go_wp2
      go_ret
      exact ⟨⟨s1, false, rfl, hS.1, HF.out⟩, hb⟩
    · have hP1 := hS.1
      have hlw : lo ≤ wr.heap.size := Nat.le_trans hlo hb.size
      have c122 := hP1.c122
      have cd := hP1.cd hi
      have fd := hP1.du.frozen i
      have hiI : (i : Int) < (k.n : Int) := by omega
      have hlod := hP1.lod
      have HP2 := hid (hP1.setD i false)
      have HS := hid hS
      have hmeas := hid (measU_eq hP1 hS.2.2.2.1)
      have HD1 := hid (hS.d1 hi hdi)
      have HId := hid (fun j (hj : j < i) => hS.idle HL.out (by omega) (hbefore j hj))
      have HDI := hid hdi
      clear hbefore hS hdi
      go_upto_region 5 with fail
      have q2 : Below lo w (wr.setCell ⟨k.gd, i, none⟩ (.bool false)) := hb.setCell hlod _
      obtain ⟨w2, hw2⟩ : ∃ w2, w2 = wr.setCell ⟨k.gd, i, none⟩ (.bool false) := ⟨_, rfl⟩
      rw [← hw2] at HP2 q2 ⊢
      clear hw2 c122 cd fd
      have hlo2 : lo ≤ w2.heap.size := Nat.le_trans hlo q2.size
      have p0 := HP2.out.c0
      have pc := HP2.out.cc hi
      by_cases hN0 : k.N i = 0
      · have d0 : ((k.N i : Int) == 0) = true := by simp; omega
        have HF := hid (show Ur k.n L s.T s1.T true from HS.out.2.2.2.2.2 _ _ (Ur.bad _ i hi (inv_fal HS.out.2.1 hi HD1.out (.inl (by rw [← HKL.out]; exact hN0))) HId.out))
        clear hN0
        go_upto_region 6 with fail
        have gc := @gro_cell w2
        refine wp_region_grow_lit (by kernel_rfl) (by kernel_rfl) ?_
        repeat (go_big_quiet_step (fail))
        refine wpQuiet_nil ?_
        rintro _ ⟨X, rfl⟩
        clear gc
        have XH : Below w2.heap.size w2 (gro w2 X) := X.h
        go_wp2
        go_ret
        exact ⟨⟨_, true, rfl, HP2.out.below XH, HF.out⟩, q2.trans (XH.mono hlo2)⟩
      · have d0 : ((k.N i : Int) == 0) = false := by simp; omega
        have hNp : 0 < k.N i := by omega
        have hNp' : 0 < L.N i := by rw [← HKL.out]; exact hNp
        have hlit : ofC (s1.C i 0) 60 = true := mem_lit HL.out HS.out.2.1 hi hNp'
        obtain ⟨g, hCA, hgl, hlg, hob, hcells, hfr⟩ := HP2.out.cg hi hNp
        have z0 := hcells 0 hNp
        rw [hCA] at pc
        obtain ⟨v, e1, e2, e3, e4, e5, e6, e7, e8⟩ := lit_rng hlit
        have hsc := HP2.out.cs (v := v) (by omega)
        replace hsc : w2.cell? ⟨b, 123 + v, none⟩ = some (.int .i64 (s1.S v)) := hsc
        replace z0 : w2.cell? ⟨g, 0, none⟩ = some (.int .i64 (s1.C i 0)) := z0
        have hsb := cell_lt hsc
        have hAt := HS.out.2.2.2.1.at hlit
        rw [e2] at hAt
        have hAt' := hid hAt
        clear hAt hcells hfr hN0
        have hNpI : (0 : Int) < (k.N i : Int) := by omega
        have hNt := fun X : Gro w2 => (not_any (s1.C i 0) (gro w2 X) ⟨e4, e5⟩).mono fun e w' h => (⟨h.1, h.2 ▸ Below.refl _ _⟩ : e = .returned (.int .i64 (-(s1.C i 0))) ∧ Below (gro w2 X).heap.size (gro w2 X) w')
        have hHs := fun X : Gro w2 => hasU_any b 123 v (-(s1.C i 0)) (s1.S v) (gro w2 X) (carry X.h hsc) ⟨by omega, by omega⟩ e8 e3
        go_upto_region 6 with fail
        have gc := @gro_cell w2
        cases hv : (s1.S v == -(s1.C i 0))
        · rw [hv] at hHs
          have hv' : s1.S v ≠ -(s1.C i 0) := by simpa using hv
          have HV := hid hv'
          clear hv hv'
          refine wp_region_grow_lit (by kernel_rfl) (by kernel_rfl) ?_
          repeat (go_big_quiet_step (first | (go_at_call 57; exact grow_call _ (hNt _)) | (go_at_call 61; exact grow_call _ (hHs _))))
          refine wpQuiet_nil ?_
          rintro _ ⟨X, rfl⟩
          clear gc hHs hNt
          have XH : Below w2.heap.size w2 (gro w2 X) := X.h
          replace HP2 := hid (HP2.out.below XH)
          replace q2 := q2.trans (XH.mono hlo2)
          replace z0 := carry XH z0
          replace hsc := carry XH hsc
          replace hlo2 : lo ≤ (gro w2 X).heap.size := Nat.le_trans hlo q2.size
          replace p0 := carry XH p0
          clear XH pc hgl hsb
          generalize gro w2 X = w3 at *
          have hsb := cell_lt hsc
          have hgl := cell_lt z0
          have hFr := fun X : Gro w3 => freeU_any b 123 v (s1.C i 0) (s1.S v) (gro w3 X) (carry X.h hsc) ⟨e4, e5⟩ e1 e3
          go_upto_region 8 with fail
          have gc := @gro_cell w3
          cases hf : (s1.S v == 0)
          · rw [hf] at hFr
            have hf' : s1.S v ≠ 0 := by simpa using hf
            have ht : atU s1.T (s1.C i 0) = 1 := by
              have h1 := hAt'.out
              rcases atU_rng s1.T (s1.C i 0) with h | h | h
              · exact h
              · exact absurd (h1.2.2.2 h) hf'
              · exact absurd (h1.2.1.2 h) HV.out
            have HTt := hid ht
            have hme := hid (measU_eq HP2.out HS.out.2.2.2.1)
            clear hf hf' ht
            refine wp_region_grow_lit (by kernel_rfl) (by kernel_rfl) ?_
            repeat (go_big_quiet_step (first | (go_at_call 42; exact grow_call _ (hFr _))))
            refine wpQuiet_nil ?_
            rintro _ ⟨X, rfl⟩
            clear gc hFr
            have XH : Below w3.heap.size w3 (gro w3 X) := X.h
            have HP3 := hid (HP2.out.below XH)
            have q3 := q2.trans (XH.mono hlo2)
            have c122 := HP3.out.c122
            clear XH z0 hsc p0 hsb
            generalize gro w3 X = w4 at *
            have hIy := hIx _ _ HP3.out
            go_wp2_with (go_at_call 60; refine hIy.mono ?_; rintro e w5 ⟨⟨r1, rfl, hr1⟩, rfl⟩)
            go_roundw
            case rel => exact ⟨_, r1, rfl, hr1, HS.out.pass hi hNp' HTt.out HP3.out, q3⟩
            case measure =>
              rw [measU_eq HP3.out HS.out.2.2.2.1, hmeas.out]
              have := cntP_upd (p := s1.due) (q := fun j => if j = i then false else s1.due j) hi HDI.out (by simp) (fun t _ hne => by simp [hne])
              show frU 60 s1.T * (k.n + 1) + cntP (fun j => if j = i then false else s1.due j) k.n < _
              omega
          · rw [hf] at hFr
            have hf' : s1.S v = 0 := by simpa using hf
            have h0 : atU s1.T (s1.C i 0) = 0 := hAt'.out.2.2.1 hf'
            have H0 := hid h0
            clear hf hf'
            have HU := hid (show ∀ T' r, Ur k.n L (s1.T ++ [s1.C i 0]) T' r → Ur k.n L s.T T' r from fun T' r hu => HS.out.2.2.2.2.2 _ _ (Ur.step _ i _ _ _ hi (inv_uni HS.out.2.1 hi HD1.out hNp' h0) HId.out hu))
            have HG := hid (GoU.push s1.T _ HS.out.2.2.2.2.1 hlit h0)
            have hlen := HS.out.2.2.2.2.1.len60
            clear h0
            refine wp_region_grow_lit (by kernel_rfl) (by kernel_rfl) ?_
            repeat (go_big_quiet_step (first | (go_at_call 42; exact grow_call _ (hFr _))))
            refine wpQuiet_nil ?_
            rintro _ ⟨X, rfl⟩
            clear gc hFr
            have XH : Below w3.heap.size w3 (gro w3 X) := X.h
            have HP3 := hid (HP2.out.below XH)
            have q3 := q2.trans (XH.mono hlo2)
            have hlo3 : lo ≤ (gro w3 X).heap.size := Nat.le_trans hlo q3.size
            replace z0 := carry XH z0
            have hAs := assign_any lo b k _ L (s1.C i 0) _ HP3.out HKL.out hn HL.out HNN.out HS.out.2.1 (HS.out.asg HL.out hi hNp') HS.out.2.2.2.1 hlit H0.out (by show s1.T.length ≤ 61; omega) hlo3
            clear XH hsc p0 hsb
            generalize gro w3 X = w4 at *
            go_wp2_with fail
            refine hAs.mono ?_
            rintro e w5 ⟨rfl, ⟨s5, hP5, hT5, hS5, hB5, hD5⟩, hq5⟩
            have q5 := q3.trans hq5
            have c122 := hP5.c122
            have hIy := hIx _ _ hP5
            have hme5 := hid (measU_eq hP5 hS5)
            have HR5 : Hid (RunS lo b k L s.T s5 w5) := hid ⟨hP5, hB5, hD5, hS5, by rw [hT5]; exact HG.out, by rw [hT5]; exact HU.out⟩
            have hfr5 : frU 60 s1.T = frU 60 s5.T + 1 := by rw [hT5]; exact frU_push hlit H0.out
            clear hAs z0 hP5 hB5 hD5 hS5 hT5
            go_wp2_with (go_at_call 60; refine hIy.mono ?_; rintro e w6 ⟨⟨r1, rfl, hr1⟩, rfl⟩)
            go_roundw
            case rel => exact ⟨_, r1, rfl, hr1, HR5.out, q5⟩
            case measure =>
              rw [hme5.out, hmeas.out]
              exact meas_less hfr5 (cntP_le _ _)
        · rw [hv] at hHs
          have hv' : s1.S v = -(s1.C i 0) := by simpa using hv
          have HF := hid (show Ur k.n L s.T s1.T true from HS.out.2.2.2.2.2 _ _ (Ur.bad _ i hi (inv_fal HS.out.2.1 hi HD1.out (.inr (hAt'.out.2.1.1 hv'))) HId.out))
          clear hv hv'
          refine wp_region_grow_lit (by kernel_rfl) (by kernel_rfl) ?_
          repeat (go_big_quiet_step (first | (go_at_call 57; exact grow_call _ (hNt _)) | (go_at_call 61; exact grow_call _ (hHs _))))
          refine wpQuiet_nil ?_
          rintro _ ⟨X, rfl⟩
          clear gc hHs hNt
          have XH : Below w2.heap.size w2 (gro w2 X) := X.h
          go_wp2
          go_ret
          exact ⟨⟨_, .inr ⟨rfl, HP2.out.below XH, HF.out⟩⟩, q2.trans (XH.mono hlo2)⟩
end Go.Proofs.Ytjnngijilkdhbaa
