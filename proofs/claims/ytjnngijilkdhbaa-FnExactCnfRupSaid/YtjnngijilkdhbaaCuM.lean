/- The model's l10Right and CnfUnits. -/
import Derived.Test.YtjnngijilkdhbaaCuL
import Derived.BigQuiet
namespace Go.Proofs.Ytjnngijilkdhbaa
set_option linter.unusedVariables false
set_option linter.unusedSimpArgs false
open Go.RowKit
/-- literals of the variables 1 to m, each once -/
noncomputable def goB (m : Int) (T : List Int) : Bool := @decide (GoU m T) (Classical.propDecidable _)
theorem goB_yes {m : Int} {T : List Int} (h : GoU m T) : goB m T = true := by unfold goB; exact @decide_eq_true _ (Classical.propDecidable _) h
theorem goB_no {m : Int} {T : List Int} (h : ¬ GoU m T) : goB m T = false := by unfold goB; exact @decide_eq_false _ (Classical.propDecidable _) h
theorem goB_of {m : Int} {T : List Int} (h : goB m T = true) : GoU m T := by unfold goB at h; exact @of_decide_eq_true _ (Classical.propDecidable _) h
theorem goU_stop {m : Int} {N k : Nat} {V : Nat → Int} (hk : k < N) (h : ¬ (ofC (V k) m = true ∧ atU (putL k V) (V k) = 0)) : ¬ GoU m (putL N V) := fun hg => by
  have h1 := goU_upto hg (k := k + 1) (by omega)
  rw [putL_succ] at h1
  exact h ⟨(goU_inv h1).2.1, (goU_inv h1).2.2⟩
set_option maxHeartbeats 8000000 in
theorem sright_any (B : Option Addr) (N cB : Nat) (V : Nat → Int) (m : Int) (w : World) (hN : N ≤ 9223372036854775807) (hNc : N ≤ cB) (hm0 : 0 ≤ m) (hm : m ≤ 60) (hB : Ints w B N V) :
    Calls Try.prog 38 #[.slice B N cB, .int .i64 m] w fun e w' => e = .returned (.bool (goB m (putL N V))) ∧ Below w.heap.size w w' := by
  generalize hr : goB m (putL N V) = res
  have HR := hid hr; clear hr
  go_enter Try.func38, Try.ntmps38
  go_wp2
  go_loopw [5] (fun i wr => ∃ k : Nat, k ≤ N ∧ i = .int .i64 k ∧ GoU m (putL k V) ∧ Below w.heap.size w wr) (fun i _ => N - (intOf i).toNat)
  case atStart => exact ⟨0, Nat.zero_le _, rfl, .nil, Below.refl _ _⟩
  case round =>
    obtain ⟨k, hk, rfl, hg, hb⟩ := hrel
    have HG := hid hg; clear hg
    by_cases hlt : k < N
    · rcases hB with h0 | ⟨g, off, rfl, hgg, hcB⟩
      · omega
      have c1 := carry hb (hcB k hlt)
      have hIk : Ints wr (some ⟨g, off, none⟩) k V := .inr ⟨g, off, rfl, Nat.lt_of_lt_of_le hgg hb.size, fun j hj => carry hb (hcB j (by omega))⟩
      clear hcB
      have gg := cell_lt c1
      have hkI : (k : Int) < (N : Int) := by omega
      have hkc : (k : Int) ≤ (cB : Int) := by omega
      have hkc' : k ≤ cB := by omega
      have gc := @gro_cell wr
      go_upto_region 4 with fail
      by_cases h0 : V k = 0
      · have d0 : (V k == 0) = true := by simpa using h0
        have HF := hid (goB_no (goU_stop hlt (m := m) (V := V) fun h => (ofC_iff.1 h.1).1 h0))
        clear h0
        refine wp_region_grow_lit (by kernel_rfl) (by kernel_rfl) ?_
        repeat (go_big_quiet_step (fail))
        refine wpQuiet_nil ?_
        rintro _ ⟨X, rfl⟩
        clear gc
        go_wp2
        go_ret
        exact ⟨ret_bool (HF.out.symm.trans HR.out), btr hb X.h⟩
      · have d0 : (V k == 0) = false := by simpa using h0
        have hAb := fun X : Gro wr => (sabs_any (V k) (gro wr X)).mono fun e w' h => (⟨h.1, h.2 ▸ Below.refl _ _⟩ : e = .returned (.int .i64 (ab6 (V k))) ∧ Below (gro wr X).heap.size (gro wr X) w')
        by_cases h1 : m < ab6 (V k)
        · have d1 : decide (m < ab6 (V k)) = true := by simpa using h1
          have HF := hid (goB_no (goU_stop hlt (m := m) (V := V) fun h => by
            have h2 := ofC_iff.1 h.1
            rw [ab6_in (by omega) (by omega)] at h1
            split at h1 <;> omega))
          clear h0 h1
          refine wp_region_grow_lit (by kernel_rfl) (by kernel_rfl) ?_
          repeat (go_big_quiet_step ((go_at_call 51; exact grow_call _ (hAb _))))
          refine wpQuiet_nil ?_
          rintro _ ⟨X, rfl⟩
          clear gc hAb
          go_wp2
          go_ret
          exact ⟨ret_bool (HF.out.symm.trans HR.out), btr hb X.h⟩
        · have d1 : decide (m < ab6 (V k)) = false := by simpa using h1
          have hof : ofC (V k) m = true := by
            have h2 := ab6_le hm (x := V k) (by omega)
            exact ofC_iff.2 ⟨h0, h2.1, h2.2.1⟩
          have hbd := ofC_iff.1 hof
          have HO := hid hof
          have hAt := fun X : Gro wr => (sat_any (some ⟨g, off, none⟩) k cB V (V k) (gro wr X) (by omega) (hIk.below X.h) (by omega)).mono fun e w' h => (⟨h.1, h.2 ▸ Below.refl _ _⟩ : e = .returned (.int .i64 (atU (putL k V) (V k))) ∧ Below (gro wr X).heap.size (gro wr X) w')
          clear h0 h1 hof hbd hIk
          by_cases h2 : atU (putL k V) (V k) = 0
          · rw [h2] at hAt
            have HG2 := hid (show GoU m (putL (k + 1) V) from by rw [putL_succ]; exact .push _ _ HG.out HO.out h2)
            clear h2
            refine wp_region_grow_lit (by kernel_rfl) (by kernel_rfl) ?_
            repeat (go_big_quiet_step (first | (go_at_call 51; exact grow_call _ (hAb _)) | (go_at_call 52; exact grow_call _ (hAt _))))
            refine wpQuiet_nil ?_
            rintro _ ⟨X, rfl⟩
            clear gc hAb hAt
            go_wp2
            go_roundw
            case rel => exact ⟨k + 1, by omega, by go_num, HG2.out, btr hb X.h⟩
            case measure => simp [intOf]; omega
          · have d2 : (atU (putL k V) (V k) != 0) = true := by simpa using h2
            have HF := hid (goB_no (goU_stop hlt (m := m) (V := V) fun h => h2 h.2))
            clear h2
            generalize atU (putL k V) (V k) = z at *
            refine wp_region_grow_lit (by kernel_rfl) (by kernel_rfl) ?_
            repeat (go_big_quiet_step (first | (go_at_call 51; exact grow_call _ (hAb _)) | (go_at_call 52; exact grow_call _ (hAt _))))
            refine wpQuiet_nil ?_
            rintro _ ⟨X, rfl⟩
            clear gc hAb hAt
            go_wp2
            go_ret
            exact ⟨ret_bool (HF.out.symm.trans HR.out), btr hb X.h⟩
    · have hke : k = N := by omega
      subst hke
      have HF := hid (goB_yes HG.out)
      go_wp2
      go_ret
      exact ⟨ret_bool (HF.out.symm.trans HR.out), hb⟩
set_option maxHeartbeats 4000000 in
theorem scnfunits_any (A : Option Addr) (n c : Nat) (L : Lls) (m : Int) (B : Option Addr) (N cB : Nat) (V : Nat → Int) (w : World) (hn : n ≤ 9223372036854775807) (hA : IntSS w A n L) (hN : N ≤ 9223372036854775807) (hNc : N ≤ cB) (hB : Ints w B N V) :
    Calls Try.prog 23 #[.agg #[.int .i64 m, .slice A n c], .slice B N cB] w fun e w' => UnP w n L m (putL N V) e w' ∧ Below w.heap.size w w' := by
  have q0 := bal (Below.refl w.heap.size w) (.cells #[.int .i64 m, .slice A n c] 31)
  obtain ⟨c0, c1⟩ := pair_new w (.int .i64 m) (.slice A n c) 31
  have hK := fun W (h : Below w.heap.size w W) => scnfok_any A n c L m W hn (hA.below h)
  go_enter Try.func23, Try.ntmps23
  go_upto_region 1 with fail
  generalize w.alloc (.cells #[.int .i64 m, .slice A n c] 31) = w1 at *
  cases hcn : cnB n L m
  · rw [hcn] at hK
    have HF := hid (show ¬ (cnB n L m = true ∧ GoU m (putL N V)) from fun h => by rw [hcn] at h; cases h.1)
    clear hcn
    go_wp2_with (go_at_call 32; refine (hK _ q0).mono ?_; rintro e w2 ⟨rfl, hq⟩)
    go_ret2
    exact ⟨⟨[], false, _, _, .inr ⟨HF.out, rfl, rfl⟩, rfl, .inl rfl⟩, bal (btr q0 hq) _⟩
  · rw [hcn] at hK
    obtain ⟨n4, m0, m60, hL, hL6, hInj⟩ := cn_facts hcn
    have hR := fun W (h : Below w.heap.size w W) => sright_any B N cB V m W hN hNc m0 m60 (hB.below h)
    cases hgo : goB m (putL N V)
    · rw [hgo] at hR
      have HF := hid (show ¬ (cnB n L m = true ∧ GoU m (putL N V)) from fun h => by rw [goB_yes h.2] at hgo; cases hgo)
      clear hcn hgo hL hL6 hInj
      go_wp2_with fail
      refine (hK _ q0).mono ?_
      rintro e w2 ⟨rfl, hq⟩
      have c0' := carry hq c0
      have q2 := btr q0 hq
      clear c0 c1 hq
      go_wp2_with fail
      refine (hR _ q2).mono ?_
      rintro e w3 ⟨rfl, hq⟩
      have q3 := btr q2 hq
      go_wp2
      go_ret2
      exact ⟨⟨[], false, _, _, .inr ⟨HF.out, rfl, rfl⟩, rfl, .inl rfl⟩, bal q3 _⟩
    · rw [hgo] at hR
      have HCN := hid hcn; have HGO := hid (goB_of hgo)
      have hU := fun W (h : Below w.heap.size w W) => sunits_any A n c L m B N cB V W n4 (hA.below h) hL hL6 hInj (hB.below h) (HGO.out.mono m60)
      clear hcn hgo hL hL6 hInj
      go_wp2_with fail
      refine (hK _ q0).mono ?_
      rintro e w2 ⟨rfl, hq⟩
      have c0' := carry hq c0
      have c1' := carry hq c1
      have q2 := btr q0 hq
      clear c0 c1 hq
      go_wp2_with fail
      refine (hR _ q2).mono ?_
      rintro e w3 ⟨rfl, hq⟩
      have q3 := btr q2 hq
      have c0 := carry hq c0'
      have c1 := carry hq c1'
      clear c0' c1' hq
      go_wp2_with fail
      refine (hU _ q3).mono ?_
      rintro e w4 ⟨⟨l, r, A', c', hu, rfl, hO⟩, hq⟩
      have HU := hid hu
      clear hu hU
      go_wp2
      go_ret2
      exact ⟨⟨l, r, A', c', .inl ⟨HCN.out, HGO.out, HU.out⟩, rfl, OwnI.old q3.size hO⟩, btr q3 hq⟩
end Go.Proofs.Ytjnngijilkdhbaa
