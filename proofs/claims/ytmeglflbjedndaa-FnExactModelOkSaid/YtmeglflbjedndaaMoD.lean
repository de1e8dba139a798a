/- Contract of the model's ModelSame. -/
import Derived.Test.YtmeglflbjedndaaMoC
namespace Go.Proofs.Ytmeglflbjedndaa
set_option linter.unusedVariables false
set_option linter.unusedSimpArgs false
open Go.RowKit
set_option maxHeartbeats 1000000 in
theorem srats_any (A B : Option Addr) (n m c d : Nat) (P Q P' Q' : Nat → Int) (w : World) (hn : n ≤ 9223372036854775807) (hm : m ≤ 9223372036854775807) (hA : Rats w A n P Q) (hB : Rats w B m P' Q') :
    Calls Try.prog 77 #[.slice A n c, .slice B m d] w fun e w' => e = .returned (.bool (ratsE n P Q m P' Q')) ∧ Below w.heap.size w w' := by
  by_cases hnm : n = m
  · subst hnm
    generalize hr : ratsE n P Q n P' Q' = res
    have HR := hid hr; clear hr
    go_enter Try.func77, Try.ntmps77
    go_wp2
    go_loopw [5] (fun i wr => ∃ k : Nat, k ≤ n ∧ i = .int .i64 k ∧ Below w.heap.size w wr ∧ ∀ j, j < k → P j = P' j ∧ Q j = Q' j) (fun i _ => n - (intOf i).toNat)
    case atStart => exact ⟨0, Nat.zero_le _, rfl, Below.refl _ _, fun j hj => by omega⟩
    case round =>
      obtain ⟨k, hk, rfl, hb, he⟩ := hrel
      have HE := hid he; clear he
      by_cases hlt : k < n
      · rcases hA with h0 | ⟨g, off, rfl, hg, hcA⟩
        · omega
        rcases hB with h0 | ⟨g2, off2, rfl, hg2, hcB⟩
        · omega
        have c1 := carry hb (hcA k hlt).1
        have c2 := carry hb (hcA k hlt).2
        have c3 := carry hb (hcB k hlt).1
        have c4 := carry hb (hcB k hlt).2
        have gg : g < wr.heap.size := Nat.lt_of_lt_of_le hg hb.size
        have gg2 : g2 < wr.heap.size := Nat.lt_of_lt_of_le hg2 hb.size
        clear hcA hcB
        by_cases heq : P k = P' k ∧ Q k = Q' k
        · have e1 := eqrat_yes heq
          have HQ := hid heq; clear heq
          go_wp2
          go_region
          all_goals
            go_wp2
            go_roundw
            case rel =>
              refine ⟨k + 1, by omega, by go_num, hb.drew, fun j hj => ?_⟩
              by_cases e : j = k
              · subst e; exact HQ.out
              · exact HE.out j (by omega)
            case measure => simp [intOf]; omega
        · have e1 := eqrat_no heq
          have HF := hid (ratsE_no (n := n) (m := n) (fun h => heq (h.2 k hlt))); clear heq
          go_wp2
          go_region
          all_goals
            go_wp2
            go_ret
            exact ⟨ret_bool (by rw [← HR.out, HF.out]), hb.drew⟩
      · have hke : k = n := by omega
        subst hke
        have HT := hid (ratsE_iff.2 ⟨rfl, HE.out⟩)
        go_wp2
        go_ret
        exact ⟨ret_bool (by rw [← HR.out, HT.out]), hb⟩
  · have HF := hid (ratsE_no (P := P) (Q := Q) (P' := P') (Q' := Q') (fun h => hnm h.1))
    have d1 : ((n : Int) != m) = true := by simp; omega
    clear hnm
    go_enter Try.func77, Try.ntmps77
    go_wp2
    go_ret
    exact ⟨ret_bool HF.out.symm, Below.refl _ _⟩
theorem srats_at {A B : Option Addr} {n m c d : Nat} {P Q P' Q' : Nat → Int} {w : World} (hn : n ≤ 1048576) (hm : m ≤ 1048576) (hA : Rats w A n P Q) (hB : Rats w B m P' Q') {r : Bool} (h : ratsE n P Q m P' Q' = r) (W : World) (hb : Below w.heap.size w W) :
    Calls Try.prog 77 #[.slice A n c, .slice B m d] W fun e w' => e = .returned (.bool r) ∧ Below W.heap.size W w' := by
  subst h; exact srats_any A B n m c d P Q P' Q' W (by omega) (by omega) (hA.below hb) (hB.below hb)
set_option maxRecDepth 100000 in
set_option maxHeartbeats 8000000 in
theorem smodelsame_any (A B : Option Addr) (n m c d : Nat) (L M : Mo) (w : World) (hn : n ≤ 9223372036854775806) (hm : m ≤ 9223372036854775806) (hA : MRows w A n L) (hB : MRows w B m M) (hL : SmM n L) (hM : SmM m M) :
    Calls Try.prog 16 #[.agg #[.slice A n c], .agg #[.slice B m d]] w fun e w' => e = .returned (.bool (modE n L m M)) ∧ Below w.heap.size w w' := by
  generalize hr : modE n L m M = res
  have HR := hid hr; clear hr
  have HL := hid hL; have HM := hid hM; clear hL hM
  by_cases hnm : n = m
  · subst hnm
    have b0 : ((w.alloc (.cells #[.slice A n c] 29)).alloc (.cells #[.slice B n d] 29)).cell? ⟨w.heap.size, 0, none⟩ = some (.slice A n c) := by simp [go_sem]
    have b1 : ((w.alloc (.cells #[.slice A n c] 29)).alloc (.cells #[.slice B n d] 29)).cell? ⟨w.heap.size + 1, 0, none⟩ = some (.slice B n d) := by simp [go_sem]
    have q0 := bal (bal (Below.refl w.heap.size w) (.cells #[.slice A n c] 29)) (.cells #[.slice B n d] 29)
    have hA2 := hA.below q0
    have hB2 := hB.below q0
    clear hA hB
    go_enter Try.func16, Try.ntmps16
    go_wp2
    generalize (w.alloc (.cells #[.slice A n c] 29)).alloc (.cells #[.slice B n d] 29) = W0 at *
    go_loopw [5] (fun i wr => ∃ k : Nat, k ≤ n ∧ i = .int .i64 k ∧ Below W0.heap.size W0 wr ∧ ∀ j, j < k → rowE (L.Nm j) (M.Nm j) (L.N j) (L.P j) (L.Q j) (M.N j) (M.P j) (M.Q j) (L.U j) (L.V j) (M.U j) (M.V j) = true) (fun i _ => n - (intOf i).toNat)
    case atStart => exact ⟨0, Nat.zero_le _, rfl, Below.refl _ _, fun j hj => by omega⟩
    case round =>
      obtain ⟨k, hk, rfl, hb, he⟩ := hrel
      have HE := hid he; clear he
      have g0 := carry hb b0
      have g1 := carry hb b1
      have gs0 : w.heap.size < wr.heap.size := cell_lt g0
      have gs1 : w.heap.size + 1 < wr.heap.size := cell_lt g1
      clear b0 b1
      by_cases hlt : k < n
      · rcases hA2 with h0 | ⟨g, off, rfl, hg, hcA⟩
        · omega
        rcases hB2 with h0 | ⟨g2, off2, rfl, hg2, hcB⟩
        · omega
        obtain ⟨a, ca, a0, a1, a2, a3, _, _, hI⟩ := hcA k hlt
        obtain ⟨b, cb, b0, b1, b2, b3, _, _, hJ⟩ := hcB k hlt
        have gg : g < wr.heap.size := Nat.lt_of_lt_of_le hg hb.size
        have gg2 : g2 < wr.heap.size := Nat.lt_of_lt_of_le hg2 hb.size
        replace a0 := carry hb a0
        replace a1 := carry hb a1
        replace a2 := carry hb a2
        replace a3 := carry hb a3
        replace b0 := carry hb b0
        replace b1 := carry hb b1
        replace b2 := carry hb b2
        replace b3 := carry hb b3
        replace hI := hI.below hb
        replace hJ := hJ.below hb
        clear hcA hcB
        have no : ∀ {p : Prop}, ¬ p → (modE n L n M = true → p) → modE n L n M = false := fun hp h => by
          cases e : modE n L n M
          · rfl
          · exact absurd (h e) hp
        by_cases h1 : (L.Nm k).toList = (M.Nm k).toList
        · have d1 : ((L.Nm k).toList == (M.Nm k).toList) = true := by simpa using h1
          have d1' : ((L.Nm k).toList != (M.Nm k).toList) = false := by simpa using h1
          by_cases h2 : L.U k = M.U k ∧ L.V k = M.V k
          · have d2 := eqrat_yes h2
            cases h3 : ratsE (L.N k) (L.P k) (L.Q k) (M.N k) (M.P k) (M.Q k)
            · have hO := fun X : Gro wr => srats_at (c := ca) (d := cb) (HL.out k hlt).1 (HM.out k hlt).1 hI hJ h3 (gro wr X) X.h
              have HF := hid (no (p := ratsE (L.N k) (L.P k) (L.Q k) (M.N k) (M.P k) (M.Q k) = true) (by rw [h3]; simp) (fun e => (rowE_iff.1 ((modE_iff.1 e).2 k hlt)).2.1))
              clear h1 h2 h3
              have gc := @gro_cell wr
              go_upto_region 6 with fail
              refine wp_region_grow_lit (by kernel_rfl) (by kernel_rfl) ?_
              repeat (go_big_quiet_step ((go_at_call 77; exact grow_call _ (hO _))))
              refine wpQuiet_nil ?_
              rintro _ ⟨X, rfl⟩
              clear gc
              go_wp2
              go_ret
              exact ⟨ret_bool (HF.out.symm.trans HR.out), btr q0 (btr hb X.h)⟩
            · have hO := fun X : Gro wr => srats_at (c := ca) (d := cb) (HL.out k hlt).1 (HM.out k hlt).1 hI hJ h3 (gro wr X) X.h
              have HV := hid (rowE_iff.2 ⟨h1, h3, h2.1, h2.2⟩)
              clear h1 h2 h3
              have gc := @gro_cell wr
              go_upto_region 6 with fail
              refine wp_region_grow_lit (by kernel_rfl) (by kernel_rfl) ?_
              repeat (go_big_quiet_step ((go_at_call 77; exact grow_call _ (hO _))))
              refine wpQuiet_nil ?_
              rintro _ ⟨X, rfl⟩
              clear gc
              go_wp2
              go_roundw
              case rel =>
                refine ⟨k + 1, by omega, by go_num, btr hb X.h, fun t ht => ?_⟩
                by_cases e : t = k
                · rw [e]; exact HV.out
                · exact HE.out t (by omega)
              case measure => simp [intOf]; omega
          · have d2 := eqrat_no h2
            have HF := hid (no h2 (fun e => by have := rowE_iff.1 ((modE_iff.1 e).2 k hlt); exact this.2.2)); clear h2
            have gc := @gro_cell wr
            go_upto_region 6 with fail
            refine wp_region_grow_lit (by kernel_rfl) (by kernel_rfl) ?_
            repeat (go_big_quiet_step (fail))
            refine wpQuiet_nil ?_
            rintro _ ⟨X, rfl⟩
            clear gc
            go_wp2
            go_ret
            exact ⟨ret_bool (HF.out.symm.trans HR.out), btr q0 (btr hb X.h)⟩
        · have d1 : ((L.Nm k).toList == (M.Nm k).toList) = false := by simpa using h1
          have d1' : ((L.Nm k).toList != (M.Nm k).toList) = true := by simpa using h1
          have HF := hid (no (p := (L.Nm k).toList = (M.Nm k).toList) h1 (fun e => (rowE_iff.1 ((modE_iff.1 e).2 k hlt)).1)); clear h1
          have gc := @gro_cell wr
          go_upto_region 6 with fail
          refine wp_region_grow_lit (by kernel_rfl) (by kernel_rfl) ?_
          repeat (go_big_quiet_step (fail))
          refine wpQuiet_nil ?_
          rintro _ ⟨X, rfl⟩
          clear gc
          go_wp2
          go_ret
          exact ⟨ret_bool (HF.out.symm.trans HR.out), btr q0 (btr hb X.h)⟩
      · have hke : k = n := by omega
        subst hke
        have HT := hid (modE_iff.2 ⟨rfl, HE.out⟩)
        go_wp2
        go_ret
        exact ⟨ret_bool (HT.out.symm.trans HR.out), btr q0 hb⟩
  · have HF := hid (modE_no (L := L) (M := M) (fun h => hnm h.1))
    have d1 : ((n : Int) != m) = true := by simp; omega
    clear hnm
    go_enter Try.func16, Try.ntmps16
    go_wp2
    go_ret
    exact ⟨ret_bool (HF.out.symm.trans HR.out), bal (bal (Below.refl _ _) _) _⟩
end Go.Proofs.Ytmeglflbjedndaa
