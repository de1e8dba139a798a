/- Contract of the model's SigOk. -/
import Derived.Test.YtmeglflbjedndaaSigC
import Derived.Test.YtmeglflbjedndaaLinO
namespace Go.Proofs.Ytmeglflbjedndaa
set_option linter.unusedVariables false
set_option linter.unusedSimpArgs false
open Go.RowKit
theorem below_of_same {w : World} {P : Program} {f : FuncId} {args : Array Value} {v : Value} (h : Calls P f args w fun e w' => e = .returned v ∧ w = w') : Calls P f args w fun e w' => e = .returned v ∧ Below w.heap.size w w' :=
  h.mono fun _ _ ⟨he, hw⟩ => ⟨he, by subst hw; exact Below.refl _ _⟩
set_option maxRecDepth 100000 in
set_option maxHeartbeats 8000000 in
theorem ssigok_any (A : Option Addr) (n c : Nat) (L : Sy) (w : World) (hn : n ≤ 9223372036854775806) (hA : Syms w A n L) (hN : SmY n L) :
    Calls Try.prog 70 #[.agg #[.slice A n c]] w fun e w' => e = .returned (.bool (sigB n L)) ∧ Below w.heap.size w w' := by
  generalize hr : sigB n L = res
  have HR := hid hr; clear hr
  have HNN := hid hN; clear hN
  have b0 : (w.alloc (.cells #[.slice A n c] 39)).cell? ⟨w.heap.size, 0, none⟩ = some (.slice A n c) := by simp [go_sem]
  have q0 := bal (Below.refl w.heap.size w) (.cells #[.slice A n c] 39)
  have hA2 := hA.below q0
  have hs : w.heap.size < (w.alloc (.cells #[.slice A n c] 39)).heap.size := by simp
  clear hA
  go_enter Try.func70, Try.ntmps70
  go_wp2
  generalize w.alloc (.cells #[.slice A n c] 39) = W0 at *
  go_loopw [3] (fun i wr => ∃ k : Nat, k ≤ n ∧ i = .int .i64 k ∧ Below W0.heap.size W0 wr ∧ (∀ j, j < k → symB (L.Nm j) (L.N j) (L.Z j) (L.S j) = true) ∧ ∀ j, j + 1 < k → Op.bytesLess (L.Nm j).toList (L.Nm (j + 1)).toList = true) (fun i _ => n - (intOf i).toNat)
  case atStart => exact ⟨0, Nat.zero_le _, rfl, Below.refl _ _, fun j hj => by omega, fun j hj => by omega⟩
  case round =>
    obtain ⟨k, hk, rfl, hb, he, hf⟩ := hrel
    have HE := hid he; clear he
    have HA := hid hf; clear hf
    have g0 := carry hb b0
    have gs : w.heap.size < wr.heap.size := Nat.lt_of_lt_of_le hs hb.size
    clear b0
    by_cases hlt : k < n
    · rcases hA2 with h0 | ⟨g, off, rfl, hg, hcA⟩
      · omega
      obtain ⟨a, ca, a0, a1, a2, hMk, hNk, hI⟩ := hcA k hlt
      have hp := fun (j : Nat) (h : k = j + 1) => carry hb (hcA j (by omega)).choose_spec.choose_spec.1
      have gg : g < wr.heap.size := Nat.lt_of_lt_of_le hg hb.size
      replace a0 := carry hb a0
      replace a1 := carry hb a1
      replace a2 := carry hb a2
      replace hI := hI.below hb
      have HP := hid hp; clear hp
      clear hcA
      go_upto_region 5 with fail
      obtain ⟨x0, x1, x2⟩ := new3 wr (.string (L.Nm k)) (.slice a (L.N k) ca) (.int .i64 (L.S k)) 105
      have al := bal (Below.refl wr.heap.size wr) (.cells #[.string (L.Nm k), .slice a (L.N k) ca, .int .i64 (L.S k)] 105)
      have hx : wr.heap.size < (wr.alloc (.cells #[.string (L.Nm k), .slice a (L.N k) ca, .int .i64 (L.S k)] 105)).heap.size := by simp
      replace g0 := carry al g0
      replace HP := hid (fun j h => carry al (HP.out j h))
      replace hb := btr hb al
      replace hI := hI.below al
      have gs2 : w.heap.size < (wr.alloc (.cells #[.string (L.Nm k), .slice a (L.N k) ca, .int .i64 (L.S k)] 105)).heap.size := by omega
      have gg2 : g < (wr.alloc (.cells #[.string (L.Nm k), .slice a (L.N k) ca, .int .i64 (L.S k)] 105)).heap.size := by omega
      clear a0 a1 a2 al
      generalize hxb : wr.heap.size = xb at x0 x1 x2 hx ⊢
      generalize wr.alloc (.cells #[.string (L.Nm k), .slice a (L.N k) ca, .int .i64 (L.S k)] 105) = W1 at *
      clear hxb gs gg
      have gc := @gro_cell W1
      cases hv : nameB (L.Nm k)
      · have hO := fun X : Gro W1 => below_of_same (sname_at hMk hv (gro W1 X))
        have HF := hid (sigB_no (L := L) (n := n) (fun h => by have := (symB_iff.1 (h.2.1 k hlt)).1; rw [hv] at this; cases this)); clear hv
        refine wp_region_grow_lit (by kernel_rfl) (by kernel_rfl) ?_
        repeat (go_big_quiet_step ((go_at_call 67; exact grow_call _ (hO _))))
        refine wpQuiet_nil ?_
        rintro _ ⟨X, rfl⟩
        clear gc
        go_wp2
        go_ret
        exact ⟨ret_bool (HF.out.symm.trans HR.out), btr q0 (btr hb X.h)⟩
      have hO := fun X : Gro W1 => below_of_same (sname_at hMk hv (gro W1 X))
      have HV := hid hv; clear hv
      by_cases h2 : L.N k ≤ 2
      · have d2 : decide (2 < (L.N k : Int)) = false := by simp; omega
        have H2 := hid h2; clear h2
        cases hs2 : sortB (L.S k)
        · have hS := fun X : Gro W1 => below_of_same (ssort_at hs2 (gro W1 X))
          have HF := hid (sigB_no (L := L) (n := n) (fun h => by have := (symB_iff.1 (h.2.1 k hlt)).2.2.2; rw [hs2] at this; cases this)); clear hs2
          refine wp_region_grow_lit (by kernel_rfl) (by kernel_rfl) ?_
          repeat (go_big_quiet_step ((first | (go_at_call 67; exact grow_call _ (hO _)) | (go_at_call 138; exact grow_call _ (hS _)))))
          refine wpQuiet_nil ?_
          rintro _ ⟨X, rfl⟩
          clear gc
          go_wp2
          go_ret
          exact ⟨ret_bool (HF.out.symm.trans HR.out), btr q0 (btr hb X.h)⟩
        have hS := fun X : Gro W1 => below_of_same (ssort_at hs2 (gro W1 X))
        have HS := hid hs2; clear hs2
        by_cases hk0 : k = 0
        · have dk : decide (0 < k) = false := by simp; omega
          have HK0 := hid hk0; clear hk0
          refine wp_region_grow_lit (by kernel_rfl) (by kernel_rfl) ?_
          repeat (go_big_quiet_step ((first | (go_at_call 67; exact grow_call _ (hO _)) | (go_at_call 138; exact grow_call _ (hS _)))))
          refine wpQuiet_nil ?_
          rintro _ ⟨X, rfl⟩
          clear gc
          have y1 : (gro W1 X).cell? ⟨xb, 1, none⟩ = some (.slice a (L.N k) ca) := carry X.h x1
          have hb3 : Below W0.heap.size W0 (gro W1 X) := btr hb X.h
          have hI3 : Ints (gro W1 X) a (L.N k) (L.Z k) := hI.below X.h
          have g3 : (gro W1 X).cell? ⟨w.heap.size, 0, none⟩ = some (.slice (some ⟨g, off, none⟩) n c) := carry X.h g0
          clear x0 x1 x2 hb hI g0 hO hS HP
          generalize gro W1 X = W2 at *
          clear X gg2 gs2 hx
          go_wp2
          go_loop [5] (fun i => ∃ m : Nat, m ≤ L.N k ∧ i = .int .i64 m ∧ ∀ j, j < m → sortB (L.Z k j) = true) (fun i => L.N k - (intOf i).toNat)
          case atStart => exact ⟨0, Nat.zero_le _, rfl, fun j hj => by omega⟩
          case round =>
            obtain ⟨m, hm, rfl, hz⟩ := hrel
            have HZ := hid hz; clear hz
            by_cases hlt2 : m < L.N k
            · rcases hI3 with h0 | ⟨g', off', rfl, hg', hc'⟩
              · omega
              have z1 := hc' m hlt2
              clear hc'
              cases hs3 : sortB (L.Z k m)
              · have HF := hid (sigB_no (L := L) (n := n) (fun h => by have := (symB_iff.1 (h.2.1 k hlt)).2.2.1 m hlt2; rw [hs3] at this; cases this))
                have hS := fun W => ssort_at hs3 W
                clear hs3
                go_wp2_with (go_at_call 138; refine (hS _).mono ?_; rintro e w1 ⟨rfl, rfl⟩)
                go_ret
                exact ⟨ret_bool (HF.out.symm.trans HR.out), btr q0 hb3⟩
              · have hS := fun W => ssort_at hs3 W
                have HS3 := hid hs3; clear hs3
                go_wp2_with (go_at_call 138; refine (hS _).mono ?_; rintro e w1 ⟨rfl, rfl⟩)
                go_round
                case rel =>
                  refine ⟨m + 1, by omega, by go_num, fun j hj => ?_⟩
                  by_cases e : j = m
                  · subst e; exact HS3.out
                  · exact HZ.out j (by omega)
                case measure => simp [intOf]; omega
            · have hme : m = L.N k := by omega
              have HM := hid hme
              have d3 : decide ((m : Int) < (L.N k : Int)) = false := by simp; omega
              have HY := hid (symB_iff.2 ⟨HV.out, H2.out, fun j hj => HZ.out j (by omega), HS.out⟩)
              clear hme
              go_wp2
              go_roundw
              case rel =>
                refine ⟨k + 1, by omega, by go_num, hb3, fun j hj => ?_, fun j hj => ?_⟩
                · by_cases e : j = k
                  · rw [e]; exact HY.out
                  · exact HE.out j (by omega)
                · exact absurd hj (by have := HK0.out; omega)
              case measure => simp [intOf]; omega
        · obtain ⟨p, hkp⟩ : ∃ p, k = p + 1 := ⟨k - 1, by omega⟩
          have hpp := HP.out p hkp
          have dk : decide (0 < k) = true := by simp; omega
          have dk2 : 0 < k := by omega
          have e1 : ((k : Int) - 1).toNat = p := by omega
          have e2 : 0 ≤ (k : Int) - 1 := by omega
          have e3 : (k : Int) - 1 < n := by omega
          have HKP := hid hkp; clear hkp hk0
          cases hl : Op.bytesLess (L.Nm p).toList (L.Nm k).toList
          · have HF := hid (sigB_no (L := L) (n := n) (fun h => by have := ascB_iff.1 h.2.2 p (by have := HKP.out; omega) (by have := HKP.out; omega); rw [← HKP.out, hl] at this; cases this))
            refine wp_region_grow_lit (by kernel_rfl) (by kernel_rfl) ?_
            repeat (go_big_quiet_step ((first | (go_at_call 67; exact grow_call _ (hO _)) | (go_at_call 138; exact grow_call _ (hS _)))))
            refine wpQuiet_nil ?_
            rintro _ ⟨X, rfl⟩
            clear gc
            go_wp2
            go_ret
            exact ⟨ret_bool (HF.out.symm.trans HR.out), btr q0 (btr hb X.h)⟩
          · have HL := hid hl
            refine wp_region_grow_lit (by kernel_rfl) (by kernel_rfl) ?_
            repeat (go_big_quiet_step ((first | (go_at_call 67; exact grow_call _ (hO _)) | (go_at_call 138; exact grow_call _ (hS _)))))
            refine wpQuiet_nil ?_
            rintro _ ⟨X, rfl⟩
            clear gc
            clear hl hpp e1 e2 e3
            have y1 : (gro W1 X).cell? ⟨xb, 1, none⟩ = some (.slice a (L.N k) ca) := carry X.h x1
            have hb3 : Below W0.heap.size W0 (gro W1 X) := btr hb X.h
            have hI3 : Ints (gro W1 X) a (L.N k) (L.Z k) := hI.below X.h
            have g3 : (gro W1 X).cell? ⟨w.heap.size, 0, none⟩ = some (.slice (some ⟨g, off, none⟩) n c) := carry X.h g0
            clear x0 x1 x2 hb hI g0 hO hS HP
            generalize gro W1 X = W2 at *
            clear X gg2 gs2 hx
            go_wp2
            go_loop [5] (fun i => ∃ m : Nat, m ≤ L.N k ∧ i = .int .i64 m ∧ ∀ j, j < m → sortB (L.Z k j) = true) (fun i => L.N k - (intOf i).toNat)
            case atStart => exact ⟨0, Nat.zero_le _, rfl, fun j hj => by omega⟩
            case round =>
              obtain ⟨m, hm, rfl, hz⟩ := hrel
              have HZ := hid hz; clear hz
              by_cases hlt2 : m < L.N k
              · rcases hI3 with h0 | ⟨g', off', rfl, hg', hc'⟩
                · omega
                have z1 := hc' m hlt2
                clear hc'
                cases hs3 : sortB (L.Z k m)
                · have HF := hid (sigB_no (L := L) (n := n) (fun h => by have := (symB_iff.1 (h.2.1 k hlt)).2.2.1 m hlt2; rw [hs3] at this; cases this))
                  have hS := fun W => ssort_at hs3 W
                  clear hs3
                  go_wp2_with (go_at_call 138; refine (hS _).mono ?_; rintro e w1 ⟨rfl, rfl⟩)
                  go_ret
                  exact ⟨ret_bool (HF.out.symm.trans HR.out), btr q0 hb3⟩
                · have hS := fun W => ssort_at hs3 W
                  have HS3 := hid hs3; clear hs3
                  go_wp2_with (go_at_call 138; refine (hS _).mono ?_; rintro e w1 ⟨rfl, rfl⟩)
                  go_round
                  case rel =>
                    refine ⟨m + 1, by omega, by go_num, fun j hj => ?_⟩
                    by_cases e : j = m
                    · subst e; exact HS3.out
                    · exact HZ.out j (by omega)
                  case measure => simp [intOf]; omega
              · have hme : m = L.N k := by omega
                have HM := hid hme
                have d3 : decide ((m : Int) < (L.N k : Int)) = false := by simp; omega
                have HY := hid (symB_iff.2 ⟨HV.out, H2.out, fun j hj => HZ.out j (by omega), HS.out⟩)
                clear hme
                go_wp2
                go_roundw
                case rel =>
                  refine ⟨k + 1, by omega, by go_num, hb3, fun j hj => ?_, fun j hj => ?_⟩
                  · by_cases e : j = k
                    · rw [e]; exact HY.out
                    · exact HE.out j (by omega)
                  · by_cases e : j = p
                    · subst e; rw [← HKP.out]; exact HL.out
                    · exact HA.out j (by have := HKP.out; omega)
                case measure => simp [intOf]; omega
      · have d2 : decide (2 < (L.N k : Int)) = true := by simp; omega
        have HF := hid (sigB_no (L := L) (n := n) (fun h => h2 (symB_iff.1 (h.2.1 k hlt)).2.1)); clear h2
        refine wp_region_grow_lit (by kernel_rfl) (by kernel_rfl) ?_
        repeat (go_big_quiet_step ((go_at_call 67; exact grow_call _ (hO _))))
        refine wpQuiet_nil ?_
        rintro _ ⟨X, rfl⟩
        clear gc
        go_wp2
        go_ret
        exact ⟨ret_bool (HF.out.symm.trans HR.out), btr q0 (btr hb X.h)⟩
    · have hke : k = n := by omega
      subst hke
      by_cases h7 : k ≤ 7
      · have HT := hid (show sigB k L = true from sigB_iff.2 ⟨h7, HE.out, ascB_iff.2 (fun j hj hj2 => HA.out j hj2)⟩)
        have d7 : decide ((k : Int) ≤ 7) = true := by simp; omega
        go_wp2
        go_ret
        exact ⟨ret_bool (HT.out.symm.trans HR.out), btr q0 hb⟩
      · have HF := hid (sigB_no (L := L) (n := k) (fun h => h7 h.1))
        have d7 : decide ((k : Int) ≤ 7) = false := by simp; omega
        go_wp2
        go_ret
        exact ⟨ret_bool (HF.out.symm.trans HR.out), btr q0 hb⟩
end Go.Proofs.Ytmeglflbjedndaa
