/- Contract of the model's TermSame. -/
import Derived.Test.YtanfljajafelgaaTsU
namespace Go.Proofs.Ytanfljajafelgaa
set_option linter.unusedVariables false
set_option linter.unusedSimpArgs false
open Go.RowKit
theorem teq_bool (t u : Tm) : ∃ b : Bool, b = true ↔ TEq t u := by
  classical
  exact ⟨decide (TEq t u), by simp⟩
theorem termsame_at (t u : Tm) (b : Bool) (hb : b = true ↔ TEq t u) (A B : Option Addr) (c d : Nat) (w : World) (ht : KidT 0 w t A) (hu : KidT 0 w u B) (hc : t.n ≤ c ∧ c ≤ 9223372036854775807) (hd : u.n ≤ d ∧ d ≤ 9223372036854775807) (hz : tSz t ≤ 1073741824) :
    Calls Try.prog 128 #[.agg #[.string t.nm, .slice A t.n c], .agg #[.string u.nm, .slice B u.n d]] w fun e w' => e = .returned (.bool b) ∧ Below w.heap.size w w' := by
  refine (termsame_any t u A B c d w ht hu hc hd hz).mono ?_
  rintro e w' ⟨b', rfl, hb', hq⟩
  have : b' = b := Bool.eq_iff_iff.2 (hb'.trans hb.symm)
  rw [this]
  exact ⟨rfl, hq⟩
theorem nm_beq (a b : ByteArray) : (a.toList == b.toList) = decide (a = b) := by
  rw [Bool.eq_iff_iff]
  simp only [beq_iff_eq, decide_eq_true_eq, ByteArray.toList_eq]
  constructor
  · intro h; apply ByteArray.ext; exact Array.ext' h
  · rintro rfl; rfl
set_option maxRecDepth 100000 in
set_option maxHeartbeats 4000000 in
theorem stermsame_at : ∀ (t u : Tm) (b : Bool), (b = true ↔ TEq t u) → Fits 9223372036854775807 t → Fits 9223372036854775807 u → ∀ (A B : Option Addr) (c d : Nat) (w : World), Kids 0 w t A → Kids 0 w u B →
    Calls Try.prog 125 #[.agg #[.string t.nm, .slice A t.n c], .agg #[.string u.nm, .slice B u.n d]] w fun e w' => e = .returned (.bool b) ∧ Below w.heap.size w w' := by
  intro t
  induction t with
  | bad => intro u b _ h; exact False.elim h
  | mk nm n kid ih =>
    intro u
    cases u with
    | bad => intro b _ _ h; exact False.elim h
    | mk nm' n' kid' =>
    rintro b hb ⟨hm, hn, hf⟩ ⟨hm', hn', hf'⟩ A B c d w hA hB
    show Calls _ _ #[.agg #[.string nm, .slice A n c], .agg #[.string nm', .slice B n' d]] w _
    have IH := hid ih; have HF := hid hf; have HF' := hid hf'
    have hT := hid (tEq_iff (t := .mk nm n kid) (u := .mk nm' n' kid'))
    have HB := hid hb
    clear ih hf hf' hb
    have hq2 := bal (bal (Below.refl w.heap.size w) (.cells #[.string nm, .slice A n c] 76)) (.cells #[.string nm', .slice B n' d] 76)
    by_cases hnm : nm = nm'
    · have dn : (nm.toList == nm'.toList) = true := by rw [nm_beq]; simp [hnm]
      have HNM := hid hnm
      clear hnm
      by_cases hnn : n = n'
      · subst hnn
        have d1 : ((n : Int) != (n : Int)) = false := by simp
        have c20 : ((w.alloc (.cells #[.string nm, .slice A n c] 76)).alloc (.cells #[.string nm', .slice B n d] 76)).cell? ⟨w.heap.size, 1, none⟩ = some (.slice A n c) := by simp [go_sem]
        have c30 : ((w.alloc (.cells #[.string nm, .slice A n c] 76)).alloc (.cells #[.string nm', .slice B n d] 76)).cell? ⟨w.heap.size + 1, 1, none⟩ = some (.slice B n d) := by simp [go_sem]
        have hz2 : ((w.alloc (.cells #[.string nm, .slice A n c] 76)).alloc (.cells #[.string nm', .slice B n d] 76)).heap.size = w.heap.size + 2 := by simp
        have C2 := hid c20; have C3 := hid c30
        go_enter Try.func125, Try.ntmps125
        go_upto_region 3 with fail
        clear c20 c30
        generalize (w.alloc (.cells #[.string nm, .slice A n c] 76)).alloc (.cells #[.string nm', .slice B n d] 76) = w2 at *
        have hA2 := hA.below hq2
        have hB2 := hB.below hq2
        have hb2 := Below.refl w2.heap.size w2
        clear hA hB
        have HZ2 := hid hz2; clear hz2
        go_wp2
        go_loopw [5] (fun i wr => ∃ k : Nat, k ≤ n ∧ i = .int .i64 k ∧ Below w2.heap.size w2 wr ∧ ∀ j, j < k → TEq (kid j) (kid' j)) (fun i _ => n - (intOf i).toNat)
        case atStart => exact ⟨0, Nat.zero_le _, rfl, hb2, fun j hj => absurd hj (by omega)⟩
        case round =>
          obtain ⟨k, hk, rfl, hbr, he⟩ := hrel
          have HE := hid he; clear he
          have c2 := carry hbr C2.out
          have c3 := carry hbr C3.out
          have l2 := cell_lt c2
          have l3 := cell_lt c3
          by_cases hlt : k < n
          · rcases hA2 with h0 | ⟨g, off, rfl, _, hg, hcA⟩
            · omega
            rcases hB2 with h0 | ⟨g', off', rfl, _, hg', hcB⟩
            · omega
            obtain ⟨a, ca, a0, a1, hI⟩ := hcA k hlt
            obtain ⟨a', cb, b0, b1, hJ⟩ := hcB k hlt
            have gg := Nat.lt_of_lt_of_le hg hbr.size
            have gg' := Nat.lt_of_lt_of_le hg' hbr.size
            replace a0 := carry hbr a0
            replace a1 := carry hbr a1
            replace b0 := carry hbr b0
            replace b1 := carry hbr b1
            obtain ⟨bb, hbb⟩ := teq_bool (kid k) (kid' k)
            have hE := fun X : Gro wr => IH.out k (kid' k) bb hbb (HF.out k hlt) (HF'.out k hlt) a a' ca cb (gro wr X) ((hI.below hbr).below X.h) ((hJ.below hbr).below X.h)
            have HBB := hid hbb
            clear hcA hcB hI hJ hbb
            have gc := @gro_cell wr
            go_upto_region 6 with fail
            refine wp_region_grow_lit (by kernel_rfl) (by kernel_rfl) ?_
            repeat (go_big_quiet_step ((go_at_call 125; exact grow_call _ (hE _))))
            refine wpQuiet_nil ?_
            rintro w1 ⟨⟨_, hX⟩, rfl⟩
            clear gc hE
            cases bb with
            | true =>
              have hkk := hid (HBB.out.1 rfl)
              go_wp2
              go_roundw
              case rel => exact ⟨k + 1, by omega, by go_num, btr hbr hX, fun j hj => by
                by_cases e : j = k
                · rw [e]; exact hkk.out
                · exact HE.out j (by omega)⟩
              case measure => simp [intOf]; omega
            | false =>
              have hbf : b = false := by
                cases b with
                | false => rfl
                | true =>
                  have h1 := ((hT.out.1 (HB.out.1 rfl)).2.2 k hlt)
                  exact absurd (HBB.out.2 h1) (by simp)
              subst hbf
              go_wp2
              go_ret
              exact ⟨rfl, btr hq2 (btr hbr hX)⟩
          · have hke : k = n := by omega
            have hbt : b = true := HB.out.2 (hT.out.2 ⟨HNM.out, rfl, fun j hj => HE.out j (by rw [hke]; exact hj)⟩)
            subst hbt
            subst hke
            go_wp2
            go_ret
            exact ⟨rfl, btr hq2 hbr⟩
      · have d1 : ((n : Int) != (n' : Int)) = true := by simp; omega
        have hbf : b = false := by
          cases b with
          | false => rfl
          | true => exact absurd (hT.out.1 (HB.out.1 rfl)).2.1 hnn
        subst hbf
        have HNN := hid hnn; clear hnn hA hB
        go_enter Try.func125, Try.ntmps125
        go_wp2
        go_ret
        exact ⟨rfl, hq2⟩
    · have dn : (nm.toList == nm'.toList) = false := by rw [nm_beq]; simp [hnm]
      have hbf : b = false := by
        cases b with
        | false => rfl
        | true => exact absurd (hT.out.1 (HB.out.1 rfl)).1 hnm
      subst hbf
      have HNN := hid hnm; clear hnm hA hB
      go_enter Try.func125, Try.ntmps125
      go_wp2
      go_ret
      exact ⟨rfl, hq2⟩
end Go.Proofs.Ytanfljajafelgaa
