/- Contract of the model's ClauseOf. -/
import Derived.Test.YtoechhdahokoiaaCfD
namespace Go.Proofs.Ytoechhdahokoiaa
set_option linter.unusedVariables false
set_option linter.unusedSimpArgs false
open Go.RowKit
theorem of6_yes {x : Int} (h0 : x ≠ 0) (h : ¬ 60 < ab6 x) : ofC x 60 = true := by
  have := ab6_le (x := x) (m := 60) (by omega) (by omega)
  exact ofC_iff.2 ⟨h0, this.1, this.2.1⟩
theorem of6_no {x : Int} (h : 60 < ab6 x) : ofC x 60 = false := ofC_no (fun e => by
  have := ab6_in (x := x) (by omega) (by omega)
  rw [this] at h
  split at h <;> omega)
/-- what ClauseOf answers, said of a call -/
def ClP (w : World) (n : Nat) (Z : Nat → Int) (e : Ending) (w' : World) : Prop :=
  ∃ A' c', e = .returned (.tuple #[.slice A' (clR n Z).length c', .bool (okF n Z)]) ∧ Ints w' A' (clR n Z).length (fun k => (clR n Z).getD k 0) ∧ Below w.heap.size w w'
def ClPN (w : World) (n : Nat) (Z : Nat → Int) (e : Ending) (w' : World) : Prop :=
  ∃ A' c', e = .returned (.tuple #[.slice A' (clR n Z).length c', .bool (okF n Z)]) ∧ ((clR n Z).length = 0 ∨ ∃ g off, A' = some ⟨g, off, none⟩ ∧ w.heap.size ≤ g) ∧ Ints w' A' (clR n Z).length (fun k => (clR n Z).getD k 0) ∧ Below w.heap.size w w'
theorem ClPN.no {w w' : World} {n : Nat} {Z : Nat → Int} {A' : Option Addr} {c' : Nat} (h : ¬ OkF n Z) (hb : Below w.heap.size w w') : ClPN w n Z (.returned (.tuple #[.slice A' 0 c', .bool false])) w' :=
  ⟨A', c', by rw [clR_no h, okF_no h]; rfl, .inl (by rw [clR_no h]; rfl), by rw [clR_no h]; exact .inl rfl, hb⟩
theorem ClP.no {w w' : World} {n : Nat} {Z : Nat → Int} {A' : Option Addr} {c' : Nat} (h : ¬ OkF n Z) (hb : Below w.heap.size w w') : ClP w n Z (.returned (.tuple #[.slice A' 0 c', .bool false])) w' :=
  ⟨A', c', by rw [clR_no h, okF_no h]; rfl, by rw [clR_no h]; exact .inl rfl, hb⟩
set_option maxHeartbeats 4000000 in
theorem sclauseof_new (A : Option Addr) (n c : Nat) (Z : Nat → Int) (w : World) (hn : n ≤ 1048576) (hA : Ints w A n Z) :
    Calls Try.prog 50 #[.slice A n c] w (ClPN w n Z) := by
  have hb0 := bal (Below.refl w.heap.size w) (.cells #[] 3)
  go_enter Try.func50, Try.ntmps50
  go_upto_region 2 with fail
  generalize hw1 : w.alloc (.cells #[] 3) = w1 at *
  have hlt0 : w.heap.size < w1.heap.size := by rw [← hw1]; simp
  clear hw1
  replace hA := hA.below hb0
  go_wp2
  go_loop [5] (fun i => ∃ k : Nat, k ≤ n ∧ i = .int .i64 k ∧ ∀ j, j < k → ofC (Z j) 60 = true) (fun i => n - (intOf i).toNat)
  case atStart => exact ⟨0, Nat.zero_le _, rfl, fun j hj => by omega⟩
  case round =>
    obtain ⟨k, hk, rfl, he⟩ := hrel
    have HE := hid he; clear he
    by_cases hlt : k < n
    · rcases hA with h0 | ⟨g, off, rfl, hg, hcA⟩
      · omega
      have c1 := hcA k hlt
      clear hcA
      by_cases h0 : Z k = 0
      · have d1 : (Z k == 0) = true := by simpa using h0
        have HF := hid (show ¬ OkF n Z from fun h => (ofC_iff.1 (h k hlt).1).1 h0)
        clear h0
        go_wp2
        go_ret2
        exact ClPN.no HF.out (bal hb0 _)
      · have d1 : (Z k == 0) = false := by simpa using h0
        by_cases h6 : 60 < ab6 (Z k)
        · have d2 : decide (60 < ab6 (Z k)) = true := decide_eq_true h6
          have HF := hid (show ¬ OkF n Z from fun h => by have := (h k hlt).1; rw [of6_no h6] at this; cases this)
          clear h0 h6
          go_wp2_with (go_at_call 53; refine (sabs_any _ _).mono ?_; rintro e w1 ⟨rfl, rfl⟩)
          go_ret2
          exact ClPN.no HF.out (bal hb0 _)
        · have d2 : decide (60 < ab6 (Z k)) = false := decide_eq_false h6
          have HQ := hid (of6_yes h0 h6)
          clear h0 h6
          go_wp2_with (go_at_call 53; refine (sabs_any _ _).mono ?_; rintro e w1 ⟨rfl, rfl⟩)
          go_round
          case rel =>
            refine ⟨k + 1, by omega, by go_num, fun j hj => ?_⟩
            by_cases e : j = k
            · subst e; exact HQ.out
            · exact HE.out j (by omega)
          case measure => simp [intOf]; omega
    · have hke : k = n := by omega
      subst hke
      have hz : segL (stC Z 0) 0 61 = [] := segL_zero 0 61
      go_wp2
      go_loopw [4, 6] (fun v i wr => ∃ (j g off c' : Nat), j ≤ k ∧ i = .int .i64 j ∧ v = .slice (some ⟨g, off, none⟩) (segL (stC Z j) 0 61).length c' ∧ (segL (stC Z j) 0 61).length ≤ c' ∧ c' ≤ 9223372036854775807 ∧ Ints wr (some ⟨g, off, none⟩) (segL (stC Z j) 0 61).length (fun i => (segL (stC Z j) 0 61).getD i 0) ∧ Below w.heap.size w wr ∧ Below w1.heap.size w1 wr ∧ w.heap.size ≤ g ∧ ∀ i, i < j → stC Z i (ab6 (Z i)).toNat ≠ -Z i) (fun _ i _ => k - (intOf i).toNat)
      case atStart => exact ⟨0, w.heap.size, 0, 0, Nat.zero_le _, rfl, by rw [hz]; rfl, by rw [hz]; exact Nat.le_refl _, by omega, by rw [hz]; exact .inl rfl, hb0, Below.refl _ _, Nat.le_refl _, fun i hi => by omega⟩
      case round =>
        obtain ⟨j, g, off, c', hj, rfl, rfl, hl1, hl2, hI, hb, hb1, hgl, hs⟩ := hrel
        have HS := hid hs; clear hs hz
        by_cases hlt : j < k
        · rcases hA with h0 | ⟨gA, offA, rfl, hgA, hcA⟩
          · omega
          have c1 := carry hb1 (hcA j hlt)
          clear hcA
          have ho := HE.out j hlt
          obtain ⟨v, e1, e2, e3, e4, e5, e6, e7⟩ := of_rng ho
          have hW := wf_st (Z := Z) (k := j) (fun i hi => HE.out i (by omega))
          have hsp := seg_split (stC Z j) e3
          have hlen := segL_len (stC Z j) 0 61
          have hlo : ∀ z ∈ segL (stC Z j) 0 v, ab6 z < ab6 (Z j) := fun z hz => by rw [e1]; exact seg_lt hW hz
          have hhi : ∀ z ∈ segL (stC Z j) (v + 1) (60 - v), ab6 (Z j) < ab6 z := fun z hz => by rw [e1]; exact seg_gt hW hz
          by_cases h0 : stC Z j v = 0
          · rw [if_pos h0, List.nil_append] at hsp
            have hup : segL (stC Z (j + 1)) 0 61 = _ := seg_upd e4 e3 e6
            rw [hsp] at hl1 hI hlen
            have hP := sput_none g off c' _ _ (Z j) _ hlen hl1 hl2 hI hlo hhi
            rw [← hup] at hP
            rw [← hsp] at hP hl1 hI hlen
            generalize hS1 : segL (stC Z (j + 1)) 0 61 = l1 at hP
            have HQ := hid (show stC Z j (ab6 (Z j)).toNat ≠ -Z j from by rw [e4, h0]; omega)
            clear hsp hup hlo hhi h0 e1 e2 e3 e4 e5 e6 e7 hW ho
            go_wp2_with (go_at_call 67; refine hP.mono ?_; rintro e w2 ⟨g2, o2, c2, rfl, hc1, hc2, hI2, hq, hgg⟩)
            go_roundw
            case rel =>
              subst hS1
              refine ⟨j + 1, g2, o2, c2, by omega, by go_num, rfl, hc1, hc2, hI2, btr hb hq, btr hb1 hq, (by rcases hgg with rfl | hgg; exact hgl; exact Nat.le_trans hb.size hgg), fun i hi => ?_⟩
              by_cases e : i = j
              · subst e; exact HQ.out
              · exact HS.out i (by omega)
            case measure => simp [intOf]; omega
          · rw [if_neg h0, List.singleton_append] at hsp
            have hy := (hW v h0).1
            rw [hsp] at hl1 hI hlen
            have hP := sput_some g off c' _ _ (stC Z j v) (Z j) _ hlen hl1 hl2 hI hlo (by rw [hy, e1])
            rw [← hsp] at hP
            rcases wf_at hW ho e4 h0 with hx | hx
            · have hup : stC Z (j + 1) = stC Z j := upd_same (by rw [e4]; exact hx)
              have hbx : (stC Z j v == Z j) = true := by simpa using hx
              rw [hbx] at hP
              replace hP : Calls Try.prog 67 #[.slice (some ⟨g, off, none⟩) (segL (stC Z j) 0 61).length c', .int .i64 (Z j)] wr (PutP wr g (segL (stC Z (j + 1)) 0 61) true) := by rw [hup]; exact hP
              generalize hS1 : segL (stC Z (j + 1)) 0 61 = l1 at hP
              have HQ := hid (show stC Z j (ab6 (Z j)).toNat ≠ -Z j from by rw [e4, hx]; omega)
              clear hsp hup hlo hhi h0 e1 e2 e3 e4 e5 e6 e7 hW ho hx hbx hy hl1 hI hlen
              go_wp2_with (go_at_call 67; first | (refine hP.mono ?_; rintro e w2 ⟨g2, o2, c2, rfl, hc1, hc2, hI2, hq, hgg⟩))
              go_roundw
              case rel =>
                subst hS1
                refine ⟨j + 1, g2, o2, c2, by omega, by go_num, rfl, hc1, hc2, hI2, btr hb hq, btr hb1 hq, (by rcases hgg with rfl | hgg; exact hgl; exact Nat.le_trans hb.size hgg), fun i hi => ?_⟩
                by_cases e : i = j
                · subst e; exact HQ.out
                · exact HS.out i (by omega)
              case measure => simp [intOf]; omega
            · have hbx : (stC Z j v == Z j) = false := by simp; omega
              rw [hbx] at hP
              have HF := hid (show ¬ OkF k Z from fun h => (h j hlt).2 (by rw [e4]; exact hx))
              clear hsp hlo hhi h0 e1 e2 e3 e4 e5 e6 e7 hW ho hx hbx hy hl1 hI hlen
              go_wp2_with (go_at_call 67; refine hP.mono ?_; rintro e w2 ⟨g2, o2, c2, rfl, hc1, hc2, hI2, hq, hgg⟩)
              go_ret2
              exact ClPN.no HF.out (bal (btr hb hq) _)
        · have hje : j = k := by omega
          subst hje
          have HOK := hid (show OkF j Z from fun i hi => ⟨HE.out i hi, HS.out i hi⟩)
          go_wp2
          go_ret2
          exact ⟨_, c', by rw [clR_yes HOK.out, okF_iff.2 HOK.out]; rfl, .inr ⟨_, _, rfl, hgl⟩, by rw [clR_yes HOK.out]; exact hI, hb⟩
theorem sclauseof_any (A : Option Addr) (n c : Nat) (Z : Nat → Int) (w : World) (hn : n ≤ 1048576) (hA : Ints w A n Z) :
    Calls Try.prog 50 #[.slice A n c] w (ClP w n Z) :=
  (sclauseof_new A n c Z w hn hA).mono fun e w' ⟨A', c', h1, _, h3, h4⟩ => ⟨A', c', h1, h3, h4⟩
end Go.Proofs.Ytoechhdahokoiaa
