/- Well-formed terms: contracts of l4Many, l4Right of the model and of size, wellFormed of the program. -/
import Derived.Test.YtmeglflbjedndaaTermC
namespace Go.Proofs.Ytmeglflbjedndaa
set_option linter.unusedVariables false
set_option linter.unusedSimpArgs false
open Go.RowKit
theorem ret_i64 {a b : Int} (h : a = b) : Ending.returned (.int .i64 a) = .returned (.int .i64 b) := by rw [h]
set_option maxRecDepth 100000 in
set_option maxHeartbeats 2000000 in
theorem many_any : ∀ (d : Nat), d ≤ 4 → ∀ (t : Tm), Fits 1048576 t → shapeB d t = true → ∀ (A : Option Addr) (c : Nat) (w : World), Kids 0 w t A →
    Calls Try.prog 206 #[.agg #[.string t.nm, .slice A t.n c], .int .i64 (d : Int)] w fun e w' => e = .returned (.int .i64 (cntN d t)) ∧ Below w.heap.size w w' := by
  intro d
  induction d with
  | zero => rintro _ t _ h; cases h
  | succ d ih =>
    rintro hd (⟨nm, n, kid⟩ | _) ⟨hm, hn, hf⟩ hsh A c w hA
    rw [show (((d + 1 : Nat)) : Int) = (d : Int) + 1 from rfl]
    change Calls _ _ #[.agg #[.string nm, .slice A n c], _] w _
    obtain ⟨_, h2, h3⟩ := shape_iff.1 hsh
    have HI := hid (fun k hk a cc W hK => ih (by omega) (kid k) (hf k hk) (h3 k hk) a cc W hK)
    have HB := hid (fun k (hk : k < n) => cnt_16 (d := d) (by omega) (h3 k hk))
    have HBB := hid (cnt_16 (d := d + 1) (by omega) hsh)
    clear ih hf h3 hsh
    have e1 : decide ((0 : Int) < (d : Int) + 1) = true := by simp <;> omega
    have hsum : ∀ k, k ≤ n → sumK (fun k => cntN d (kid k)) k ≤ 32 := fun k hk => by
      have := sumK_bd (f := fun k => cntN d (kid k)) (m := 16) (n := k) (fun j hj => HB.out j (by omega))
      omega
    have HSU := hid hsum; clear hsum
    have b1 : (w.alloc (.cells #[.string nm, .slice A n c] 53)).cell? ⟨w.heap.size, 1, none⟩ = some (.slice A n c) := by simp [go_sem]
    have q0 := bal (Below.refl w.heap.size w) (.cells #[.string nm, .slice A n c] 53)
    have hA2 := hA.below q0
    clear hA
    go_enter Try.func206, Try.ntmps206
    go_wp2
    generalize w.alloc (.cells #[.string nm, .slice A n c] 53) = W0 at *
    go_loopw [5, 6] (fun q i wr => ∃ k s : Nat, k ≤ n ∧ i = .int .i64 k ∧ q = .int .i64 s ∧ s = 1 + sumK (fun k => cntN d (kid k)) k ∧ Below W0.heap.size W0 wr) (fun _ i _ => n - (intOf i).toNat)
    case atStart => exact ⟨0, 1, Nat.zero_le _, rfl, rfl, rfl, Below.refl _ _⟩
    case round =>
      obtain ⟨k, s, hk, rfl, rfl, hs, hb⟩ := hrel
      have hsb := HSU.out k hk
      have hs33 : s ≤ 33 := by omega
      have HS := hid hs; clear hs hsb
      have g1 := carry hb b1
      have gs : w.heap.size < wr.heap.size := cell_lt g1
      clear b1
      by_cases hlt : k < n
      · rcases hA2 with h0 | ⟨g, off, rfl, _, hg, hcA⟩
        · omega
        obtain ⟨a, ca, a0, a1, hI⟩ := hcA k hlt
        have gg : g < wr.heap.size := Nat.lt_of_lt_of_le hg hb.size
        replace a0 := carry hb a0
        replace a1 := carry hb a1
        replace hI := hI.below hb
        clear hcA
        have hS := HI.out k hlt a ca wr hI
        have hbk := HB.out k hlt
        clear hI
        have hstep : sumK (fun k => cntN d (kid k)) (k + 1) = sumK (fun k => cntN d (kid k)) k + cntN d (kid k) := rfl
        have HST := hid hstep; clear hstep
        generalize cntN d (kid k) = m at hS hbk HST
        go_wp2_with (go_at_call 206; refine hS.mono ?_; rintro e w1 ⟨rfl, hq⟩)
        go_roundw
        case rel => exact ⟨k + 1, s + m, by omega, by go_num, by go_num, by rw [HST.out, HS.out]; omega, btr hb hq⟩
        case measure => simp [intOf]; omega
      · have hke : k = n := by omega
        subst hke
        go_wp2
        go_ret
        exact ⟨ret_i64 (by rw [cnt_succ, HS.out]), btr q0 hb⟩
/-- a term is well-formed -/
def wellB (t : Tm) : Bool := decide (shapeB 4 t = true ∧ cntN 4 t ≤ 12)
theorem wellB_iff {t : Tm} : wellB t = true ↔ shapeB 4 t = true ∧ cntN 4 t ≤ 12 := by unfold wellB; exact decide_eq_true_iff
theorem wellB_no {t : Tm} (h : shapeB 4 t = false) : wellB t = false := by
  cases e : wellB t
  · rfl
  · rw [(wellB_iff.1 e).1] at h; cases h
theorem wellB_cnt {t : Tm} (h : shapeB 4 t = true) : wellB t = decide ((cntN 4 t : Int) ≤ 12) := by
  unfold wellB; rw [h]; simp; omega
set_option maxHeartbeats 1000000 in
theorem right_any (t : Tm) (hF : Fits 1048576 t) (A : Option Addr) (c : Nat) (w : World) (hA : Kids 0 w t A) :
    Calls Try.prog 159 #[.agg #[.string t.nm, .slice A t.n c]] w fun e w' => e = .returned (.bool (wellB t)) ∧ Below w.heap.size w w' := by
  have hS := fun W (hb : Below w.heap.size w W) => shape_any 4 (by omega) t hF A c W (hA.below hb)
  have q0 := bal (Below.refl w.heap.size w) (.cells #[.string t.nm, .slice A t.n c] 53)
  have b0 : (w.alloc (.cells #[.string t.nm, .slice A t.n c] 53)).cell? ⟨w.heap.size, 0, none⟩ = some (.string t.nm) ∧ (w.alloc (.cells #[.string t.nm, .slice A t.n c] 53)).cell? ⟨w.heap.size, 1, none⟩ = some (.slice A t.n c) := by constructor <;> simp [go_sem]
  cases hs : shapeB 4 t
  · rw [hs] at hS
    rw [wellB_no hs]
    clear hs hA
    go_enter Try.func159, Try.ntmps159
    go_wp2_with fail
    refine (hS _ q0).mono ?_
    rintro e w1 ⟨rfl, hq⟩
    clear hS
    go_wp2
    go_ret
    exact ⟨rfl, btr q0 hq⟩
  · rw [hs] at hS
    have hM := fun W (hb : Below w.heap.size w W) => many_any 4 (by omega) t hF hs A c W (hA.below hb)
    have hb16 := cnt_16 (by omega) hs
    rw [wellB_cnt hs]
    generalize cntN 4 t = m at hM hb16 ⊢
    clear hs hA
    go_enter Try.func159, Try.ntmps159
    go_wp2_with fail
    refine (hS _ q0).mono ?_
    rintro e w1 ⟨rfl, hq⟩
    clear hS
    have c0 := carry hq b0.1
    have c1 := carry hq b0.2
    clear b0
    go_wp2_with fail
    refine (hM _ (btr q0 hq)).mono ?_
    rintro e w2 ⟨rfl, hq2⟩
    clear hM
    go_wp2
    go_ret
    exact ⟨rfl, btr (btr q0 hq) hq2⟩
/-- what size answers of a term, so deep at most -/
def SizeP (w : World) (d : Nat) (t : Tm) (e : Ending) (w' : World) : Prop := e = .returned (.tuple #[.int .i64 ((if shapeB d t = true then cntN d t else 0 : Nat) : Int), .bool (shapeB d t)]) ∧ Below w.heap.size w w'
theorem SizeP.no {w w' : World} {d : Nat} {t : Tm} (h : shapeB d t = false) (hb : Below w.heap.size w w') : SizeP w d t (.returned (.tuple #[.int .i64 0, .bool false])) w' := ⟨by rw [h]; rfl, hb⟩
theorem SizeP.yes {w w' : World} {d : Nat} {t : Tm} {m : Nat} (h : shapeB d t = true) (hm : cntN d t = m) (hb : Below w.heap.size w w') : SizeP w d t (.returned (.tuple #[.int .i64 (m : Int), .bool true])) w' := ⟨by rw [h, if_pos rfl, hm], hb⟩
theorem SizeP.false {w w' : World} {d : Nat} {t : Tm} {e : Ending} (h : shapeB d t = false) (hp : SizeP w d t e w') : e = .returned (.tuple #[.int .i64 0, .bool false]) ∧ Below w.heap.size w w' := by
  unfold SizeP at hp; rw [h] at hp; exact hp
theorem SizeP.true {w w' : World} {d : Nat} {t : Tm} {e : Ending} (h : shapeB d t = true) (hp : SizeP w d t e w') : e = .returned (.tuple #[.int .i64 (cntN d t), .bool true]) ∧ Below w.heap.size w w' := by
  unfold SizeP at hp; rw [h, if_pos rfl] at hp; exact hp
set_option maxRecDepth 100000 in
set_option maxHeartbeats 2000000 in
theorem size_any : ∀ (d : Nat), d ≤ 4 → ∀ (t : Tm), Fits 1048576 t → ∀ (A : Option Addr) (c : Nat) (w : World), Kids 0 w t A →
    Calls Try.prog 207 #[.agg #[.string t.nm, .slice A t.n c], .int .i64 (d : Int)] w (SizeP w d t) := by
  intro d
  induction d with
  | zero =>
    rintro _ (⟨nm, n, kid⟩ | _) hF A c w hA
    rotate_left
    · exact False.elim hF
    rw [show (((0 : Nat)) : Int) = 0 from rfl]
    change Calls _ _ #[.agg #[.string nm, .slice A n c], _] w _
    clear hA hF
    go_enter Try.func207, Try.ntmps207
    go_wp2
    go_ret2
    exact SizeP.no rfl (bal (Below.refl _ _) _)
  | succ d ih =>
    rintro hd (⟨nm, n, kid⟩ | _) ⟨hm, hn, hf⟩ A c w hA
    rw [show (((d + 1 : Nat)) : Int) = (d : Int) + 1 from rfl]
    change Calls _ _ #[.agg #[.string nm, .slice A n c], _] w _
    have HI := hid (fun k hk a cc W hK => ih (by omega) (kid k) (hf k hk) a cc W hK); clear ih hf
    have e1 : ((d : Int) + 1 == 0) = false := by simp; omega
    cases hv : nameB nm
    · have hO := fun W => nameok_any nm W (by omega)
      rw [hv] at hO
      have HF := hid (shape_no (d := d) (nm := nm) (n := n) (kid := kid) (fun h => by rw [hv] at h; simp at h)); clear hv hA
      go_enter Try.func207, Try.ntmps207
      go_wp2_with (go_at_call 66; refine (hO _).mono ?_; rintro e w1 ⟨rfl, rfl⟩)
      go_ret2
      exact SizeP.no HF.out (bal (Below.refl _ _) _)
    have hO := fun W => nameok_any nm W (by omega)
    rw [hv] at hO
    by_cases h2 : n ≤ 2
    · have e2 : decide (2 < (n : Int)) = false := by simp; omega
      have HV := hid hv; have H2 := hid h2; clear hv
      have b1 : (w.alloc (.cells #[.string nm, .slice A n c] 53)).cell? ⟨w.heap.size, 1, none⟩ = some (.slice A n c) := by simp [go_sem]
      have q0 := bal (Below.refl w.heap.size w) (.cells #[.string nm, .slice A n c] 53)
      have hA2 := hA.below q0
      clear hA
      go_enter Try.func207, Try.ntmps207
      go_wp2_with (go_at_call 66; refine (hO _).mono ?_; rintro e w1 ⟨rfl, rfl⟩)
      clear hO
      generalize w.alloc (.cells #[.string nm, .slice A n c] 53) = W0 at *
      clear b1
      go_loopw [6, 28] (fun q i wr => ∃ k s : Nat, k ≤ n ∧ i = .int .i64 k ∧ q = .int .i64 s ∧ s = 1 + sumK (fun k => cntN d (kid k)) k ∧ Below W0.heap.size W0 wr ∧ ∀ j, j < k → shapeB d (kid j) = true) (fun _ i _ => n - (intOf i).toNat)
      case atStart => exact ⟨0, 1, Nat.zero_le _, rfl, rfl, rfl, Below.refl _ _, fun j hj => by omega⟩
      case round =>
        obtain ⟨k, s, hk, rfl, rfl, hs, hb, he⟩ := hrel
        have hs33 : s ≤ 33 := by
          have := sumK_bd (f := fun k => cntN d (kid k)) (m := 16) (n := k) (fun j hj => cnt_16 (by omega) (he j hj))
          omega
        have HE := hid he; clear he
        have HS := hid hs; clear hs
        by_cases hlt : k < n
        · rcases hA2 with h0 | ⟨g, off, rfl, _, hg, hcA⟩
          · omega
          obtain ⟨a, ca, a0, a1, hI⟩ := hcA k hlt
          have gg : g < wr.heap.size := Nat.lt_of_lt_of_le hg hb.size
          replace a0 := carry hb a0
          replace a1 := carry hb a1
          replace hI := hI.below hb
          clear hcA
          have hS := HI.out k hlt a ca _ (hI.below (bal (Below.refl _ _) (.cells #[.string (kid k).nm, .slice a (kid k).n ca] 53)))
          clear hI
          cases hsh : shapeB d (kid k)
          · replace hS := hS.mono (fun e w' h => SizeP.false hsh h)
            have HF := hid (shape_no (d := d) (nm := nm) (n := n) (kid := kid) (fun h => by have := h.2.2 k hlt; rw [hsh] at this; cases this)); clear hsh
            go_wp2_with (go_at_call 207; refine hS.mono ?_; rintro e w1 ⟨rfl, hq⟩)
            go_ret2
            exact SizeP.no HF.out (btr q0 (btr hb (btr (bal (Below.refl _ _) _) hq)))
          · have hbk := cnt_16 (d := d) (by omega) hsh
            replace hS := hS.mono (fun e w' h => SizeP.true hsh h)
            have HSH := hid hsh; clear hsh
            have hstep : sumK (fun k => cntN d (kid k)) (k + 1) = sumK (fun k => cntN d (kid k)) k + cntN d (kid k) := rfl
            have HST := hid hstep; clear hstep
            generalize cntN d (kid k) = m at hS hbk HST
            go_wp2_with (go_at_call 207; refine hS.mono ?_; rintro e w1 ⟨rfl, hq⟩)
            go_roundw
            case rel =>
              refine ⟨k + 1, s + m, by omega, by go_num, by go_num, by rw [HST.out, HS.out]; omega, btr hb (btr (bal (Below.refl _ _) _) hq), fun j hj => ?_⟩
              by_cases e : j = k
              · subst e; exact HSH.out
              · exact HE.out j (by omega)
            case measure => simp [intOf]; omega
        · have hke : k = n := by omega
          subst hke
          have HT := hid (shape_iff.2 ⟨HV.out, H2.out, HE.out⟩)
          go_wp2
          go_ret2
          exact SizeP.yes HT.out (by rw [cnt_succ, HS.out]) (btr q0 hb)
    · have HF := hid (shape_no (d := d) (nm := nm) (n := n) (kid := kid) (fun h => h2 h.2.1))
      have e2 : decide (2 < (n : Int)) = true := by simp; omega
      clear hv h2 hA
      go_enter Try.func207, Try.ntmps207
      go_wp2_with (go_at_call 66; refine (hO _).mono ?_; rintro e w1 ⟨rfl, rfl⟩)
      go_ret2
      exact SizeP.no HF.out (bal (Below.refl _ _) _)
set_option maxHeartbeats 1000000 in
theorem well_any (t : Tm) (hF : Fits 1048576 t) (A : Option Addr) (c : Nat) (w : World) (hA : Kids 0 w t A) :
    Calls Try.prog 161 #[.agg #[.string t.nm, .slice A t.n c]] w fun e w' => e = .returned (.bool (wellB t)) ∧ Below w.heap.size w w' := by
  have hS := fun W (hb : Below w.heap.size w W) => size_any 4 (by omega) t hF A c W (hA.below hb)
  have q0 := bal (Below.refl w.heap.size w) (.cells #[.string t.nm, .slice A t.n c] 53)
  cases hs : shapeB 4 t
  · replace hS := fun W hb => (hS W hb).mono (fun e w' h => SizeP.false hs h)
    rw [wellB_no hs]
    clear hs hA
    go_enter Try.func161, Try.ntmps161
    go_wp2_with fail
    refine (hS _ q0).mono ?_
    rintro e w1 ⟨rfl, hq⟩
    clear hS
    go_wp2
    go_ret
    exact ⟨rfl, btr q0 hq⟩
  · replace hS := fun W hb => (hS W hb).mono (fun e w' h => SizeP.true hs h)
    have hb16 := cnt_16 (by omega) hs
    rw [wellB_cnt hs]
    generalize cntN 4 t = m at hS hb16 ⊢
    clear hs hA
    go_enter Try.func161, Try.ntmps161
    go_wp2_with fail
    refine (hS _ q0).mono ?_
    rintro e w1 ⟨rfl, hq⟩
    clear hS
    go_wp2
    go_ret
    exact ⟨rfl, btr q0 hq⟩
end Go.Proofs.Ytmeglflbjedndaa
