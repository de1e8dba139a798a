/- The text of a constraint: contract of the model's LinText. -/
import Derived.Test.YthcabejfmoedfaaDoorLinTA
import Derived.Test.YthcabejfmoedfaaDoorSay
import Derived.Test.YthcabejfmoedfaaDoorBI
namespace Go.Proofs.YthcabejfmoedfaaDoor
set_option linter.unusedVariables false
set_option linter.unusedSimpArgs false
open Go.Shelf Go.RowKit Go.Joins
set_option maxRecDepth 100000 in
set_option maxHeartbeats 4000000 in
theorem slintext_any (A : Option Addr) (n c : Nat) (Z : Nat → Int) (b : Int) (s : Bool) (w : World) (hn : n ≤ 9223372036854775806) (hA : Ints w A n Z) :
    Calls Tryd.prog 20 #[.agg #[.slice A n c, .int .i64 b, .bool s]] w fun e w' => e = .returned (.string ⟨(linTxt n Z b s).toArray⟩) ∧ Below w.heap.size w w' := by
  have q0 := bal (Below.refl w.heap.size w) (.cells #[.slice A n c, .int .i64 b, .bool s] 39)
  have HH := KcL.new3 w (.slice A n c) (.int .i64 b) (.bool s) 39 rfl
  obtain ⟨b0, b1, b2, _⟩ := HH
  simp only at b0 b1 b2
  have hO := fun {v : Bool} (hv : okL n Z b = v) => slinok_at (c := c) (s := s) hn hA hv _ q0
  cases hv : okL n Z b
  · unfold linTxt; rw [if_neg (by simp [hv])]
    replace hO := hO hv
    go_enter Tryd.func20, Tryd.ntmps20
    go_wp2_with fail
    refine hO.mono ?_
    rintro e w1 ⟨rfl, hq⟩
    go_wp2
    go_ret
    exact ⟨rfl, btr q0 hq⟩
  unfold linTxt; rw [if_pos hv]
  replace hO := hO hv
  have hz := okL_z hv
  have hb4 := (okL_bd4 hv).2.2.2.2
  have hlen := linT_len (s := s) hv
  have hcl := fun k (hk : k ≤ 4) => coefT_len (Z := Z) (k := k) (fun j hj => hz j (by omega))
  obtain ⟨rfl, _, _⟩ := okL_iff.1 hv
  go_enter Tryd.func20, Tryd.ntmps20
  go_wp2_with fail
  refine hO.mono ?_
  rintro e w1 ⟨rfl, hq⟩
  replace b0 := carry hq b0
  replace b1 := carry hq b1
  replace b2 := carry hq b2
  replace q0 := btr q0 hq
  have hA1 := hA.below q0
  clear hO hq hA hv
  go_wp2_with fail
  go_loopw [3, 4] (fun o i wr => ∃ (k : Nat) (M : List UInt8), k ≤ 4 ∧ i = .int .i64 k ∧ o = .string ⟨M.toArray⟩ ∧ M = coefT Z k ∧ Below w1.heap.size w1 wr) (fun _ i _ => 4 - (intOf i).toNat)
  case atStart => exact ⟨0, [], Nat.zero_le _, rfl, rfl, rfl, Below.refl _ _⟩
  case round =>
    obtain ⟨k, M, hk, rfl, rfl, hM, hb⟩ := hrel
    have g0 := carry hb b0
    have g1 := carry hb b1
    have g2 := carry hb b2
    have gs : w.heap.size < wr.heap.size := cell_lt g0
    have zM0 : M.length ≤ 84 := by have := hcl k hk; rw [hM]; omega
    have zM : ByteArray.size ⟨M.toArray⟩ ≤ 84 := zM0
    have HM := hid hM; clear hM b0 b1 b2 zM0
    generalize hsM : (⟨M.toArray⟩ : ByteArray) = sM at zM ⊢
    have HSM := hid hsM; clear hsM
    by_cases hlt : k < 4
    · rcases hA1 with h0 | ⟨g, off, rfl, hg, hcA⟩
      · omega
      have a0 := carry hb (hcA k hlt)
      have gg : g < wr.heap.size := Nat.lt_of_lt_of_le hg hb.size
      have hzk := hz k hlt
      have hC := ldec_at (Z k) wr (by omega)
      have h20 := itoa_len20 (n := Z k) (by omega)
      have hst : coefT Z (k + 1) = coefT Z k ++ Lib.itoa (Z k) ++ [32] := rfl
      have HST := hid hst
      clear hcA hst hcl
      generalize Lib.itoa (Z k) = t at hC h20 HST
      have zt : ByteArray.size ⟨t.toArray⟩ ≤ 20 := h20
      generalize hst : (⟨t.toArray⟩ : ByteArray) = st at zt hC
      have HSt := hid hst; clear hst
      go_wp2_with fail
      refine hC.mono ?_
      rintro e w2 ⟨rfl, hq⟩
      go_wp2
      go_roundw
      case rel =>
        refine ⟨k + 1, M ++ t ++ [32], by omega, by go_num, ?_, by rw [HST.out, HM.out], btr hb hq⟩
        show Value.string (sM ++ st ++ ⟨[(32 : UInt8)].toArray⟩) = _
        rw [← HSM.out, ← HSt.out, str_app, str_app]
      case measure => simp [intOf]; omega
    · have hke : k = 4 := by omega
      subst hke
      have hwr := btr q0 hb
      have hC := ldec_at b wr (by omega)
      have h20 := itoa_len20 (n := b) (by omega)
      have hlin : linT Z b s = coefT Z 4 ++ sgnT s ++ [32] ++ Lib.itoa b := rfl
      have HL := hid hlin
      clear hlin hcl
      generalize Lib.itoa b = t at hC h20 HL
      have zt : ByteArray.size ⟨t.toArray⟩ ≤ 20 := h20
      generalize hst : (⟨t.toArray⟩ : ByteArray) = st at zt hC
      have HSt := hid hst; clear hst
      cases s
      · go_wp2_with fail
        refine hC.mono ?_
        rintro e w2 ⟨rfl, hq⟩
        go_wp2
        go_ret
        refine ⟨?_, btr hwr hq⟩
        show Ending.returned (Value.string (sM ++ ⟨[(60 : UInt8), 61, 32].toArray⟩ ++ st)) = Ending.returned (Value.string ⟨(linT Z b false).toArray⟩)
        rw [HL.out, ← HM.out, ← HSM.out, ← HSt.out, str_app, str_app]
        simp [sgnT]
      · go_wp2_with fail
        refine hC.mono ?_
        rintro e w2 ⟨rfl, hq⟩
        go_wp2
        go_ret
        refine ⟨?_, btr hwr hq⟩
        show Ending.returned (Value.string (sM ++ ⟨[(60 : UInt8), 32].toArray⟩ ++ st)) = Ending.returned (Value.string ⟨(linT Z b true).toArray⟩)
        rw [HL.out, ← HM.out, ← HSM.out, ← HSt.out, str_app, str_app]
        simp [sgnT]
end Go.Proofs.YthcabejfmoedfaaDoor
