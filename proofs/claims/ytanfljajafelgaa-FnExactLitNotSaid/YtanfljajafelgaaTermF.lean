/- The text of a term: contracts of the model's l4Text and TermText. -/
import Derived.Test.YtanfljajafelgaaTermE
namespace Go.Proofs.Ytanfljajafelgaa
set_option linter.unusedVariables false
set_option linter.unusedSimpArgs false
open Go.RowKit
theorem str_app (a b : List UInt8) : (⟨a.toArray⟩ : ByteArray) ++ ⟨b.toArray⟩ = ⟨(a ++ b).toArray⟩ := by
  apply ByteArray.ext
  rw [ByteArray.data_append]
  show a.toArray ++ b.toArray = _
  rw [List.append_toArray]
theorem str_of (a : ByteArray) : a = ⟨(a.data.toList).toArray⟩ := by
  apply ByteArray.ext
  show a.data = a.data.toList.toArray
  simp
theorem str_app1 (a b : List UInt8) : (Value.string ((⟨a.toArray⟩ : ByteArray) ++ ⟨b.toArray⟩)) = .string ⟨(a ++ b).toArray⟩ := by rw [str_app]
theorem str_eq {a b : List UInt8} (h : a = b) : Value.string ⟨a.toArray⟩ = .string ⟨b.toArray⟩ := by rw [h]
set_option maxRecDepth 100000 in
set_option maxHeartbeats 4000000 in
theorem text_any : ∀ (d : Nat), d ≤ 4 → ∀ (t : Tm), Fits 1048576 t → shapeB d t = true → ∀ (A : Option Addr) (c : Nat) (w : World), Kids 0 w t A →
    Calls Try.prog 132 #[.agg #[.string t.nm, .slice A t.n c]] w fun e w' => e = .returned (.string ⟨(txt t).toArray⟩) ∧ Below w.heap.size w w' := by
  intro d
  induction d with
  | zero => rintro _ t _ h; cases h
  | succ d ih =>
    rintro hd (⟨nm, n, kid⟩ | _) ⟨hm, hn, hf⟩ hsh A c w hA
    change Calls _ _ #[.agg #[.string nm, .slice A n c]] w _
    obtain ⟨h1, h2, h3⟩ := shape_iff.1 hsh
    have hnm := nm_2 h1
    have hz : nm.data.toList.length = nm.size := by rw [Array.length_toList]; rfl
    have hp : 16 ^ d ≤ 4096 := Nat.pow_le_pow_right (n := 16) (by omega) (show d ≤ 3 by omega)
    have HT := hid (fun k (hk : k < n) => Nat.le_trans (txt_bd d (kid k) (h3 k hk)) hp)
    have HI := hid (fun k hk a cc W hK => ih (by omega) (kid k) (hf k hk) (h3 k hk) a cc W hK)
    clear ih hf h3 hsh h1
    have b0 : (w.alloc (.cells #[.string nm, .slice A n c] 76)).cell? ⟨w.heap.size, 0, none⟩ = some (.string nm) := by simp [go_sem]
    have b1 : (w.alloc (.cells #[.string nm, .slice A n c] 76)).cell? ⟨w.heap.size, 1, none⟩ = some (.slice A n c) := by simp [go_sem]
    have q0 := bal (Below.refl w.heap.size w) (.cells #[.string nm, .slice A n c] 76)
    have hA2 := hA.below q0
    have hE : (txt (.mk nm n kid)) = if n = 0 then nm.data.toList else nm.data.toList ++ joinK (fun k => txt (kid k)) n ++ [41] := by
      by_cases h0 : n = 0
      · subst h0; rw [txt_0, if_pos rfl]
      · rw [txt_n _ _ h0, if_neg h0, List.append_assoc]
    rw [hE]
    have HJ := hid (fun k (hk : k ≤ n) => joinK_bd (f := fun k => txt (kid k)) (m := 4096) (n := k) (fun j hj => HT.out j (by omega)))
    clear hA hE hp
    go_enter Try.func132, Try.ntmps132
    go_wp2
    generalize w.alloc (.cells #[.string nm, .slice A n c] 76) = W0 at *
    go_loopw [3, 4] (fun o i wr => ∃ (k : Nat) (L : List UInt8), k ≤ n ∧ i = .int .i64 k ∧ o = .string ⟨L.toArray⟩ ∧ L = nm.data.toList ++ joinK (fun k => txt (kid k)) k ∧ Below W0.heap.size W0 wr) (fun _ i _ => n - (intOf i).toNat)
    case atStart => exact ⟨0, nm.data.toList, Nat.zero_le _, rfl, congrArg _ (str_of nm), by rw [joinK, List.append_nil], Below.refl _ _⟩
    case round =>
      obtain ⟨k, L, hk, rfl, rfl, hL, hb⟩ := hrel
      have hLs : L.length ≤ 10000 := by
        have := HJ.out k hk
        have h2 : k * (4096 + 1) ≤ 2 * (4096 + 1) := Nat.mul_le_mul_right _ (by omega)
        rw [hL, List.length_append, hz]; omega
      have HL := hid hL; clear hL
      have zL : ByteArray.size ⟨L.toArray⟩ ≤ 10000 := hLs
      have g1 := carry hb b1
      have gs : w.heap.size < wr.heap.size := cell_lt g1
      clear b1 b0
      by_cases hlt : k < n
      · rcases hA2 with h0 | ⟨g, off, rfl, _, hg, hcA⟩
        · omega
        obtain ⟨a, ca, a0, a1, hI⟩ := hcA k hlt
        have gg : g < wr.heap.size := Nat.lt_of_lt_of_le hg hb.size
        replace a0 := carry hb a0
        replace a1 := carry hb a1
        replace hI := hI.below hb
        clear hcA
        have hS := HI.out k hlt a ca wr hI
        have hTs := HT.out k hlt
        clear hI
        have HX := hid (joinK_succ (fun k => txt (kid k)) k)
        have HX2 : Hid (joinK (fun k => txt (kid k)) (k + 1) = joinK (fun k => txt (kid k)) k ++ (mkB k :: txt (kid k))) := HX
        clear HX
        generalize txt (kid k) = T at hS hTs HX2
        have zT : ByteArray.size ⟨T.toArray⟩ ≤ 4096 := hTs
        rcases (show (((k : Int) == 0) = true ∧ mkB k = 40) ∨ (((k : Int) == 0) = false ∧ mkB k = 44) by
          by_cases h : k = 0
          · subst h; exact .inl ⟨rfl, rfl⟩
          · exact .inr ⟨by simp; omega, by simp [mkB, h]⟩) with ⟨e0, em⟩ | ⟨e0, em⟩
        · have HM := hid em; clear em
          go_wp2_with (go_at_call 132; refine hS.mono ?_; rintro e w1 ⟨rfl, hq⟩)
          go_roundw
          case rel =>
            refine ⟨k + 1, L ++ (40 :: T), by omega, by go_num, ?_, by rw [HX2.out, HL.out, HM.out, List.append_assoc], btr hb hq⟩
            show Value.string ((⟨L.toArray⟩ : ByteArray) ++ ⟨[(40 : UInt8)].toArray⟩ ++ ⟨T.toArray⟩) = _
            rw [str_app, str_app, List.append_assoc]; rfl
          case measure => simp [intOf]; omega
        · have HM := hid em; clear em
          go_wp2_with (go_at_call 132; refine hS.mono ?_; rintro e w1 ⟨rfl, hq⟩)
          go_roundw
          case rel =>
            refine ⟨k + 1, L ++ (44 :: T), by omega, by go_num, ?_, by rw [HX2.out, HL.out, HM.out, List.append_assoc], btr hb hq⟩
            show Value.string ((⟨L.toArray⟩ : ByteArray) ++ ⟨[(44 : UInt8)].toArray⟩ ++ ⟨T.toArray⟩) = _
            rw [str_app, str_app, List.append_assoc]; rfl
          case measure => simp [intOf]; omega
      · have hke : k = n := by omega
        have HK := hid hke
        by_cases h0 : n = 0
        · have HZ := hid h0
          have d5 : decide (0 < (n : Int)) = false := by simp; omega
          clear hke h0
          go_wp2
          go_ret
          refine ⟨?_, btr q0 hb⟩
          have hLL : L = nm.data.toList := by
            rw [HL.out, HK.out, HZ.out, joinK, List.append_nil]
          exact congrArg (fun l : List UInt8 => Ending.returned (Value.string ⟨l.toArray⟩)) hLL
        · have HZ := hid h0
          have d5 : decide (0 < (n : Int)) = true := by simp; omega
          clear hke h0
          go_wp2
          go_ret
          refine ⟨?_, btr q0 hb⟩
          have hLL : L ++ [41] = nm.data.toList ++ (joinK (fun k => txt (kid k)) n ++ [41]) := by
            rw [HL.out, HK.out, List.append_assoc]
          show Ending.returned (Value.string ((⟨L.toArray⟩ : ByteArray) ++ ⟨[(41 : UInt8)].toArray⟩)) = _
          rw [str_app]
          exact congrArg (fun l : List UInt8 => Ending.returned (Value.string ⟨l.toArray⟩)) hLL
end Go.Proofs.Ytanfljajafelgaa
