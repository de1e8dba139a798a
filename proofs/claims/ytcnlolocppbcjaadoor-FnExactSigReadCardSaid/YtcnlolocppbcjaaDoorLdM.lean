/- The text of a constraint read again: plain mathematics. -/
import Derived.Test.YtcnlolocppbcjaaDoorLinTB
import Derived.Test.YtcnlolocppbcjaaDoorBNum
import Derived.Test.YtcnlolocppbcjaaDoorRdA
namespace Go.Proofs.YtcnlolocppbcjaaDoor
set_option linter.unusedVariables false
set_option linter.unusedSimpArgs false
open Go.Shelf Go.RowKit Go.Joins
/-- the text is that of the constraint -/
def LdOk (s : ByteArray) (Z : Nat → Int) (b : Int) (st : Bool) : Prop := okL 4 Z b = true ∧ s = ⟨(linT Z b st).toArray⟩
theorem no32 (n : Int) : (32 : UInt8) ∉ Lib.itoa n := itoa_no (by decide)
theorem sgn32 (st : Bool) : (32 : UInt8) ∉ sgnT st := by cases st <;> decide
theorem linT_flat (Z : Nat → Int) (b : Int) (st : Bool) : linT Z b st = Lib.itoa (Z 0) ++ 32 :: (Lib.itoa (Z 1) ++ 32 :: (Lib.itoa (Z 2) ++ 32 :: (Lib.itoa (Z 3) ++ 32 :: (sgnT st ++ 32 :: Lib.itoa b)))) := by
  simp [linT, coefT]
theorem ld_list {s : ByteArray} {Z : Nat → Int} {b : Int} {st : Bool} (h : LdOk s Z b st) : s.data.toList = Lib.itoa (Z 0) ++ 32 :: (Lib.itoa (Z 1) ++ 32 :: (Lib.itoa (Z 2) ++ 32 :: (Lib.itoa (Z 3) ++ 32 :: (sgnT st ++ 32 :: Lib.itoa b)))) := by
  rw [h.2, bytes_list, linT_flat]
theorem ld_split {s : ByteArray} {Z : Nat → Int} {b : Int} {st : Bool} (h : LdOk s Z b st) : wsOf s 32 = [⟨(Lib.itoa (Z 0)).toArray⟩, ⟨(Lib.itoa (Z 1)).toArray⟩, ⟨(Lib.itoa (Z 2)).toArray⟩, ⟨(Lib.itoa (Z 3)).toArray⟩, ⟨(sgnT st).toArray⟩, ⟨(Lib.itoa b).toArray⟩] := by
  unfold wsOf
  rw [ld_list h, split_at _ (no32 _), split_at _ (no32 _), split_at _ (no32 _), split_at _ (no32 _), split_at _ (sgn32 _), split_no (no32 _)]
  rfl
/-- what is left of a text behind k words, and the next word -/
def restL (l : List UInt8) : Nat → List UInt8
  | 0 => l
  | k + 1 => (Lib.cut (restL l k) [32]).2.1
def wordL (l : List UInt8) (k : Nat) : List UInt8 := (Lib.cut (restL l k) [32]).1
theorem rest_one {u v : List UInt8} {l : List UInt8} {k : Nat} (h : restL l k = u ++ 32 :: v) (hu : (32 : UInt8) ∉ u) : wordL l k = u ∧ restL l (k + 1) = v := by
  have hc := cut_one (v := v) hu
  refine ⟨?_, ?_⟩
  · unfold wordL; rw [h, hc]
  · show (Lib.cut (restL l k) [32]).2.1 = v; rw [h, hc]
theorem ld_words {s : ByteArray} {Z : Nat → Int} {b : Int} {st : Bool} (h : LdOk s Z b st) : (∀ k, k < 4 → wordL s.data.toList k = Lib.itoa (Z k)) ∧ wordL s.data.toList 4 = sgnT st ∧ wordL s.data.toList 5 = Lib.itoa b := by
  have h0 : restL s.data.toList 0 = _ := ld_list h
  obtain ⟨w0, h1⟩ := rest_one h0 (no32 _)
  obtain ⟨w1, h2⟩ := rest_one h1 (no32 _)
  obtain ⟨w2, h3⟩ := rest_one h2 (no32 _)
  obtain ⟨w3, h4⟩ := rest_one h3 (no32 _)
  obtain ⟨w4, h5⟩ := rest_one h4 (sgn32 _)
  refine ⟨fun k hk => ?_, w4, ?_⟩
  · rcases lt4 hk with rfl | rfl | rfl | rfl <;> assumption
  · unfold wordL; rw [h5, cut_none (no32 _)]
theorem rest_len (l : List UInt8) : ∀ k, (restL l k).length ≤ l.length
  | 0 => Nat.le_refl _
  | k + 1 => Nat.le_trans (show (Lib.cut (restL l k) [32]).2.1.length ≤ _ by unfold Lib.cut; split <;> simp <;> omega) (rest_len l k)
theorem word_len (l : List UInt8) (k : Nat) : (wordL l k).length ≤ l.length :=
  Nat.le_trans (show (Lib.cut (restL l k) [32]).1.length ≤ _ by unfold Lib.cut; split <;> simp <;> omega) (rest_len l k)
/-- the number of a word, 0 if it is none -/
def numW (l : List UInt8) : Int := match Lib.atoiAll l with
  | .ok v => v
  | _ => 0
theorem numW_ok {l : List UInt8} {v : Int} (h : Lib.atoiAll l = .ok v) : numW l = v := by unfold numW; rw [h]
theorem sgn_iff (st : Bool) : decide (sgnT st = [60]) = st := by cases st <;> rfl
theorem okL_b9 {n : Nat} {Z : Nat → Int} {b : Int} (h : okL n Z b = true) : (∀ k, k < 4 → -1000000000 ≤ Z k ∧ Z k ≤ 1000000000) ∧ (-1000000000 ≤ b ∧ b ≤ 1000000000) := by
  have h1 := okL_z h
  have h2 := (okL_bd4 h).2.2.2.2
  exact ⟨fun k hk => by have := h1 k hk; omega, by omega⟩
theorem ld_atoi {s : ByteArray} {Z : Nat → Int} {b : Int} {st : Bool} (h : LdOk s Z b st) : (∀ k, k < 4 → Lib.atoiAll (wordL s.data.toList k) = .ok (Z k)) ∧ decide (wordL s.data.toList 4 = [60]) = st ∧ Lib.atoiAll (wordL s.data.toList 5) = .ok b := by
  obtain ⟨h1, h2, h3⟩ := ld_words h
  obtain ⟨b1, b2⟩ := okL_b9 h.1
  refine ⟨fun k hk => ?_, by rw [h2]; exact sgn_iff st, ?_⟩
  · rw [h1 k hk]; exact atoi_itoa _ (by have := b1 k hk; omega)
  · rw [h3]; exact atoi_itoa _ (by omega)
theorem okL_congr {Z Y : Nat → Int} {b : Int} (h : ∀ k, k < 4 → Z k = Y k) : okL 4 Z b = okL 4 Y b := by
  rw [Bool.eq_iff_iff, okL_iff, okL_iff]
  constructor
  · rintro ⟨_, h1, h2⟩; exact ⟨rfl, fun k hk => by rw [← h k hk]; exact h1 k hk, h2⟩
  · rintro ⟨_, h1, h2⟩; exact ⟨rfl, fun k hk => by rw [h k hk]; exact h1 k hk, h2⟩
theorem linT_congr {Z Y : Nat → Int} {b : Int} {st : Bool} (h : ∀ k, k < 4 → Z k = Y k) : linT Z b st = linT Y b st := by
  rw [linT_flat, linT_flat, h 0 (by omega), h 1 (by omega), h 2 (by omega), h 3 (by omega)]
theorem ld_congr {s : ByteArray} {Z Y : Nat → Int} {b : Int} {st : Bool} (h : ∀ k, k < 4 → Z k = Y k) (hk : LdOk s Z b st) : LdOk s Y b st := ⟨by rw [← okL_congr h]; exact hk.1, by rw [← linT_congr h]; exact hk.2⟩
theorem ld_inj {s : ByteArray} {Z Y : Nat → Int} {b d : Int} {st u : Bool} (h : LdOk s Z b st) (h' : LdOk s Y d u) : (∀ k, k < 4 → Z k = Y k) ∧ b = d ∧ st = u := by
  obtain ⟨a1, a2, a3⟩ := ld_atoi h
  obtain ⟨c1, c2, c3⟩ := ld_atoi h'
  refine ⟨fun k hk => ?_, ?_, a2.symm.trans c2⟩
  · have := (a1 k hk).symm.trans (c1 k hk); injection this
  · have := a3.symm.trans c3; injection this
theorem ld_ne {s : ByteArray} {Z : Nat → Int} {b : Int} {st : Bool} (hne : s.size ≠ 0) (h : s = ⟨(linTxt 4 Z b st).toArray⟩) : LdOk s Z b st := by
  unfold linTxt at h
  split at h
  · rename_i hv; exact ⟨hv, h⟩
  · rw [h] at hne; exact absurd rfl hne
theorem ld_txt {s : ByteArray} {Z : Nat → Int} {b : Int} {st : Bool} (h : LdOk s Z b st) : s = ⟨(linTxt 4 Z b st).toArray⟩ := by
  unfold linTxt; rw [if_pos h.1]; exact h.2
/-- what LinRead answers: a constraint of new memory, or none -/
def LdP (W : World) (s : ByteArray) (e : Ending) (w' : World) : Prop :=
  (∃ Z b st v, LdOk s Z b st ∧ e = .returned (.tuple #[v, .bool true]) ∧ NewL W (4, Z, b, st) v w') ∨ ((∀ Z b st, ¬ LdOk s Z b st) ∧ e = .returned (.tuple #[.agg #[.slice none 0 0, .int .i64 0, .bool false], .bool false]))
end Go.Proofs.YtcnlolocppbcjaaDoor
