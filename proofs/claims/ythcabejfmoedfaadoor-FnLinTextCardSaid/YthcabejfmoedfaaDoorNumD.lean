/- The kit's l16Num reads what l16Dec writes. -/
import Derived.Test.YthcabejfmoedfaaDoorNumC
namespace Go.Proofs.YthcabejfmoedfaaDoor
set_option linter.unusedVariables false
set_option linter.unusedSimpArgs false
open Go.Shelf Go.RowKit Go.Joins
theorem digs_snoc (l : List UInt8) (c : UInt8) (hc : 48 ≤ c.toNat ∧ c.toNat ≤ 57) : ∀ (a m : Nat), digs a l = some m → digs a (l ++ [c]) = some (m * 10 + (c.toNat - 48)) := by
  induction l with
  | nil =>
    intro a m h
    have : a = m := by simpa [digs] using h
    subst this
    show digs a (c :: []) = _
    rw [digs_ok hc]
    rfl
  | cons b r ih =>
    intro a m h
    by_cases hb : 48 ≤ b.toNat ∧ b.toNat ≤ 57
    · rw [digs_ok hb] at h
      show digs a (b :: (r ++ [c])) = _
      rw [digs_ok hb]
      exact ih _ _ h
    · rw [digs_bad hb] at h
      cases h
theorem dig_val {m : Nat} (h : m < 10) : (UInt8.ofNat (48 + m)).toNat = 48 + m := by rw [UInt8.toNat_ofNat']; omega
theorem digs_dec : ∀ n : Nat, digs 0 (Lib.decDigits n) = some n := by
  intro n
  induction n using Nat.strongRecOn with
  | _ n ih =>
    by_cases h : n < 10
    · rw [dec_small h, digs_ok (by rw [dig_val h]; omega), dig_val h]
      show some (0 * 10 + (48 + n - 48)) = some n
      congr 1; omega
    · have hm : n % 10 < 10 := Nat.mod_lt _ (by omega)
      rw [dec_big h, digs_snoc _ _ (by rw [dig_val hm]; omega) _ _ (ih (n / 10) (by omega)), dig_val hm]
      congr 1; omega
theorem dec_head : ∀ n : Nat, ∃ c r, Lib.decDigits n = c :: r ∧ c.toNat ≠ 45 ∧ (c.toNat = 48 → r = []) ∧ (0 < n → c.toNat ≠ 48) := by
  intro n
  induction n using Nat.strongRecOn with
  | _ n ih =>
    by_cases h : n < 10
    · refine ⟨UInt8.ofNat (48 + n), [], dec_small h, ?_, fun _ => rfl, ?_⟩
      · rw [dig_val h]; omega
      · intro h0; rw [dig_val h]; omega
    · obtain ⟨c, r, e, h1, h2, h3⟩ := ih (n / 10) (by omega)
      refine ⟨c, r ++ [UInt8.ofNat (48 + n % 10)], by rw [dec_big h, e]; rfl, h1, fun h4 => absurd h4 (h3 (by omega)), fun _ => h3 (by omega)⟩
theorem dec_len17 {n : Nat} (h : n ≤ 1000000000) : (Lib.decDigits n).length ≤ 17 := by
  rw [Lib.decDigits_length]; exact nDigits_lt 16 n (by omega)
theorem lnum_nat (n : Nat) (w : World) (h : n ≤ 1000000000) :
    Calls Tryd.prog 45 #[.string ⟨(Lib.decDigits n).toArray⟩] w fun e w' => e = .returned (.tuple #[.int .i64 n, .bool true]) ∧ Below w.heap.size w w' := by
  obtain ⟨c, r, e, h1, h2, h3⟩ := dec_head n
  have hl := dec_len17 h
  have hd := digs_dec n
  rw [e] at hl hd ⊢
  refine (num_pos ⟨(c :: r).toArray⟩ (Nat.succ_pos _) hl h1 (fun h4 => by rw [h2 h4]; rfl) w).mono ?_
  rintro e w' ⟨rfl, hb⟩
  refine ⟨?_, hb⟩
  show Ending.returned (numV false (digs 0 (c :: r))) = _
  rw [hd]
  rfl
theorem lnum_itoa (n : Int) (w : World) (h : -1000000000 ≤ n ∧ n ≤ 1000000000) :
    Calls Tryd.prog 45 #[.string ⟨(Lib.itoa n).toArray⟩] w fun e w' => e = .returned (.tuple #[.int .i64 n, .bool true]) ∧ Below w.heap.size w w' := by
  by_cases h0 : n < 0
  · obtain ⟨m, rfl⟩ : ∃ m : Nat, n = -(m : Int) := ⟨n.natAbs, by omega⟩
    obtain ⟨c, r, e, h1, h2, h3⟩ := dec_head m
    have hl := dec_len17 (n := m) (by omega)
    have hd := digs_dec m
    rw [itoa_neg h0, show (-(m : Int)).natAbs = m by omega]
    rw [e] at hl hd ⊢
    refine (num_neg ⟨(45 :: c :: r).toArray⟩ ⟨(c :: r).toArray⟩ rfl rfl ?_ (Nat.succ_pos _) hl (h3 (by omega)) w).mono ?_
    · apply ByteArray.ext
      rw [ByteArray.data_extract, show (ByteArray.size ⟨(c :: r).toArray⟩) + 1 = (45 :: c :: r : List UInt8).length from rfl]
      simp
    · rintro e w' ⟨rfl, hb⟩
      refine ⟨?_, hb⟩
      show Ending.returned (numV true (digs 0 (c :: r))) = _
      rw [hd]
      rfl
  · obtain ⟨m, rfl⟩ : ∃ m : Nat, n = (m : Int) := ⟨n.toNat, by omega⟩
    rw [itoa_nat]
    exact lnum_nat m w (by omega)
end Go.Proofs.YthcabejfmoedfaaDoor
