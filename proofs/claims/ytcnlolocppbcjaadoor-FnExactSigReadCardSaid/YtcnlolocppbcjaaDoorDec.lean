/- Contract of the kit's l16Dec: a number in decimals. -/
import Derived.Test.YtcnlolocppbcjaaDoorText
import Derived.Laws.BytesString
namespace Go.Proofs.YtcnlolocppbcjaaDoor
set_option linter.unusedVariables false
set_option linter.unusedSimpArgs false
open Go.Shelf Go.RowKit Go.Joins
theorem nDigits_lt : ∀ (k u : Nat), u < 10 ^ (k + 1) → Lib.nDigits u ≤ k + 1 := by
  intro k
  induction k with
  | zero => intro u hu; rw [Lib.nDigits_small (by omega)]; omega
  | succ k ih =>
    intro u hu
    by_cases h : u < 10
    · rw [Lib.nDigits_small h]; omega
    · rw [Lib.nDigits_big h]
      have := ih (u / 10) (by rw [Nat.div_lt_iff_lt_mul (by omega)]; rw [Nat.pow_succ] at hu; exact hu)
      omega
theorem dec_big {u : Nat} (h : ¬ u < 10) : Lib.decDigits u = Lib.decDigits (u / 10) ++ [UInt8.ofNat (48 + u % 10)] := by rw [Lib.decDigits, dif_neg h]
theorem dec_small {u : Nat} (h : u < 10) : Lib.decDigits u = [UInt8.ofNat (48 + u)] := by rw [Lib.decDigits, dif_pos h]
theorem dec_len {u : Nat} (h : u ≤ 1000000000000000000) : (Lib.decDigits u).length ≤ 19 := by
  rw [Lib.decDigits_length]; exact nDigits_lt 18 u (by omega)
theorem digit_str (w : World) (m : Nat) (hm : m < 10) :
    (convert 53 9 (.slice (some ⟨w.heap.size, 0, none⟩) 1 1)).run Tryd.prog (w.alloc (.cells #[.int .u8 (48 + (m : Int))] 5)) = .ok (.string ⟨#[UInt8.ofNat (48 + m)]⟩) (w.alloc (.cells #[.int .u8 (48 + (m : Int))] 5)) := by
  refine run_convert_bytes_back _ 53 9 5 ⟨w.heap.size, 0, none⟩ 1 [UInt8.ofNat (48 + m)] Tryd.underlying53 Tryd.underlying5 Tryd.underlying9 ?_
  intro j hj
  have hj0 : j = 0 := by simpa using hj
  subst hj0
  have h1 : (UInt8.ofNat (48 + m)).toNat = 48 + m := by rw [UInt8.toNat_ofNat']; omega
  show (w.alloc _).cell? ⟨w.heap.size, 0, none⟩ = _
  rw [World.cell?_alloc_new]
  simp only [List.getElem_cons_zero, h1]
  simp
theorem cat_cons (c : UInt8) (l : List UInt8) : (⟨#[c]⟩ : ByteArray) ++ ⟨l.toArray⟩ = ⟨(c :: l).toArray⟩ := by
  apply ByteArray.ext
  rw [ByteArray.data_append]
  show #[c] ++ l.toArray = _
  rw [show #[c] = [c].toArray from rfl, List.append_toArray]
  rfl
theorem below_new {w wr : World} (hb : Below w.heap.size w wr) (o : Obj) : Below w.heap.size w (wr.alloc o) := btr hb (bal (Below.refl _ _) _)
set_option maxRecDepth 100000 in
set_option maxHeartbeats 4000000 in
theorem dec_core (n : Nat) (L : List UInt8) (w : World) (hn : n ≤ 1000000000000000000) (HL : Hid (Lib.decDigits n = L)) :
    Calls Tryd.prog 33 #[.int .i64 n] w fun e w' => e = .returned (.string ⟨L.toArray⟩) ∧ Below w.heap.size w w' := by
  go_enter Tryd.func33, Tryd.ntmps33
  go_wp2
  go_loopw [0, 3] (fun a o wr => ∃ (k : Nat) (l : List UInt8), k ≤ n ∧ a = .int .i64 k ∧ o = .string ⟨l.toArray⟩ ∧ Lib.decDigits k ++ l = L ∧ Below w.heap.size w wr) (fun a _ _ => (intOf a).toNat)
  case atStart => exact ⟨n, [], Nat.le_refl _, rfl, rfl, by rw [List.append_nil]; exact HL.out, Below.refl _ _⟩
  case round =>
    obtain ⟨k, l, hk, rfl, rfl, hd, hb⟩ := hrel
    have hl : l.length ≤ 19 := by have h1 := congrArg List.length (hd.trans HL.out.symm); have h2 := dec_len hn; rw [List.length_append] at h1; omega
    have HD := hid hd; clear hd
    have HB := hid hb; clear hb
    generalize hs : (⟨l.toArray⟩ : ByteArray) = s
    have HS := hid hs; clear hs
    have hz : s.size ≤ 19 := by rw [← HS.out]; exact hl
    by_cases h9 : k < 10
    · have hd := digit_str wr k h9
      generalize hc : UInt8.ofNat (48 + k) = c at hd
      have HC := hid hc; clear hc
      go_wp2
      go_ret
      refine ⟨?_, below_new HB.out _⟩
      rw [← HS.out, cat_cons, ← HD.out, dec_small h9, HC.out]
      rfl
    · have hk10 : k / 10 ≤ n := by omega
      have hd := digit_str wr (k % 10) (by omega)
      generalize hc : UInt8.ofNat (48 + k % 10) = c at hd
      have HC := hid hc; clear hc
      go_wp2
      rw [show (48 + (k : Int) % 10) = 48 + ((k % 10 : Nat) : Int) by omega]
      rw [hd]
      go_wp2
      refine ⟨⟨k / 10, c :: l, hk10, ?_, ?_, ?_, below_new HB.out _⟩, ?_⟩
      · show Value.int IntKind.i64 ((k : Int) / 10) = Value.int IntKind.i64 ((k / 10 : Nat) : Int)
        rw [show ((k : Int) / 10) = ((k / 10 : Nat) : Int) by omega]
      · rw [← HS.out, cat_cons]
      · rw [← HD.out, dec_big h9, HC.out, List.append_assoc]
        rfl
      · show ((k : Int) / 10).toNat < (k : Int).toNat
        omega
theorem ldec_nat (n : Nat) (w : World) (hn : n ≤ 1000000000000000000) :
    Calls Tryd.prog 33 #[.int .i64 n] w fun e w' => e = .returned (.string ⟨(Lib.decDigits n).toArray⟩) ∧ Below w.heap.size w w' :=
  dec_core n _ w hn (hid rfl)
theorem itoa_nat (n : Nat) : Lib.itoa (n : Int) = Lib.decDigits n := by
  unfold Lib.itoa
  rw [if_neg (by omega)]
  rfl
theorem itoa_neg {n : Int} (h : n < 0) : Lib.itoa n = 45 :: Lib.decDigits n.natAbs := by
  unfold Lib.itoa
  rw [if_pos h]
set_option maxHeartbeats 4000000 in
theorem ldec_at (n : Int) (w : World) (h : -1000000000 ≤ n ∧ n ≤ 1000000000) :
    Calls Tryd.prog 33 #[.int .i64 n] w fun e w' => e = .returned (.string ⟨(Lib.itoa n).toArray⟩) ∧ Below w.heap.size w w' := by
  by_cases h0 : n < 0
  · obtain ⟨m, rfl⟩ : ∃ m : Nat, n = -(m : Int) := ⟨n.natAbs, by omega⟩
    have hl := dec_len (u := m) (by omega)
    rw [itoa_neg h0, show (-(m : Int)).natAbs = m by omega]
    go_enter Tryd.func33, Tryd.ntmps33
    have hc := fun W => ldec_nat m W (by omega)
    generalize Lib.decDigits m = L at hc hl ⊢
    go_wp2_with fail
    refine (hc w).mono ?_
    rintro e w1 ⟨rfl, hb⟩
    have hs : (ByteArray.size ⟨L.toArray⟩) ≤ 19 := hl
    go_wp2
    go_ret
    refine ⟨?_, hb⟩
    rw [cat_cons]
    rfl
  · obtain ⟨m, rfl⟩ : ∃ m : Nat, n = (m : Int) := ⟨n.toNat, by omega⟩
    rw [itoa_nat]
    exact ldec_nat m w (by omega)
end Go.Proofs.YtcnlolocppbcjaaDoor
