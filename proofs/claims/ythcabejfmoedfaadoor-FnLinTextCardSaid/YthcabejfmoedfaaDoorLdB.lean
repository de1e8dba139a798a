/- Contract of the program's LinRead. -/
import Derived.Test.YthcabejfmoedfaaDoorLdM
import Derived.Test.YthcabejfmoedfaaDoorRdB
import Derived.Test.YthcabejfmoedfaaDoorLinO
namespace Go.Proofs.YthcabejfmoedfaaDoor
set_option linter.unusedVariables false
set_option linter.unusedSimpArgs false
open Go.Shelf Go.RowKit Go.Joins
set_option maxRecDepth 100000 in
theorem scan_new (s : ByteArray) (w : World) :
    Calls Tryd.prog 66 #[.string s] w fun e w' => e = .returned (.func (.func 107) #[] #[.pointer (some ⟨w.heap.size, 0, none⟩)]) ∧ w' = w.alloc (.cells #[.string s] 9) := by
  go_enter Tryd.func66, Tryd.ntmps66
  go_wp2
  go_ret
  exact ⟨rfl, rfl⟩
set_option maxRecDepth 100000 in
theorem next_any (b : Nat) (t : List UInt8) (w : World) (hz : t.length ≤ 1048576) (hc : w.cell? ⟨b, 0, none⟩ = some (.string ⟨t.toArray⟩)) (hf : w.frozen? ⟨b, 0, none⟩ = false) (hm : MaxAt w) :
    Calls Tryd.prog 107 #[.pointer (some ⟨b, 0, none⟩)] w fun e w' => e = .returned (.string ⟨(Lib.cut t [32]).1.toArray⟩) ∧ ∃ u, Below w.heap.size w u ∧ w' = u.setCell ⟨b, 0, none⟩ (.string ⟨(Lib.cut t [32]).2.1.toArray⟩) := by
  have hC := strcut_at ⟨t.toArray⟩ 32 w hz hm
  have hbl : (⟨t.toArray⟩ : ByteArray).data.toList = t := bytes_list
  rw [hbl] at hC
  generalize Lib.cut t [32] = X at hC ⊢
  obtain ⟨u1, v1, f1⟩ := X
  simp only at hC ⊢
  have hlt := cell_lt hc
  go_enter Tryd.func107, Tryd.ntmps107
  go_wp2_with fail
  refine hC.mono ?_
  rintro e w1 ⟨rfl, hq⟩
  have hc1 := carry hq hc
  have hf1 := carryf hq hf hlt
  go_wp2
  go_ret
  exact ⟨rfl, w1, hq, rfl⟩
/-- the box of the text and the row of the numbers -/
def LSt (X C : Nat) (l : List UInt8) (k m : Nat) (w : World) : Prop :=
  w.cell? ⟨X, 0, none⟩ = some (.string ⟨(restL l m).toArray⟩) ∧ w.frozen? ⟨X, 0, none⟩ = false ∧ ∀ j, j < 4 → w.cell? ⟨C, j, none⟩ = some (.int .i64 (if j < k then numW (wordL l j) else 0)) ∧ w.frozen? ⟨C, j, none⟩ = false
theorem LSt.below {X C : Nat} {l : List UInt8} {k m : Nat} {w w' : World} (h : LSt X C l k m w) (hq : Below w.heap.size w w') : LSt X C l k m w' :=
  ⟨carry hq h.1, carryf hq h.2.1 (cell_lt h.1), fun j hj => ⟨carry hq (h.2.2 j hj).1, carryf hq (h.2.2 j hj).2 (cell_lt (h.2.2 j hj).1)⟩⟩
theorem LSt.next {X C : Nat} {l : List UInt8} {k m : Nat} {w : World} (hX : X ≠ C) (h : LSt X C l k m w) : LSt X C l k (m + 1) (w.setCell ⟨X, 0, none⟩ (.string ⟨(Lib.cut (restL l m) [32]).2.1.toArray⟩)) :=
  ⟨World.cell?_setCell_same _ _ _ h.1, by simpa [go_sem] using h.2.1, fun j hj => ⟨by rw [World.cell?_setCell_other _ _ _ _ (by simp <;> omega)]; exact (h.2.2 j hj).1, by simpa [go_sem] using (h.2.2 j hj).2⟩⟩
theorem LSt.put {X C : Nat} {l : List UInt8} {k m : Nat} {w : World} (hX : X ≠ C) (hk : k < 4) (h : LSt X C l k m w) : LSt X C l (k + 1) m (w.setCell ⟨C, k, none⟩ (.int .i64 (numW (wordL l k)))) := by
  refine ⟨by rw [World.cell?_setCell_other _ _ _ _ (by simp <;> omega)]; exact h.1, by simpa [go_sem] using h.2.1, fun j hj => ⟨?_, by simpa [go_sem] using (h.2.2 j hj).2⟩⟩
  by_cases hjk : j = k
  · subst hjk
    rw [World.cell?_setCell_same _ _ _ (h.2.2 j hj).1, if_pos (by omega)]
  · rw [World.cell?_setCell_other _ _ _ _ (by simp <;> omega), (h.2.2 j hj).1]
    by_cases h1 : j < k
    · rw [if_pos h1, if_pos (by omega)]
    · rw [if_neg h1, if_neg (by omega)]
/-- the result's block -/
def RSt (R : Nat) (w : World) : Prop :=
  w.cell? ⟨R, 0, none⟩ = some (.slice none 0 0) ∧ w.cell? ⟨R, 1, none⟩ = some (.int .i64 0) ∧ w.cell? ⟨R, 2, none⟩ = some (.bool false) ∧ w.frozen? ⟨R, 0, none⟩ = false ∧ w.frozen? ⟨R, 1, none⟩ = false ∧ w.frozen? ⟨R, 2, none⟩ = false
theorem RSt.below {R : Nat} {w w' : World} (h : RSt R w) (hq : Below w.heap.size w w') : RSt R w' :=
  ⟨carry hq h.1, carry hq h.2.1, carry hq h.2.2.1, carryf hq h.2.2.2.1 (cell_lt h.1), carryf hq h.2.2.2.2.1 (cell_lt h.1), carryf hq h.2.2.2.2.2 (cell_lt h.1)⟩
theorem RSt.set {R p o : Nat} {w : World} (v : Value) (hp : p ≠ R) (h : RSt R w) : RSt R (w.setCell ⟨p, o, none⟩ v) :=
  ⟨by rw [World.cell?_setCell_other _ _ _ _ (by simp <;> omega)]; exact h.1, by rw [World.cell?_setCell_other _ _ _ _ (by simp <;> omega)]; exact h.2.1, by rw [World.cell?_setCell_other _ _ _ _ (by simp <;> omega)]; exact h.2.2.1, by simpa [go_sem] using h.2.2.2.1, by simpa [go_sem] using h.2.2.2.2.1, by simpa [go_sem] using h.2.2.2.2.2⟩
theorem str60L (l : List UInt8) : (l == [60]) = decide (l = [60]) := by
  rw [Bool.eq_iff_iff]
  simp only [beq_iff_eq, decide_eq_true_eq]
theorem own_set3 {w w7 : World} {n C X : Nat} {Z : Nat → Int} (hx0 : w.heap.size < X) (hC : X + 1 = C) (h : OwnI w w7 (some ⟨C, 0, none⟩) n Z) (a b c : Value) :
    OwnI w (((w7.setCell ⟨w.heap.size, 0, none⟩ a).setCell ⟨w.heap.size, 1, none⟩ b).setCell ⟨w.heap.size, 2, none⟩ c) (some ⟨C, 0, none⟩) n Z := by
  rcases h with h | ⟨g, e, h1, h2, h3⟩
  · exact .inl h
  · obtain rfl : C = g := by simpa using e
    exact .inr ⟨C, rfl, h1, by simpa using h2, fun k hk => ⟨by rw [World.cell?_setCell_other _ _ _ _ (by simp <;> omega), World.cell?_setCell_other _ _ _ _ (by simp <;> omega), World.cell?_setCell_other _ _ _ _ (by simp <;> omega)]; exact (h3 k hk).1, by simpa [go_sem] using (h3 k hk).2⟩⟩
theorem ld_need {s : ByteArray} {Z : Nat → Int} {b : Int} {st : Bool} (h : LdOk s Z b st) : (∀ k, k < 4 → ∃ v, Lib.atoiAll (wordL s.data.toList k) = .ok v) ∧ (∃ v, Lib.atoiAll (wordL s.data.toList 5) = .ok v) ∧ (∀ k, k < 4 → numW (wordL s.data.toList k) = Z k) ∧ numW (wordL s.data.toList 5) = b ∧ decide (wordL s.data.toList 4 = [60]) = st := by
  obtain ⟨h1, h2, h3⟩ := ld_atoi h
  exact ⟨fun k hk => ⟨_, h1 k hk⟩, ⟨_, h3⟩, fun k hk => numW_ok (h1 k hk), numW_ok h3, h2⟩
theorem ld_none {s : ByteArray} (h : (⟨([] : List UInt8).toArray⟩ : ByteArray) = s) : Lib.atoiAll (wordL s.data.toList 0) ≠ .ok 0 ∧ ∀ v, Lib.atoiAll (wordL s.data.toList 0) ≠ .ok v := by
  subst h
  constructor
  · intro e; cases e
  · intro v e; cases e
set_option maxRecDepth 100000 in
set_option maxHeartbeats 8000000 in
theorem linread_any (s : ByteArray) (w : World) (hs : s.size ≤ 1048576) (htab : Lib.TabIs Tryd.prog w "internal/strconv.uint64pow10" .u64 Lib.pow10Tab) (hm : MaxAt w) (h1 : ErrAt w 1) (h2 : ErrAt w 2) :
    Calls Tryd.prog 25 #[.string s] w fun e w' => LdP w s e w' ∧ Below w.heap.size w w' := by
  have hN := fun Z b st (h : LdOk s Z b st) => ld_need h
  have hT := hid (fun W (hb : Below w.heap.size w W) => tab_keep htab hb)
  have hM := hid (fun W (hb : Below w.heap.size w W) => hm.below hb)
  have hE1 := hid (fun W (hb : Below w.heap.size w W) => h1.below hb)
  have hE2 := hid (fun W (hb : Below w.heap.size w W) => h2.below hb)
  have hNe := hid (fun (e : (⟨([] : List UInt8).toArray⟩ : ByteArray) = s) => (ld_none e).2)
  clear htab hm h1 h2
  have hsl : s.data.toList.length ≤ 1048576 := by simpa using hs
  have hrl := fun k => Nat.le_trans (rest_len s.data.toList k) hsl
  have hwl := fun k => Nat.le_trans (word_len s.data.toList k) hsl
  have hsb := hid (show s = ⟨(restL s.data.toList 0).toArray⟩ from (list_bytes s).symm)
  have hRS : RSt w.heap.size (w.alloc (.cells #[.slice none 0 0, .int .i64 0, .bool false] 39)) := by refine ⟨?_, ?_, ?_, ?_, ?_, ?_⟩ <;> simp [go_sem]
  have q0 := bal (Below.refl w.heap.size w) (.cells #[.slice none 0 0, .int .i64 0, .bool false] 39)
  have hwz := hid (show (w.alloc (.cells #[.slice none 0 0, .int .i64 0, .bool false] 39)).heap.size = w.heap.size + 1 by simp)
  go_enter Tryd.func25, Tryd.ntmps25
  go_upto_region 1 with fail
  generalize w.alloc (.cells #[.slice none 0 0, .int .i64 0, .bool false] 39) = w1 at *
  go_wp2_with fail
  refine (scan_new s w1).mono ?_
  rintro e w2 ⟨rfl, rfl⟩
  have hS0 : LSt w1.heap.size (w1.heap.size + 1) s.data.toList 0 0 ((w1.alloc (.cells #[.string s] 9)).alloc (.cells #[.int .i64 0, .int .i64 0, .int .i64 0, .int .i64 0] 3)) := by
    refine ⟨?_, by simp [go_sem], fun j hj => ?_⟩
    · rw [← hsb.out]; simp [go_sem]
    · rcases lt4 hj with rfl | rfl | rfl | rfl <;> exact ⟨by simp [go_sem], by simp [go_sem]⟩
  have qA := bal (bal (Below.refl w1.heap.size w1) (.cells #[.string s] 9)) (.cells #[.int .i64 0, .int .i64 0, .int .i64 0, .int .i64 0] 3)
  replace hRS := hRS.below qA
  replace q0 := btr q0 qA
  have hmk := mk4 (w1.alloc (.cells #[.string s] 9))
  have hCz : (w1.alloc (.cells #[.string s] 9)).heap.size = w1.heap.size + 1 := by simp
  rw [hCz] at hmk
  go_upto_region 4 with fail
  have hx0 : w.heap.size < w1.heap.size := by rw [hwz.out]; omega
  clear hmk hCz
  generalize (w1.alloc (.cells #[.string s] 9)).alloc (.cells #[.int .i64 0, .int .i64 0, .int .i64 0, .int .i64 0] 3) = wA at *
  have hXC : w1.heap.size ≠ w1.heap.size + 1 := by omega
  generalize hC_ : w1.heap.size + 1 = C at *
  generalize hX_ : w1.heap.size = X at *
  have hXC2 : X < C := by omega
  have hCX := hid hC_
  clear hC_
  go_loopw [18] (fun i wr => ∃ k : Nat, k ≤ 4 ∧ i = .int .i64 k ∧ LSt X C s.data.toList k k wr ∧ (∀ j, j < k → ∃ v, Lib.atoiAll (wordL s.data.toList j) = .ok v) ∧ Below X wA wr) (fun i _ => 4 - (intOf i).toNat)
  case atStart => exact ⟨0, Nat.zero_le _, rfl, hS0, fun j hj => absurd hj (by omega), Below.refl _ _⟩
  case round =>
    clear hS0
    obtain ⟨k, hk, rfl, hS, hO, hbA⟩ := hrel
    have HO := hid hO; clear hO
    have hRS1 : RSt w.heap.size wr := ⟨(hbA.cell (p := ⟨w.heap.size, 0, none⟩) hx0).trans hRS.1, (hbA.cell (p := ⟨w.heap.size, 1, none⟩) hx0).trans hRS.2.1, (hbA.cell (p := ⟨w.heap.size, 2, none⟩) hx0).trans hRS.2.2.1, (hbA.frozen (p := ⟨w.heap.size, 0, none⟩) hx0).trans hRS.2.2.2.1, (hbA.frozen (p := ⟨w.heap.size, 1, none⟩) hx0).trans hRS.2.2.2.2.1, (hbA.frozen (p := ⟨w.heap.size, 2, none⟩) hx0).trans hRS.2.2.2.2.2⟩
    have q1 := q0.trans (hbA.mono (Nat.le_of_lt hx0))
    have hXr : X < wr.heap.size := cell_lt hS.1
    have hX := next_any X (restL s.data.toList k) wr (hrl k) hS.1 hS.2.1 (hM.out _ q1)
    by_cases hlt : k < 4
    · have hw : (Lib.cut (restL s.data.toList k) [32]).1 = wordL s.data.toList k := rfl
      rw [hw] at hX
      go_wp2_with fail
      refine hX.mono ?_
      rintro e w3 ⟨rfl, u, hq, rfl⟩
      have hS3 := (hS.below hq).next (show X ≠ C by omega)
      have hbA3 : Below X wA (u.setCell ⟨X, 0, none⟩ (.string ⟨(Lib.cut (restL s.data.toList k) [32]).2.1.toArray⟩)) := (hbA.trans (hq.mono (by omega))).setCell (Nat.le_refl _) _
      have hRS3 := (hRS1.below hq).set (p := X) (o := 0) (.string ⟨(Lib.cut (restL s.data.toList k) [32]).2.1.toArray⟩) (by omega)
      have q3 := bst (btr q1 hq) (p := ⟨X, 0, none⟩) (Nat.le_of_lt hx0) (.string ⟨(Lib.cut (restL s.data.toList k) [32]).2.1.toArray⟩)
      generalize u.setCell ⟨X, 0, none⟩ (.string ⟨(Lib.cut (restL s.data.toList k) [32]).2.1.toArray⟩) = w3 at *
      clear hX hw hS hRS1 q1 hbA hq hXr
      by_cases ha : ∃ v, Lib.atoiAll (wordL s.data.toList k) = .ok v
      · obtain ⟨v, hv⟩ := ha
        have hnv := numW_ok hv
        go_wp2_with fail
        refine (atoi_ok (s := ⟨(wordL s.data.toList k).toArray⟩) (hwl k) hv _).mono ?_
        rintro e w4 ⟨rfl, hq⟩
        have hS4 := hS3.below hq
        have hbA4 : Below X wA w4 := hbA3.trans (hq.mono (by have : X < w3.heap.size := cell_lt hS3.1; omega))
        clear hS3 hbA3 hRS3 q3 hq
        have hck := (hS4.2.2 k hlt).1
        have hfk := (hS4.2.2 k hlt).2
        rw [if_neg (by omega)] at hck
        have hCr : C < w4.heap.size := cell_lt hck
        have hput := hid (hS4.put (show X ≠ C by omega) hlt)
        rw [hnv] at hput
        have hset := hid (hbA4.setCell (p := ⟨C, k, none⟩) (by show X ≤ C; omega) (.int .i64 v))
        have hOn := hid (show ∀ j, j < k + 1 → ∃ v, Lib.atoiAll (wordL s.data.toList j) = .ok v from fun j hj => by
          by_cases hjk : j = k
          · subst hjk; exact ⟨v, hv⟩
          · exact HO.out j (by omega))
        clear hS4 hbA4 hv hnv
        go_wp2
        go_roundw
        case rel => exact ⟨k + 1, by omega, by go_num, hput.out, hOn.out, hset.out⟩
        case measure => simp [intOf]; omega
      · go_wp2_with fail
        refine (atoi_no (s := ⟨(wordL s.data.toList k).toArray⟩) (hwl k) (fun v h => ha ⟨v, h⟩) _ (hE1.out _ q3) (hE2.out _ q3)).mono ?_
        rintro e w4 ⟨⟨_, _, _, rfl⟩, hq⟩
        replace hRS := hRS3.below hq
        replace q0 := btr q3 hq
        clear hS3 hbA3 hRS3 q3 hq
        have hRr := cell_lt hRS.1
        obtain ⟨P0, P1, P2, R0, R1, R2⟩ := hRS
        obtain ⟨t0_, t1_, t2_⟩ := set3 P0 P1 P2 (.slice none 0 0) (.int .i64 0) (.bool false)
        go_wp2
        refine bodyPost_ret (v := .tuple #[.agg #[.slice none 0 0, .int .i64 0, .bool false], .bool false]) (by simp [results, Tryd.results25, go_sem, t0_, t1_, t2_]) rfl ?_
        refine ⟨.inr ⟨fun Z b st h => ?_, rfl⟩, ?_⟩
        · exact ha ((hN Z b st h).1 k hlt)
        · exact bst (bst (bst q0 (Nat.le_refl _) _) (Nat.le_refl _) _) (Nat.le_refl _) _
    · have hke : k = 4 := by omega
      subst hke
      clear hbA hRS q0
      have hw : (Lib.cut (restL s.data.toList 4) [32]).1 = wordL s.data.toList 4 := rfl
      rw [hw] at hX
      have h60 := str60L (wordL s.data.toList 4)
      generalize hsd : decide (wordL s.data.toList 4 = [60]) = sd at h60
      go_wp2_with fail
      refine hX.mono ?_
      rintro e w3 ⟨rfl, u, hq, rfl⟩
      have hS3 := (hS.below hq).next (show X ≠ C by omega)
      have hRS3 := (hRS1.below hq).set (p := X) (o := 0) (.string ⟨(Lib.cut (restL s.data.toList 4) [32]).2.1.toArray⟩) (by omega)
      have q3 := bst (btr q1 hq) (p := ⟨X, 0, none⟩) (Nat.le_of_lt hx0) (.string ⟨(Lib.cut (restL s.data.toList 4) [32]).2.1.toArray⟩)
      generalize u.setCell ⟨X, 0, none⟩ (.string ⟨(Lib.cut (restL s.data.toList 4) [32]).2.1.toArray⟩) = w3 at *
      clear hX hw hS hRS1 q1 hq hXr
      have hS := hS3; have hRS1 := hRS3; have q1 := q3
      clear hS3 hRS3 q3
      have hX := next_any X (restL s.data.toList 5) w3 (hrl 5) hS.1 hS.2.1 (hM.out _ q1)
      have hXr : X < w3.heap.size := cell_lt hS.1
      have hw : (Lib.cut (restL s.data.toList 5) [32]).1 = wordL s.data.toList 5 := rfl
      rw [hw] at hX
      go_wp2_with fail
      refine hX.mono ?_
      rintro e w4 ⟨rfl, u, hq, rfl⟩
      have hS3 := (hS.below hq).next (show X ≠ C by omega)
      have hRS3 := (hRS1.below hq).set (p := X) (o := 0) (.string ⟨(Lib.cut (restL s.data.toList 5) [32]).2.1.toArray⟩) (by omega)
      have q3 := bst (btr q1 hq) (p := ⟨X, 0, none⟩) (Nat.le_of_lt hx0) (.string ⟨(Lib.cut (restL s.data.toList 5) [32]).2.1.toArray⟩)
      generalize u.setCell ⟨X, 0, none⟩ (.string ⟨(Lib.cut (restL s.data.toList 5) [32]).2.1.toArray⟩) = w4 at *
      clear hX hw hS hRS1 q1 hq hXr
      have hS := hS3; have hRS1 := hRS3; have q1 := q3
      clear hS3 hRS3 q3
      by_cases ha : ∃ v, Lib.atoiAll (wordL s.data.toList 5) = .ok v
      · obtain ⟨v, hv⟩ := ha
        have hnv := numW_ok hv
        go_wp2_with fail
        refine (atoi_ok (s := ⟨(wordL s.data.toList 5).toArray⟩) (hwl 5) hv _).mono ?_
        rintro e w5 ⟨rfl, hq⟩
        replace hS := hS.below hq
        replace hRS1 := hRS1.below hq
        replace q1 := btr q1 hq
        have hOI : OwnI w w5 (some ⟨C, 0, none⟩) 4 (fun j => numW (wordL s.data.toList j)) := .inr ⟨C, rfl, by omega, cell_lt (hS.2.2 0 (by omega)).1, fun j hj => by have := hS.2.2 j hj; rw [if_pos hj] at this; exact this⟩
        have hS5 : s.size ≠ 0 := fun h0 => by
          obtain ⟨v0, e0⟩ := HO.out 0 (by omega)
          exact hNe.out (by apply ba_ext; rw [bytes_list]; exact (List.eq_nil_of_length_eq_zero (by simpa using h0)).symm) v0 e0
        have hlow := hid (show w.heap.size ≤ C by omega)
        clear hq hS hv
        obtain ⟨l0, l1, l2⟩ := new3 w5 (.slice (some ⟨C, 0, none⟩) 4 4) (.int .i64 v) (.bool sd) 39
        have qB := bal (Below.refl w5.heap.size w5) (.cells #[.slice (some ⟨C, 0, none⟩) 4 4, .int .i64 v, .bool sd] 39)
        replace hRS1 := hRS1.below qB
        replace hOI := hOI.below qB
        replace q1 := btr q1 qB
        have hTT := lintext_any (some ⟨C, 0, none⟩) 4 4 (fun j => numW (wordL s.data.toList j)) v sd _ (by omega) hOI.ints (hT.out _ q1)
        go_upto_region 16 with fail
        generalize w5.alloc (.cells #[.slice (some ⟨C, 0, none⟩) 4 4, .int .i64 v, .bool sd] 39) = w6 at *
        generalize w5.heap.size = L at *
        have hL6 : L < w6.heap.size := cell_lt l0
        clear qB
        go_wp2_with fail
        refine hTT.mono ?_
        rintro e w7 ⟨rfl, hq⟩
        replace l0 := carry hq l0
        replace l1 := carry hq l1
        replace l2 := carry hq l2
        replace hRS1 := hRS1.below hq
        replace hOI := hOI.below hq
        replace q0 := btr q1 hq
        have hL7 : L < w7.heap.size := cell_lt l0
        clear hq hTT q1
        have hRr : w.heap.size < w7.heap.size := cell_lt hRS1.1
        have hR : LdOk s (fun j => numW (wordL s.data.toList j)) v sd ↔ s = ⟨(linTxt 4 (fun j => numW (wordL s.data.toList j)) v sd).toArray⟩ := ⟨ld_txt, ld_ne hS5⟩
        generalize (⟨(linTxt 4 (fun j => numW (wordL s.data.toList j)) v sd).toArray⟩ : ByteArray) = XX at hR ⊢
        have hRS := hRS1
        clear hRS1
        by_cases hk' : s = XX
        · have hk5 : (XX.toList == s.toList) = true := by rw [strs_eq]; simp [hk']
          obtain ⟨P0, P1, P2, R0, R1, R2⟩ := hRS
          obtain ⟨t0_, t1_, t2_⟩ := set3 P0 P1 P2 (.slice (some ⟨C, 0, none⟩) 4 4) (.int .i64 v) (.bool sd)
          have hOs := hid hOI
          clear hOI
          go_wp2
          refine bodyPost_ret (v := .tuple #[.agg #[.slice (some ⟨C, 0, none⟩) 4 4, .int .i64 v, .bool sd], .bool true]) (by simp [results, Tryd.results25, go_sem, t0_, t1_, t2_]) rfl ?_
          refine ⟨.inl ⟨_, v, sd, _, hR.2 hk', rfl, some ⟨C, 0, none⟩, 4, rfl, by omega, by omega, own_set3 hx0 hCX.out hOs.out _ _ _⟩, ?_⟩
          exact bst (bst (bst q0 (Nat.le_refl _) _) (Nat.le_refl _) _) (Nat.le_refl _) _
        · have hk5 : (XX.toList == s.toList) = false := by rw [strs_eq]; simp; exact fun h => hk' h.symm
          obtain ⟨P0, P1, P2, R0, R1, R2⟩ := hRS
          obtain ⟨t0_, t1_, t2_⟩ := set3 P0 P1 P2 (.slice none 0 0) (.int .i64 0) (.bool false)
          go_wp2
          refine bodyPost_ret (v := .tuple #[.agg #[.slice none 0 0, .int .i64 0, .bool false], .bool false]) (by simp [results, Tryd.results25, go_sem, t0_, t1_, t2_]) rfl ?_
          refine ⟨.inr ⟨fun Z b st h => ?_, rfl⟩, ?_⟩
          · obtain ⟨_, _, e1, e2, e3⟩ := hN Z b st h
            have e4 : sd = st := hsd.symm.trans e3
            have e5 : v = b := hnv.symm.trans e2
            subst e4; subst e5
            exact hk' (hR.1 (ld_congr (fun k hk => (e1 k hk).symm) h))
          · exact bst (bst (bst q0 (Nat.le_refl _) _) (Nat.le_refl _) _) (Nat.le_refl _) _
      · go_wp2_with fail
        refine (atoi_no (s := ⟨(wordL s.data.toList 5).toArray⟩) (hwl 5) (fun v h => ha ⟨v, h⟩) _ (hE1.out _ q1) (hE2.out _ q1)).mono ?_
        rintro e w5 ⟨⟨_, _, _, rfl⟩, hq⟩
        have hRS := hRS1.below hq
        have q0 := btr q1 hq
        clear hRS1 q1 hq
        have hRr := cell_lt hRS.1
        obtain ⟨P0, P1, P2, R0, R1, R2⟩ := hRS
        obtain ⟨t0_, t1_, t2_⟩ := set3 P0 P1 P2 (.slice none 0 0) (.int .i64 0) (.bool false)
        go_wp2
        refine bodyPost_ret (v := .tuple #[.agg #[.slice none 0 0, .int .i64 0, .bool false], .bool false]) (by simp [results, Tryd.results25, go_sem, t0_, t1_, t2_]) rfl ?_
        refine ⟨.inr ⟨fun Z b st h => ?_, rfl⟩, ?_⟩
        · exact ha (hN Z b st h).2.1
        · exact bst (bst (bst q0 (Nat.le_refl _) _) (Nat.le_refl _) _) (Nat.le_refl _) _
end Go.Proofs.YthcabejfmoedfaaDoor
