/- Several texts in one: SgA, SgB, SgC, SgD, SgE, SgF. -/
import Derived.Test.YtcnlolocppbcjaaDoorBSit
import Derived.Test.YtcnlolocppbcjaaDoorLdM
import Derived.Test.YtcnlolocppbcjaaDoorLdB
import Derived.Test.YtcnlolocppbcjaaDoorLinK
import Derived.Test.YtcnlolocppbcjaaDoorPlanB
import Derived.Test.YtcnlolocppbcjaaDoorLdA
import Derived.Test.YtcnlolocppbcjaaDoorBNum
import Derived.Test.YtcnlolocppbcjaaDoorBSig
namespace Go.Proofs.YtcnlolocppbcjaaDoor
set_option linter.unusedVariables false
set_option linter.unusedSimpArgs false
open Go.Shelf Go.RowKit Go.Joins
/-- the line of a symbol, without its end -/
def symK (nm : ByteArray) (n : Nat) (Z : Nat → Int) (s : Int) : List UInt8 := nm.data.toList ++ 32 :: ((if n = 0 then [45] else joinA Z n) ++ 32 :: [dgB s])
theorem symL_K (nm : ByteArray) (n : Nat) (Z : Nat → Int) (s : Int) : symL nm n Z s = symK nm n Z s ++ [10] := by
  unfold symL symK; simp
theorem dgB_mem (z : Int) : dgB z = 48 ∨ dgB z = 49 := by unfold dgB; split <;> simp
theorem joinA_mem {Z : Nat → Int} {c : UInt8} : ∀ {n}, c ∈ joinA Z n → c = 48 ∨ c = 49
  | 0, h => by simp [joinA] at h
  | n + 1, h => by
    rw [joinA, List.mem_append] at h
    rcases h with h | h
    · exact joinA_mem h
    · simp only [List.mem_singleton] at h; rw [h]; exact dgB_mem _
theorem joinA_at {Z : Nat → Int} : ∀ {n j}, j < n → (joinA Z n)[j]? = some (dgB (Z j))
  | 0, j, h => by omega
  | n + 1, j, h => by
    rw [joinA]
    by_cases hj : j < n
    · rw [List.getElem?_append_left (by rw [joinA_len]; exact hj)]; exact joinA_at hj
    · obtain rfl : j = n := by omega
      rw [List.getElem?_append_right (by rw [joinA_len]; exact Nat.le_refl _), joinA_len]; simp
/-- the number that a byte says -/
def byN (l : List UInt8) (j : Nat) : Int := ((l.getD j 0).toNat : Int) - 48
theorem byN_join {Z : Nat → Int} {n j : Nat} (h : j < n) (hs : sortB (Z j) = true) : byN (joinA Z n) j = Z j := by
  unfold byN
  rw [List.getD_eq_getElem?_getD, joinA_at h]
  rcases sortB_01 hs with h0 | h0 <;> rw [h0] <;> decide
/-- how many sorts a word of sorts has -/
def cntA (l : List UInt8) : Nat := if l = [45] then 0 else l.length
theorem nm_32 {nm : ByteArray} (h : nameB nm = true) : (32 : UInt8) ∉ nm.data.toList := by
  intro hm
  obtain ⟨j, hj⟩ := List.mem_iff_getElem?.1 hm
  have hl : j < nm.data.toList.length := (List.getElem?_eq_some_iff.1 hj).1
  have hz : j < nm.size := by simpa using hl
  have h1 := (nameB_iff.1 h).2.2 j hz
  rw [get_bang hz] at h1
  have h2 : nm[j] = 32 := by
    have := (List.getElem?_eq_some_iff.1 hj).2
    simp at this
    exact this
  rw [h2] at h1
  exact absurd h1 (by decide)
theorem args_32 (n : Nat) (Z : Nat → Int) : (32 : UInt8) ∉ (if n = 0 then [45] else joinA Z n) := by
  split
  · decide
  · intro h; rcases joinA_mem h with h | h <;> exact absurd h (by decide)
theorem dg_32 (s : Int) : (32 : UInt8) ∉ [dgB s] := by
  intro h
  simp only [List.mem_singleton] at h
  rcases dgB_mem s with h1 | h1 <;> rw [h1] at h <;> exact absurd h (by decide)
theorem symK_words {nm : ByteArray} {n : Nat} {Z : Nat → Int} {s : Int} (h : symB nm n Z s = true) :
    wordL (symK nm n Z s) 0 = nm.data.toList ∧ wordL (symK nm n Z s) 1 = (if n = 0 then [45] else joinA Z n) ∧ wordL (symK nm n Z s) 2 = [dgB s] := by
  have h0 : restL (symK nm n Z s) 0 = nm.data.toList ++ 32 :: ((if n = 0 then [45] else joinA Z n) ++ 32 :: [dgB s]) := rfl
  obtain ⟨w0, h1⟩ := rest_one h0 (nm_32 (symB_iff.1 h).1)
  obtain ⟨w1, h2⟩ := rest_one h1 (args_32 n Z)
  refine ⟨w0, w1, ?_⟩
  unfold wordL; rw [h2, cut_none (dg_32 s)]
theorem cnt_args {n : Nat} {Z : Nat → Int} : cntA (if n = 0 then [45] else joinA Z n) = n := by
  unfold cntA
  by_cases h : n = 0
  · rw [if_pos h, if_pos rfl, h]
  · rw [if_neg h, if_neg ?_, joinA_len]
    intro e
    have hm : (45 : UInt8) ∈ joinA Z n := by rw [e]; simp
    rcases joinA_mem hm with h1 | h1 <;> exact absurd h1 (by decide)
theorem byN_args {n : Nat} {Z : Nat → Int} {j : Nat} (hj : j < n) (hs : sortB (Z j) = true) : byN (if n = 0 then [45] else joinA Z n) j = Z j := by
  rw [if_neg (by omega)]; exact byN_join hj hs
theorem atoi_dg {s : Int} (h : sortB s = true) : Lib.atoiAll [dgB s] = .ok s := by
  rcases sortB_01 h with rfl | rfl <;> decide
/-- the line is that of the symbol -/
def LnOk (l : List UInt8) (nm : ByteArray) (n : Nat) (Z : Nat → Int) (s : Int) : Prop := symB nm n Z s = true ∧ l = symK nm n Z s
theorem ln_read {l : List UInt8} {nm : ByteArray} {n : Nat} {Z : Nat → Int} {s : Int} (h : LnOk l nm n Z s) :
    (⟨(wordL l 0).toArray⟩ : ByteArray) = nm ∧ cntA (wordL l 1) = n ∧ (∀ j, j < n → byN (wordL l 1) j = Z j) ∧ Lib.atoiAll (wordL l 2) = .ok s := by
  obtain ⟨hv, rfl⟩ := h
  obtain ⟨w0, w1, w2⟩ := symK_words hv
  obtain ⟨_, _, h3, h4⟩ := symB_iff.1 hv
  rw [w0, w1, w2]
  exact ⟨list_bytes nm, cnt_args, fun j hj => byN_args hj (h3 j hj), atoi_dg h4⟩
/-- what a reader of lines answers: some symbol of new memory, and of a symbol's line that symbol -/
def LnP (W : World) (l : List UInt8) (e : Ending) (w' : World) : Prop :=
  ∃ nm A n c Z S, e = .returned (.agg #[.string nm, .slice A n c, .int .i64 S]) ∧ nm.size ≤ l.length ∧ n ≤ l.length ∧ n ≤ c ∧ c ≤ 9223372036854775807 ∧ OwnI W w' A n Z ∧ (∀ nm' n' Z' s', LnOk l nm' n' Z' s' → nm = nm' ∧ n = n' ∧ (∀ j, j < n → Z j = Z' j) ∧ S = s')
end Go.Proofs.YtcnlolocppbcjaaDoor

namespace Go.Proofs.YtcnlolocppbcjaaDoor
set_option linter.unusedVariables false
set_option linter.unusedSimpArgs false
open Go.Shelf Go.RowKit Go.Joins
theorem low_keep {lo b : Nat} {wr w2 w3 : World} {Y : List Value} {k : Nat} {v : Value} (x : Value) (hb : b < lo) (hbr : b < wr.heap.size) (ho : wr.ownsRow lo 3 1 v k Y) (hq : Below wr.heap.size wr w2) (hg : (w2.alloc (.cells #[x] 3)).grownBy w3 v.ownBlock) :
    ∀ o, w3.cell? ⟨b, o, none⟩ = wr.cell? ⟨b, o, none⟩ ∧ w3.frozen? ⟨b, o, none⟩ = wr.frozen? ⟨b, o, none⟩ := fun o => by
  have hne : v.ownBlock ≠ some b := by
    intro he
    have := (ho.lt b he).1
    omega
  have hb2 : b < w2.heap.size := Nat.lt_of_lt_of_le hbr hq.size
  have hblk : w3.heap[b]? = wr.heap[b]? := by
    refine (hg.block b (by simp; omega) (Ne.symm hne)).trans ?_
    exact ((Below.refl w2.heap.size w2).alloc (Nat.le_refl _) _).block b hb2 |>.trans (hq.block b hbr)
  exact ⟨World.cell?_of_block (w := wr) (a := ⟨b, o, none⟩) hblk, World.frozen?_of_block (w := wr) (a := ⟨b, o, none⟩) hblk⟩
theorem low_bel {lo l0 : Nat} {w0 wr w2 w3 : World} {Y : List Value} {k : Nat} {v : Value} (x : Value) (hl : l0 ≤ lo) (hlr : l0 ≤ wr.heap.size)
    (ho : wr.ownsRow lo 3 1 v k Y) (hq : Below wr.heap.size wr w2) (hg : (w2.alloc (.cells #[x] 3)).grownBy w3 v.ownBlock) (hb : Below l0 w0 wr) : Below l0 w0 w3 := by
  refine (hb.trans ((hq.mono hlr).alloc (by have := hq.size; omega) _)).grown hg (by have := hq.size; simp; omega) ?_
  intro j hj
  have := (ho.lt j hj).1
  omega
/-- a struct of a symbol that is built: its cells may be written -/
def YSt (B : Nat) (w : World) (a b c : Value) : Prop :=
  w.cell? ⟨B, 0, none⟩ = some a ∧ w.cell? ⟨B, 1, none⟩ = some b ∧ w.cell? ⟨B, 2, none⟩ = some c ∧ w.frozen? ⟨B, 0, none⟩ = false ∧ w.frozen? ⟨B, 1, none⟩ = false ∧ w.frozen? ⟨B, 2, none⟩ = false
theorem YSt.below {B : Nat} {w w' : World} {a b c : Value} (h : YSt B w a b c) (hq : Below w.heap.size w w') : YSt B w' a b c :=
  ⟨carry hq h.1, carry hq h.2.1, carry hq h.2.2.1, carryf hq h.2.2.2.1 (cell_lt h.1), carryf hq h.2.2.2.2.1 (cell_lt h.1), carryf hq h.2.2.2.2.2 (cell_lt h.1)⟩
theorem YSt.set {B p o : Nat} {w : World} {a b c : Value} (v : Value) (hp : p ≠ B) (h : YSt B w a b c) : YSt B (w.setCell ⟨p, o, none⟩ v) a b c :=
  ⟨by rw [World.cell?_setCell_other _ _ _ _ (by simp <;> omega)]; exact h.1, by rw [World.cell?_setCell_other _ _ _ _ (by simp <;> omega)]; exact h.2.1, by rw [World.cell?_setCell_other _ _ _ _ (by simp <;> omega)]; exact h.2.2.1, by simpa [go_sem] using h.2.2.2.1, by simpa [go_sem] using h.2.2.2.2.1, by simpa [go_sem] using h.2.2.2.2.2⟩
theorem YSt.new (w : World) (a b c : Value) (t : TypeId) : YSt w.heap.size (w.alloc (.cells #[a, b, c] t)) a b c := by
  refine ⟨?_, ?_, ?_, ?_, ?_, ?_⟩ <;> simp [go_sem]
theorem YSt.set1 {B : Nat} {w : World} {a b c : Value} (v : Value) (h : YSt B w a b c) : YSt B (w.setCell ⟨B, 1, none⟩ v) a v c :=
  ⟨by rw [World.cell?_setCell_other _ _ _ _ (by simp <;> omega)]; exact h.1, World.cell?_setCell_same _ _ _ h.2.1, by rw [World.cell?_setCell_other _ _ _ _ (by simp <;> omega)]; exact h.2.2.1, by simpa [go_sem] using h.2.2.2.1, by simpa [go_sem] using h.2.2.2.2.1, by simpa [go_sem] using h.2.2.2.2.2⟩
theorem YSt.set2 {B : Nat} {w : World} {a b c : Value} (v : Value) (h : YSt B w a b c) : YSt B (w.setCell ⟨B, 2, none⟩ v) a b v :=
  ⟨by rw [World.cell?_setCell_other _ _ _ _ (by simp <;> omega)]; exact h.1, by rw [World.cell?_setCell_other _ _ _ _ (by simp <;> omega)]; exact h.2.1, World.cell?_setCell_same _ _ _ h.2.2.1, by simpa [go_sem] using h.2.2.2.1, by simpa [go_sem] using h.2.2.2.2.1, by simpa [go_sem] using h.2.2.2.2.2⟩
theorem YSt.same {B : Nat} {w w' : World} {a b c : Value} (h : YSt B w a b c) (hk : ∀ o, w'.cell? ⟨B, o, none⟩ = w.cell? ⟨B, o, none⟩ ∧ w'.frozen? ⟨B, o, none⟩ = w.frozen? ⟨B, o, none⟩) : YSt B w' a b c :=
  ⟨(hk 0).1.trans h.1, (hk 1).1.trans h.2.1, (hk 2).1.trans h.2.2.1, (hk 0).2.trans h.2.2.2.1, (hk 1).2.trans h.2.2.2.2.1, (hk 2).2.trans h.2.2.2.2.2⟩
theorem YSt.far {B l : Nat} {w w' : World} {a b c : Value} (h : YSt B w a b c) (hB : B < l) (hb : Below l w w') : YSt B w' a b c :=
  ⟨(hb.cell (p := ⟨B, 0, none⟩) hB).trans h.1, (hb.cell (p := ⟨B, 1, none⟩) hB).trans h.2.1, (hb.cell (p := ⟨B, 2, none⟩) hB).trans h.2.2.1, (hb.frozen (p := ⟨B, 0, none⟩) hB).trans h.2.2.2.1, (hb.frozen (p := ⟨B, 1, none⟩) hB).trans h.2.2.2.2.1, (hb.frozen (p := ⟨B, 2, none⟩) hB).trans h.2.2.2.2.2⟩
/-- the box of the text that is left -/
def XSt (X : Nat) (l : List UInt8) (m : Nat) (w : World) : Prop := w.cell? ⟨X, 0, none⟩ = some (.string ⟨(restL l m).toArray⟩) ∧ w.frozen? ⟨X, 0, none⟩ = false
theorem XSt.below {X : Nat} {l : List UInt8} {m : Nat} {w w' : World} (h : XSt X l m w) (hq : Below w.heap.size w w') : XSt X l m w' := ⟨carry hq h.1, carryf hq h.2 (cell_lt h.1)⟩
theorem XSt.next {X : Nat} {l : List UInt8} {m : Nat} {w : World} (h : XSt X l m w) : XSt X l (m + 1) (w.setCell ⟨X, 0, none⟩ (.string ⟨(Lib.cut (restL l m) [32]).2.1.toArray⟩)) := ⟨World.cell?_setCell_same _ _ _ h.1, by simpa [go_sem] using h.2⟩
theorem XSt.far {X r : Nat} {l : List UInt8} {m : Nat} {w w' : World} (h : XSt X l m w) (hX : X < r) (hb : Below r w w') : XSt X l m w' := ⟨(hb.cell (p := ⟨X, 0, none⟩) hX).trans h.1, (hb.frozen (p := ⟨X, 0, none⟩) hX).trans h.2⟩
theorem vals_congr {n : Nat} {Z Y : Nat → Int} (h : ∀ j, j < n → Z j = Y j) : vals n Z = vals n Y := by
  unfold vals
  apply List.map_congr_left
  intro j hj
  rw [h j (List.mem_range.1 hj)]
theorem atoi_two {s : ByteArray} (hs : s.size ≤ 1048576) (w : World) (h1 : ErrAt w 1) (h2 : ErrAt w 2) :
    Calls Tryd.prog 25 #[.string s] w fun e w' => (∃ S x, e = .returned (.tuple #[.int .i64 S, x]) ∧ ∀ v, Lib.atoiAll s.data.toList = .ok v → S = v) ∧ Below w.heap.size w w' := by
  by_cases h : ∃ v, Lib.atoiAll s.data.toList = .ok v
  · obtain ⟨v, h⟩ := h
    refine (atoi_ok hs h w).mono ?_
    rintro e w' ⟨rfl, hb⟩
    exact ⟨⟨v, _, rfl, fun v' h' => by rw [h] at h'; injection h'⟩, hb⟩
  · refine (atoi_no hs (fun v e => h ⟨v, e⟩) w h1 h2).mono ?_
    rintro e w' ⟨⟨v, T, y, rfl⟩, hb⟩
    exact ⟨⟨v, _, rfl, fun v' h' => absurd ⟨v', h'⟩ h⟩, hb⟩
/-- an owned row of n numbers is a row of new memory, also if it is empty -/
theorem own_any {W w : World} {base n : Nat} {v : Value} {Z : Nat → Int} (hB : W.heap.size ≤ base) (h : w.ownsRow base 3 1 v n (vals n Z)) :
    ∃ A c, v = .slice A n c ∧ n ≤ c ∧ c ≤ 9223372036854775807 ∧ OwnI W w A n Z := by
  by_cases h0 : 0 < n
  · exact own_new h0 hB h
  · obtain rfl : n = 0 := by omega
    obtain ⟨_, ⟨rfl, _⟩ | ⟨g, cap, cur, rfl, _, _, h1, h2, _⟩⟩ := h
    · exact ⟨none, 0, rfl, Nat.le_refl _, by omega, .inl rfl⟩
    · unfold maxLen at h2; exact ⟨_, cap, rfl, h1, by omega, .inl rfl⟩
theorem run_conv {o : Oper} {x : Operand} (ho : o.op = .convert 5 3 x) {a : Act} {c : Int} (hx : a.eval x = .int .u8 c) (h : 0 ≤ c ∧ c < 256) (w : World) :
    (execOp a.eval o).run Tryd.prog w = .ok (.value (.int .i64 c)) w := by
  obtain ⟨h0, h1⟩ := h
  unfold execOp
  rw [ho]
  simp only [hx]
  simp [go_sem, IntKind.wrap, IntKind.bits, IntKind.signed]
  omega
theorem str45 (t : ByteArray) : (t.toList == [45]) = decide (t.data.toList = [45]) := by
  rw [Bool.eq_iff_iff, ByteArray.toList_eq]
  simp only [beq_iff_eq, decide_eq_true_eq]
set_option maxRecDepth 100000 in
set_option maxHeartbeats 8000000 in
theorem readsym_any (s : ByteArray) (w : World) (hs : s.size ≤ 1048576) (hm : MaxAt w) (h1 : ErrAt w 1) (h2 : ErrAt w 2) :
    Calls Tryd.prog 14 #[.string s] w fun e w' => LnP w s.data.toList e w' ∧ Below w.heap.size w w' := by
  have hN := hid (fun nm n Z t (h : LnOk s.data.toList nm n Z t) => ln_read h)
  have hM := hid (fun W (hb : Below w.heap.size w W) => hm.below hb)
  have hE1 := hid (fun W (hb : Below w.heap.size w W) => h1.below hb)
  have hE2 := hid (fun W (hb : Below w.heap.size w W) => h2.below hb)
  clear hm h1 h2
  have hsl : s.data.toList.length ≤ 1048576 := by simpa using hs
  have hrl := fun k => Nat.le_trans (rest_len s.data.toList k) hsl
  have hwl0 := fun k => word_len s.data.toList k
  have hwl := fun k => Nat.le_trans (hwl0 k) hsl
  have hsb := hid (show s = ⟨(restL s.data.toList 0).toArray⟩ from (list_bytes s).symm)
  have hR := YSt.new w (.string ⟨#[]⟩) (.slice none 0 0) (.int .i64 0) 34
  have q0 := bal (Below.refl w.heap.size w) (.cells #[.string ⟨#[]⟩, .slice none 0 0, .int .i64 0] 34)
  have hwz := hid (show w.heap.size < (w.alloc (.cells #[.string ⟨#[]⟩, .slice none 0 0, .int .i64 0] 34)).heap.size by simp)
  go_enter Tryd.func14, Tryd.ntmps14
  go_upto_region 1 with fail
  generalize w.alloc (.cells #[.string ⟨#[]⟩, .slice none 0 0, .int .i64 0] 34) = w1 at *
  go_wp2_with fail
  refine (scan_new s w1).mono ?_
  rintro e w2 ⟨rfl, rfl⟩
  have hX : XSt w1.heap.size s.data.toList 0 (w1.alloc (.cells #[.string s] 9)) := ⟨by rw [← hsb.out]; simp [go_sem], by simp [go_sem]⟩
  have qA := bal (Below.refl w1.heap.size w1) (.cells #[.string s] 9)
  replace hR := hR.below qA
  replace q0 := btr q0 qA
  have hx0 := hid hwz.out
  clear hwz
  go_upto_region 2 with fail
  have hzA : (w1.alloc (.cells #[.string s] 9)).heap.size = w1.heap.size + 1 := by simp
  have hzA' := hid hzA
  clear hzA qA
  generalize w1.alloc (.cells #[.string s] 9) = wA at *
  generalize hX_ : w1.heap.size = X at *
  clear hX_
  have hxr : w.heap.size < X := hx0.out
  clear hx0
  have hC := next_any X (restL s.data.toList 0) wA (hrl 0) hX.1 hX.2 (hM.out _ q0)
  have hw : (Lib.cut (restL s.data.toList 0) [32]).1 = wordL s.data.toList 0 := rfl
  rw [hw] at hC
  go_wp2_with fail
  refine hC.mono ?_
  rintro e w3 ⟨rfl, u, hq, rfl⟩
  replace hR := (hR.below hq).set (p := X) (o := 0) (.string ⟨(Lib.cut (restL s.data.toList 0) [32]).2.1.toArray⟩) (by omega)
  have hzu := hq.size
  replace q0 := bst (btr q0 hq) (p := ⟨X, 0, none⟩) (Nat.le_of_lt hxr) (.string ⟨(Lib.cut (restL s.data.toList 0) [32]).2.1.toArray⟩)
  replace hX := (hX.below hq).next
  have hzX : X < (u.setCell ⟨X, 0, none⟩ (.string ⟨(Lib.cut (restL s.data.toList 0) [32]).2.1.toArray⟩)).heap.size := cell_lt hX.1
  generalize u.setCell ⟨X, 0, none⟩ (.string ⟨(Lib.cut (restL s.data.toList 0) [32]).2.1.toArray⟩) = w3 at *
  clear hC hw hq hzu hzA'
  have hY := YSt.new w3 (.string ⟨(wordL s.data.toList 0).toArray⟩) (.slice none 0 0) (.int .i64 0) 34
  have qB := bal (Below.refl w3.heap.size w3) (.cells #[.string ⟨(wordL s.data.toList 0).toArray⟩, .slice none 0 0, .int .i64 0] 34)
  replace hR := hR.below qB
  replace hX := hX.below qB
  replace q0 := btr q0 qB
  have hBz : (w3.alloc (.cells #[.string ⟨(wordL s.data.toList 0).toArray⟩, .slice none 0 0, .int .i64 0] 34)).heap.size = w3.heap.size + 1 := by simp
  have hBz' := hid hBz
  clear hBz qB
  go_upto_region 3 with fail
  generalize w3.alloc (.cells #[.string ⟨(wordL s.data.toList 0).toArray⟩, .slice none 0 0, .int .i64 0] 34) = w4 at *
  generalize w3.heap.size = B at *
  have hC := next_any X (restL s.data.toList 1) w4 (hrl 1) hX.1 hX.2 (hM.out _ q0)
  have hw : (Lib.cut (restL s.data.toList 1) [32]).1 = wordL s.data.toList 1 := rfl
  rw [hw] at hC
  go_wp2_with fail
  refine hC.mono ?_
  rintro e w5 ⟨rfl, u, hq, rfl⟩
  replace hR := (hR.below hq).set (p := X) (o := 0) (.string ⟨(Lib.cut (restL s.data.toList 1) [32]).2.1.toArray⟩) (by omega)
  replace hY := (hY.below hq).set (p := X) (o := 0) (.string ⟨(Lib.cut (restL s.data.toList 1) [32]).2.1.toArray⟩) (by omega)
  have hz5 := hq.size
  rw [hBz'.out] at hz5
  replace q0 := bst (btr q0 hq) (p := ⟨X, 0, none⟩) (Nat.le_of_lt hxr) (.string ⟨(Lib.cut (restL s.data.toList 1) [32]).2.1.toArray⟩)
  replace hX := (hX.below hq).next
  have hz5' : B + 1 ≤ (u.setCell ⟨X, 0, none⟩ (.string ⟨(Lib.cut (restL s.data.toList 1) [32]).2.1.toArray⟩)).heap.size := by simpa using hz5
  generalize u.setCell ⟨X, 0, none⟩ (.string ⟨(Lib.cut (restL s.data.toList 1) [32]).2.1.toArray⟩) = w5 at *
  have hB4 := hid hBz'.out
  clear hC hw hq hz5 hBz'
  have hAN : ∃ A1 : ByteArray, A1 = ⟨(wordL s.data.toList 1).toArray⟩ := ⟨_, rfl⟩
  obtain ⟨A1, hA1⟩ := hAN
  rw [← hA1]
  have hA1l : A1.data.toList = wordL s.data.toList 1 := by rw [hA1, bytes_list]
  have hA1z : A1.size = (wordL s.data.toList 1).length := by rw [← hA1l]; simp
  have h45 := str45 A1
  have HA1 := hid hA1l
  clear hA1 hA1l
  have hzA1 : A1.size ≤ 1048576 := by rw [hA1z]; exact hwl 1
  have HZ1 := hid hA1z
  clear hA1z
  by_cases ha : A1.data.toList = [45]
  · rw [decide_eq_true ha] at h45
    go_upto_region 10 with fail
    have ho := World.ownsRow_nil w5 (B + 1) 3 1
    replace ho : w5.ownsRow (B + 1) 3 1 (.slice none 0 0) 0 (vals 0 (byN (wordL s.data.toList 1))) := ho
    have hC := next_any X (restL s.data.toList 2) w5 (hrl 2) hX.1 hX.2 (hM.out _ q0)
    have hw : (Lib.cut (restL s.data.toList 2) [32]).1 = wordL s.data.toList 2 := rfl
    rw [hw] at hC
    go_wp2_with fail
    refine hC.mono ?_
    rintro e w6 ⟨rfl, u, hq, rfl⟩
    replace hR := (hR.below hq).set (p := X) (o := 0) (.string ⟨(Lib.cut (restL s.data.toList 2) [32]).2.1.toArray⟩) (by omega)
    replace hY := (hY.below hq).set (p := X) (o := 0) (.string ⟨(Lib.cut (restL s.data.toList 2) [32]).2.1.toArray⟩) (by omega)
    replace ho := ownsRow_setCell_below (own_below hq ho) (a := ⟨X, 0, none⟩) (show X < B + 1 by omega) (.string ⟨(Lib.cut (restL s.data.toList 2) [32]).2.1.toArray⟩)
    replace q0 := bst (btr q0 hq) (p := ⟨X, 0, none⟩) (Nat.le_of_lt hxr) (.string ⟨(Lib.cut (restL s.data.toList 2) [32]).2.1.toArray⟩)
    generalize u.setCell ⟨X, 0, none⟩ (.string ⟨(Lib.cut (restL s.data.toList 2) [32]).2.1.toArray⟩) = w6 at *
    clear hC hw hq hX
    go_wp2_with fail
    refine (atoi_two (s := ⟨(wordL s.data.toList 2).toArray⟩) (hwl 2) _ (hE1.out _ q0) (hE2.out _ q0)).mono ?_
    rintro e w7 ⟨⟨S, xx, rfl, hSv⟩, hq⟩
    replace hR := hR.below hq
    replace hY := hY.below hq
    replace ho := own_below hq ho
    replace q0 := btr q0 hq
    have hSv' := hid hSv
    clear hq hSv
    obtain ⟨A', c', e1, hc1, hc2, hO⟩ := own_any (W := w4) (by rw [hB4.out]; exact Nat.le_refl _) ho
    rw [e1] at hY
    clear e1
    obtain ⟨y0, y1, y2, f0, f1, f2⟩ := hY
    have hB7 : B < w7.heap.size := cell_lt y0
    have hYs := hid (YSt.set2 (.int .i64 S) ⟨y0, y1, y2, f0, f1, f2⟩)
    have hRs := hid (hR.set (p := B) (o := 2) (.int .i64 S) (by omega))
    have hOs := hid (hO.set (p := B) (o := 2) (.int .i64 S) (by rw [hB4.out]; omega))
    have qs := hid (bst q0 (p := ⟨B, 2, none⟩) (show w.heap.size ≤ B by omega) (.int .i64 S))
    clear hR hO q0 ho
    go_upto_region 11 with fail
    replace hYs := hYs.out
    replace hRs := hRs.out
    replace hOs := hOs.out
    replace qs := qs.out
    clear y0 y1 y2 f0 f1 f2
    generalize w7.setCell ⟨B, 2, none⟩ (.int .i64 S) = w8 at *
    obtain ⟨y0, y1, y2, _, _, _⟩ := hYs
    obtain ⟨P0, P1, P2, R0, R1, R2⟩ := hRs
    have hB8 : B < w8.heap.size := cell_lt y0
    have hR8 : w.heap.size < w8.heap.size := cell_lt P0
    obtain ⟨t0_, t1_, t2_⟩ := set3 P0 P1 P2 (.string ⟨(wordL s.data.toList 0).toArray⟩) (.slice A' 0 c') (.int .i64 S)
    have hlw : w.heap.size < w4.heap.size := by rw [hB4.out]; omega
    have hOf := hid ((((hOs.set (p := w.heap.size) (o := 0) (.string ⟨(wordL s.data.toList 0).toArray⟩) hlw).set (p := w.heap.size) (o := 1) (.slice A' 0 c') hlw).set (p := w.heap.size) (o := 2) (.int .i64 S) hlw).old (W := w) (Nat.le_of_lt hlw))
    clear hOs
    have qf := hid (bst (bst (bst qs (p := ⟨w.heap.size, 0, none⟩) (Nat.le_refl _) (.string ⟨(wordL s.data.toList 0).toArray⟩)) (p := ⟨w.heap.size, 1, none⟩) (Nat.le_refl _) (.slice A' 0 c')) (p := ⟨w.heap.size, 2, none⟩) (Nat.le_refl _) (.int .i64 S))
    clear qs
    go_wp2
    refine bodyPost_ret (v := .agg #[.string ⟨(wordL s.data.toList 0).toArray⟩, .slice A' 0 c', .int .i64 S]) (by simp [results, Tryd.results14, go_sem, t0_, t1_, t2_]) rfl ?_
    refine ⟨⟨_, A', 0, c', byN (wordL s.data.toList 1), S, rfl, by show (wordL s.data.toList 0).length ≤ _; exact hwl0 0, Nat.zero_le _, hc1, hc2, hOf.out, fun nm' n' Z' s' h => ?_⟩, qf.out⟩
    obtain ⟨g0, g1, g2, g3⟩ := hN.out nm' n' Z' s' h
    have gz : n' = 0 := by rw [← g1]; unfold cntA; rw [if_pos (by rw [← HA1.out]; exact ha)]
    exact ⟨g0, gz.symm, fun j hj => absurd hj (by omega), hSv'.out _ g3⟩
  · rw [decide_eq_false ha] at h45
    go_upto_region 6 with fail
    have hBr0 : B < w5.heap.size := by omega
    obtain ⟨i0, hi, hz0, hz1, hz2⟩ := info_parts infoI
    have hv0 := hid (fun (V : Nat → Int) => World.ownsRow_nil w5 (B + 1) 3 1)
    go_loopw [18] (fun i wr => ∃ (k : Nat) (v : Value), k ≤ A1.size ∧ i = .int .i64 k ∧ wr.ownsRow (B + 1) 3 1 v k (vals k (byN (wordL s.data.toList 1))) ∧ YSt B wr (.string ⟨(wordL s.data.toList 0).toArray⟩) v (.int .i64 0) ∧ Below B w5 wr) (fun i _ => A1.size - (intOf i).toNat)
    case atStart => exact ⟨0, _, Nat.zero_le _, rfl, World.ownsRow_nil _ _ _ _, hY, Below.refl _ _⟩
    case round =>
      obtain ⟨k, v, hk, rfl, ho, hYr, hbr⟩ := hrel
      obtain ⟨y0, y1, y2, f0, f1, f2⟩ := hYr
      have hBr : B < wr.heap.size := cell_lt y0
      by_cases hlt : k < A1.size
      · have hbyt : byN (wordL s.data.toList 1) k = ((A1[k]).toNat : Int) - 48 := by
          have hk' : k < A1.data.toList.length := by simpa using hlt
          rw [← HA1.out]
          unfold byN
          rw [List.getD_eq_getElem?_getD, List.getElem?_eq_getElem hk']
          rfl
        have hbz : (A1[k]).toNat < 256 := (A1[k]).toNat_lt
        have HB := hid hbyt
        generalize hcc : A1[k] = cc at hbyt hbz
        have hcc' := hid hcc
        clear hbyt
        have gc := @gro_cell wr
        go_upto_region 8 with fail
        refine region_plan (.takes [0, 1, 2, 3, 4] (.make 5 (.takes [6] (.make 7 .fin)))) 8 rfl (by kernel_rfl) ?_
        refine plan_takes ?_; simp only [pickOps, List.getElem?_cons_zero, List.getElem?_cons_succ]; (repeat (go_big_quiet_step (fail))); refine wpQuiet_nil ?_
        have hB := (Below.refl wr.heap.size wr).drew
        generalize hw2 : wr.drew = w2 at hB ⊢
        clear hw2 gc
        refine plan_val rfl rfl (.int .i64 (cc.toNat : Int)) (w'' := w2) (by exact run_conv rfl (by kernel_rfl) (by omega) _) hB ?_
        refine plan_takes ?_; simp only [pickOps, List.getElem?_cons_zero, List.getElem?_cons_succ, Act.put, List.setIfInBounds_toArray, List.set_cons_succ, List.set_cons_zero]; (repeat (go_big_quiet_step (fail))); refine wpQuiet_nil ?_
        refine plan_val rfl rfl (.slice (some ⟨w2.heap.size, 0, none⟩) 1 1) (w'' := w2.alloc (.cells #[.int .i64 ((cc.toNat : Int) - 48)] 3)) (by kernel_rfl) (hB.alloc hB.size _) ?_
        refine plan_fin ?_
        simp only [List.drop_succ_cons, List.drop_zero, Act.put, List.setIfInBounds_toArray, List.set_cons_succ, List.set_cons_zero]
        have ho2 := own_below hB ho
        have hx3 : B < w2.heap.size := Nat.lt_of_lt_of_le hBr hB.size
        have hnews : ∀ (j : Nat) (u : Value), ([Value.int .i64 ((cc.toNat : Int) - 48)] : List Value)[j]? = some u → (w2.alloc (.cells #[.int .i64 ((cc.toNat : Int) - 48)] 3)).cell? ((⟨w2.heap.size, 0, none⟩ : Addr).add j) = some u := new_one w2 _ _
        have hone : ∀ u ∈ ([Value.int .i64 ((cc.toNat : Int) - 48)] : List Value), u.oneCell' = true := fun u hu => by simp at hu; subst hu; rfl
        have hYY : YSt B wr (.string ⟨(wordL s.data.toList 0).toArray⟩) v (.int .i64 0) := ⟨y0, y1, y2, f0, f1, f2⟩
        have hval : Value.int .i64 ((cc.toNat : Int) - 48) = .int .i64 (byN (wordL s.data.toList 1) k) := by rw [HB.out, hcc'.out]
        have HV := hid hval
        clear hval y0 y1 y2 f0 f1 f2
        have hYh := hid hYY
        clear hYY
        go_wp2_with ((at_builtin; refine wpList_append_own _ rfl _ _ 32 rfl (B + 1) 3 i0 (.int .i64 0) 1 8 Tryd.underlying32 hi hz0 hz1 hz2 rfl (by decide) _ _ _ rfl (ho2.alloc _) ⟨w2.heap.size, 0, none⟩ 1 1 [.int .i64 ((cc.toNat : Int) - 48)] rfl rfl hnews hone (by unfold maxLen; omega) (by omega) (by simp; omega) ?_; intro v' w3 hown hgrow _; obtain ⟨A', c', rfl⟩ := own_slice hown; have hkp := hid (low_keep (.int .i64 ((cc.toNat : Int) - 48)) (Nat.lt_succ_self B) hBr ho hB hgrow); have hY3 := hid (hYh.out.same hkp.out); have hb3 := hid (low_bel (.int .i64 ((cc.toNat : Int) - 48)) (Nat.le_succ B) (Nat.le_of_lt hBr) ho hB hgrow hbr); have m1 := hY3.out.2.1; have m1f := hY3.out.2.2.2.2.1; rw [HV.out, ← vals_snoc] at hown; have hown' := hid (ownsRow_setCell_below hown (a := ⟨B, 1, none⟩) (Nat.lt_succ_self B) (.slice A' (k + 1) c')); have hYn := hid (hY3.out.set1 (.slice A' (k + 1) c')); have hbn := hid (hb3.out.setCell (p := ⟨B, 1, none⟩) (Nat.le_refl B) (.slice A' (k + 1) c')); clear hown hgrow))
        go_roundw
        case rel => exact ⟨k + 1, _, by omega, by go_num, hown'.out, hYn.out, hbn.out⟩
        case measure => simp [intOf]; omega
      · have hke : k = A1.size := by omega
        subst hke
        have hY : YSt B wr (.string ⟨(wordL s.data.toList 0).toArray⟩) v (.int .i64 0) := ⟨y0, y1, y2, f0, f1, f2⟩
        replace hR := hR.far (show w.heap.size < B by omega) hbr
        replace hX := hX.far hzX hbr
        replace q0 := q0.trans (hbr.mono (show w.heap.size ≤ B by omega))
        clear hbr hv0
        have hC := next_any X (restL s.data.toList 2) wr (hrl 2) hX.1 hX.2 (hM.out _ q0)
        have hw : (Lib.cut (restL s.data.toList 2) [32]).1 = wordL s.data.toList 2 := rfl
        rw [hw] at hC
        clear y0 y1 y2 f0 f1 f2
        go_wp2_with fail
        refine hC.mono ?_
        rintro e w6 ⟨rfl, u, hq, rfl⟩
        replace hR := (hR.below hq).set (p := X) (o := 0) (.string ⟨(Lib.cut (restL s.data.toList 2) [32]).2.1.toArray⟩) (by omega)
        replace hY := (hY.below hq).set (p := X) (o := 0) (.string ⟨(Lib.cut (restL s.data.toList 2) [32]).2.1.toArray⟩) (by omega)
        replace ho := ownsRow_setCell_below (own_below hq ho) (a := ⟨X, 0, none⟩) (show X < B + 1 by omega) (.string ⟨(Lib.cut (restL s.data.toList 2) [32]).2.1.toArray⟩)
        replace q0 := bst (btr q0 hq) (p := ⟨X, 0, none⟩) (Nat.le_of_lt hxr) (.string ⟨(Lib.cut (restL s.data.toList 2) [32]).2.1.toArray⟩)
        generalize u.setCell ⟨X, 0, none⟩ (.string ⟨(Lib.cut (restL s.data.toList 2) [32]).2.1.toArray⟩) = w6 at *
        clear hC hw hq hX
        go_wp2_with fail
        refine (atoi_two (s := ⟨(wordL s.data.toList 2).toArray⟩) (hwl 2) _ (hE1.out _ q0) (hE2.out _ q0)).mono ?_
        rintro e w7 ⟨⟨S, xx, rfl, hSv⟩, hq⟩
        replace hR := hR.below hq
        replace hY := hY.below hq
        replace ho := own_below hq ho
        replace q0 := btr q0 hq
        have hSv' := hid hSv
        clear hq hSv
        obtain ⟨A', c', e1, hc1, hc2, hO⟩ := own_any (W := w4) (by rw [hB4.out]; exact Nat.le_refl _) ho
        rw [e1] at hY
        clear e1
        obtain ⟨y0, y1, y2, f0, f1, f2⟩ := hY
        have hB7 : B < w7.heap.size := cell_lt y0
        have hYs := hid (YSt.set2 (.int .i64 S) ⟨y0, y1, y2, f0, f1, f2⟩)
        have hRs := hid (hR.set (p := B) (o := 2) (.int .i64 S) (by omega))
        have hOs := hid (hO.set (p := B) (o := 2) (.int .i64 S) (by rw [hB4.out]; omega))
        have qs := hid (bst q0 (p := ⟨B, 2, none⟩) (show w.heap.size ≤ B by omega) (.int .i64 S))
        clear hR hO q0 ho
        go_upto_region 11 with fail
        replace hYs := hYs.out
        replace hRs := hRs.out
        replace hOs := hOs.out
        replace qs := qs.out
        clear y0 y1 y2 f0 f1 f2
        generalize w7.setCell ⟨B, 2, none⟩ (.int .i64 S) = w8 at *
        obtain ⟨y0, y1, y2, _, _, _⟩ := hYs
        obtain ⟨P0, P1, P2, R0, R1, R2⟩ := hRs
        have hB8 : B < w8.heap.size := cell_lt y0
        have hR8 : w.heap.size < w8.heap.size := cell_lt P0
        obtain ⟨t0_, t1_, t2_⟩ := set3 P0 P1 P2 (.string ⟨(wordL s.data.toList 0).toArray⟩) (.slice A' A1.size c') (.int .i64 S)
        have hlw : w.heap.size < w4.heap.size := by rw [hB4.out]; omega
        have hOf := hid ((((hOs.set (p := w.heap.size) (o := 0) (.string ⟨(wordL s.data.toList 0).toArray⟩) hlw).set (p := w.heap.size) (o := 1) (.slice A' A1.size c') hlw).set (p := w.heap.size) (o := 2) (.int .i64 S) hlw).old (W := w) (Nat.le_of_lt hlw))
        clear hOs
        have qf := hid (bst (bst (bst qs (p := ⟨w.heap.size, 0, none⟩) (Nat.le_refl _) (.string ⟨(wordL s.data.toList 0).toArray⟩)) (p := ⟨w.heap.size, 1, none⟩) (Nat.le_refl _) (.slice A' A1.size c')) (p := ⟨w.heap.size, 2, none⟩) (Nat.le_refl _) (.int .i64 S))
        clear qs
        go_wp2
        refine bodyPost_ret (v := .agg #[.string ⟨(wordL s.data.toList 0).toArray⟩, .slice A' A1.size c', .int .i64 S]) (by simp [results, Tryd.results14, go_sem, t0_, t1_, t2_]) rfl ?_
        refine ⟨⟨_, A', A1.size, c', byN (wordL s.data.toList 1), S, rfl, by show (wordL s.data.toList 0).length ≤ _; exact hwl0 0, by rw [HZ1.out]; exact hwl0 1, hc1, hc2, hOf.out, fun nm' n' Z' s' h => ?_⟩, qf.out⟩
        obtain ⟨g0, g1, g2, g3⟩ := hN.out nm' n' Z' s' h
        have gz : cntA (wordL s.data.toList 1) = A1.size := by unfold cntA; rw [if_neg (by rw [← HA1.out]; exact ha), HZ1.out]
        rw [gz] at g1
        exact ⟨g0, g1, fun j hj => g2 j (by omega), hSv'.out _ g3⟩
end Go.Proofs.YtcnlolocppbcjaaDoor

namespace Go.Proofs.YtcnlolocppbcjaaDoor
set_option linter.unusedVariables false
set_option linter.unusedSimpArgs false
open Go.Shelf Go.RowKit Go.Joins
theorem symK_split {l : List UInt8} {nm : ByteArray} {n : Nat} {Z : Nat → Int} {s : Int} (h : LnOk l nm n Z s) : splitL 32 l = [nm.data.toList, (if n = 0 then [45] else joinA Z n), [dgB s]] := by
  obtain ⟨hv, rfl⟩ := h
  unfold symK
  rw [split_at _ (nm_32 (symB_iff.1 hv).1), split_at _ (args_32 n Z), split_no (dg_32 s)]
theorem itoa_dg {s : Int} (h : sortB s = true) : [dgB s] = Lib.itoa s := by
  rcases sortB_01 h with rfl | rfl
  · show [48] = Lib.itoa ((0 : Nat) : Int); rw [itoa_nat, dec_small (by omega)]; rfl
  · show [49] = Lib.itoa ((1 : Nat) : Int); rw [itoa_nat, dec_small (by omega)]; rfl
/-- which pieces a symbol's line has -/
theorem ln_ws {s : ByteArray} {nm : ByteArray} {n : Nat} {Z : Nat → Int} {t : Int} (h : LnOk s.data.toList nm n Z t) :
    ∃ t1 t2 : ByteArray, wsOf s 32 = [nm, t1, t2] ∧ cntA t1.data.toList = n ∧ (∀ j, j < n → byN t1.data.toList j = Z j) ∧ t2.data.toList = Lib.itoa t ∧ (-1000000000 ≤ t ∧ t ≤ 1000000000) := by
  have hs := symK_split h
  obtain ⟨_, _, h3, h4⟩ := symB_iff.1 h.1
  refine ⟨⟨(if n = 0 then [45] else joinA Z n).toArray⟩, ⟨[dgB t].toArray⟩, ?_, ?_, fun j hj => ?_, ?_, ?_⟩
  · unfold wsOf; rw [hs]; simp [list_bytes]
  · rw [bytes_list]; exact cnt_args
  · rw [bytes_list]; exact byN_args hj (h3 j hj)
  · rw [bytes_list]; exact itoa_dg h4
  · rcases sortB_01 h4 with rfl | rfl <;> omega
/-- the type of a block's cells -/
def TyB (B : Nat) (t : TypeId) (w : World) : Prop := ∃ c f, w.heap[B]? = some (.cells c t f)
theorem TyB.set {B p o : Nat} {t : TypeId} {w : World} (v : Value) (h : TyB B t w) : TyB B t (w.setCell ⟨p, o, none⟩ v) := by
  obtain ⟨c, f, h⟩ := h
  by_cases hp : p = B
  · subst hp
    simp only [TyB, World.setCell, Array.getElem?_modify, h]
    simp
  · exact ⟨c, f, (Below.heap_setCell w ⟨p, o, none⟩ v B (by simp only; omega)).trans h⟩
theorem TyB.below {B : Nat} {t : TypeId} {w w' : World} (h : TyB B t w) (hq : Below w.heap.size w w') : TyB B t w' := by
  obtain ⟨c, f, h⟩ := h
  exact ⟨c, f, (hq.block B (Array.getElem?_eq_some_iff.1 h).1).trans h⟩
theorem ty_ne {lo B n : Nat} {t : TypeId} {w : World} {v : Value} {Y : List Value} (hne : t ≠ 3) (h : TyB B t w) (ho : w.ownsRow lo 3 1 v n Y) : v.ownBlock ≠ some B := by
  obtain ⟨c, f, h⟩ := h
  obtain ⟨_, ⟨rfl, _⟩ | ⟨g, cap, cur, rfl, _, hh, _⟩⟩ := ho
  · simp [Value.ownBlock]
  · intro e
    simp only [Value.ownBlock, Option.some.injEq] at e
    subst e
    rw [h] at hh
    injection hh with hh
    injection hh with _ e2 _
    exact hne e2
theorem ty_keep {lo b : Nat} {t : TypeId} {wr w2 w3 : World} {Y : List Value} {k : Nat} {v : Value} (x : Value) (hne : t ≠ 3) (hT : TyB b t wr) (ho : wr.ownsRow lo 3 1 v k Y) (hq : Below wr.heap.size wr w2) (hg : (w2.alloc (.cells #[x] 3)).grownBy w3 v.ownBlock) :
    TyB b t w3 ∧ ∀ o, w3.cell? ⟨b, o, none⟩ = wr.cell? ⟨b, o, none⟩ ∧ w3.frozen? ⟨b, o, none⟩ = wr.frozen? ⟨b, o, none⟩ := by
  have hnb := ty_ne hne hT ho
  obtain ⟨c, f, hT⟩ := hT
  have hbr : b < wr.heap.size := (Array.getElem?_eq_some_iff.1 hT).1
  have hb2 : b < w2.heap.size := Nat.lt_of_lt_of_le hbr hq.size
  have hblk : w3.heap[b]? = wr.heap[b]? := by
    refine (hg.block b (by simp; omega) (Ne.symm hnb)).trans ?_
    exact ((Below.refl w2.heap.size w2).alloc (Nat.le_refl _) _).block b hb2 |>.trans (hq.block b hbr)
  exact ⟨⟨c, f, hblk.trans hT⟩, fun o => ⟨World.cell?_of_block (w := wr) (a := ⟨b, o, none⟩) hblk, World.frozen?_of_block (w := wr) (a := ⟨b, o, none⟩) hblk⟩⟩
theorem own_setT {lo B o n : Nat} {t : TypeId} {w : World} {v u : Value} {Y : List Value} (hne : t ≠ 3) (hT : TyB B t w) (ho : w.ownsRow lo 3 1 v n Y) : (w.setCell ⟨B, o, none⟩ u).ownsRow lo 3 1 v n Y := by
  have hnb := ty_ne hne hT ho
  obtain ⟨h1, h | ⟨g, cap, cur, rfl, h2, hh, h3⟩⟩ := ho
  · exact ⟨h1, .inl h⟩
  · refine ⟨h1, .inr ⟨g, cap, cur, rfl, h2, ?_, h3⟩⟩
    have : B ≠ g := fun e => hnb (by simp [Value.ownBlock, e])
    exact (Below.heap_setCell w ⟨B, o, none⟩ u g (by simp only; omega)).trans hh
set_option maxRecDepth 100000 in
set_option maxHeartbeats 8000000 in
theorem scan_any (s : ByteArray) (w : World) (hs : s.size ≤ 1048576) :
    Calls Tryd.prog 10 #[.string s] w fun e w' => LnP w s.data.toList e w' ∧ Below w.heap.size w w' := by
  have hF := fun nm n Z t (h : LnOk s.data.toList nm n Z t) => ln_ws h
  have hne : wsOf s 32 ≠ [] := by unfold wsOf; simp [split_ne]
  have hZ := fun t (h : t ∈ wsOf s 32) => ws_len h
  have hC := fun W => cut_at s 32 W hs
  have hsl : s.data.toList.length = s.size := by simp
  generalize wsOf s 32 = ws at hF hne hZ hC
  have hR := YSt.new w (.string ⟨#[]⟩) (.slice none 0 0) (.int .i64 0) 34
  have q0 := bal (Below.refl w.heap.size w) (.cells #[.string ⟨#[]⟩, .slice none 0 0, .int .i64 0] 34)
  have hwz : w.heap.size < (w.alloc (.cells #[.string ⟨#[]⟩, .slice none 0 0, .int .i64 0] 34)).heap.size := by simp
  go_enter Tryd.func10, Tryd.ntmps10
  go_upto_region 1 with fail
  generalize w.alloc (.cells #[.string ⟨#[]⟩, .slice none 0 0, .int .i64 0] 34) = w1 at *
  go_wp2_with fail
  refine (hC _).mono ?_
  intro e w2 hN
  match ws, hne with
  | tt0 :: wt, _ =>
  obtain ⟨g, cap, rfl, hg, hgl, hcell, hb⟩ := ws_cells hN
  replace hR := hR.below hb
  replace q0 := btr q0 hb
  have hx0 := hcell 0 tt0 rfl
  have hz2 := hb.size
  have z0 := hZ tt0 (by simp)
  clear hN hb hC
  have hRg : w.heap.size < w2.heap.size := by omega
  have hW : w.heap.size ≤ w2.heap.size := Nat.le_of_lt hRg
  have qA := bal (bal (Below.refl w2.heap.size w2) (.cells #[] 3)) (.cells #[.string tt0, .slice (some ⟨w2.heap.size, 0, none⟩) 0 0, .int .i64 0] 34)
  have hY : YSt (w2.heap.size + 1) ((w2.alloc (.cells #[] 3)).alloc (.cells #[.string tt0, .slice (some ⟨w2.heap.size, 0, none⟩) 0 0, .int .i64 0] 34)) (.string tt0) (.slice (some ⟨w2.heap.size, 0, none⟩) 0 0) (.int .i64 0) := by
    refine ⟨?_, ?_, ?_, ?_, ?_, ?_⟩ <;> simp [go_sem]
  have hT : TyB (w2.heap.size + 1) 34 ((w2.alloc (.cells #[] 3)).alloc (.cells #[.string tt0, .slice (some ⟨w2.heap.size, 0, none⟩) 0 0, .int .i64 0] 34)) :=
    ⟨_, _, by have := Deep.blk_alloc_new (w2.alloc (.cells #[] 3)) (.cells #[.string tt0, .slice (some ⟨w2.heap.size, 0, none⟩) 0 0, .int .i64 0] 34); simpa using this⟩
  have ho : ((w2.alloc (.cells #[] 3)).alloc (.cells #[.string tt0, .slice (some ⟨w2.heap.size, 0, none⟩) 0 0, .int .i64 0] 34)).ownsRow w2.heap.size 3 1 (.slice (some ⟨w2.heap.size, 0, none⟩) 0 0) 0 [] := own_below (bal (Below.refl _ _) _) (own_emptyS w2 3 1)
  replace hR := hR.below qA
  replace q0 := q0.trans (qA.mono hW)
  have hcell' : ∀ j t, (tt0 :: wt)[j]? = some t → ((w2.alloc (.cells #[] 3)).alloc (.cells #[.string tt0, .slice (some ⟨w2.heap.size, 0, none⟩) 0 0, .int .i64 0] 34)).cell? ⟨g, j, none⟩ = some (.string t) := fun j t h => carry qA (hcell j t h)
  have hbs := Below.refl (w2.heap.size) ((w2.alloc (.cells #[] 3)).alloc (.cells #[.string tt0, .slice (some ⟨w2.heap.size, 0, none⟩) 0 0, .int .i64 0] 34))
  clear qA hcell
  go_upto_region 3 with fail
  have hsz : w2.heap.size + 1 < ((w2.alloc (.cells #[] 3)).alloc (.cells #[.string tt0, .slice (some ⟨w2.heap.size, 0, none⟩) 0 0, .int .i64 0] 34)).heap.size := by simp
  generalize (w2.alloc (.cells #[] 3)).alloc (.cells #[.string tt0, .slice (some ⟨w2.heap.size, 0, none⟩) 0 0, .int .i64 0] 34) = w3 at *
  clear hz2 hx0
  generalize hE : w2.heap.size = E at *
  have HF := hid hF
  clear hF
  match wt with
  | [] =>
    simp only [List.length_nil, Nat.zero_add]
    clear hcell'
    replace ho : w3.ownsRow E 3 1 (.slice (some ⟨E, 0, none⟩) 0 0) 0 (vals 0 (fun _ => 0)) := ho
    obtain ⟨A', c', e1, hc1, hc2, hO⟩ := own_any (W := w2) (n := 0) (Z := (fun _ => 0)) (by rw [hE]; exact Nat.le_refl _) ho
    rw [e1] at hY
    clear e1 ho
    obtain ⟨y0, y1, y2, f0, f1, f2⟩ := hY
    obtain ⟨P0, P1, P2, R0, R1, R2⟩ := hR
    have hB8 : E + 1 < w3.heap.size := cell_lt y0
    have hR8 : w.heap.size < w3.heap.size := cell_lt P0
    have hWE : w.heap.size < w2.heap.size := by rw [hE]; exact hRg
    obtain ⟨t0_, t1_, t2_⟩ := set3 P0 P1 P2 (.string tt0) (.slice A' (0) c') (.int .i64 0)
    have hOf := hid ((((hO.set (p := w.heap.size) (o := 0) (.string tt0) hWE).set (p := w.heap.size) (o := 1) (.slice A' (0) c') hWE).set (p := w.heap.size) (o := 2) (.int .i64 0) hWE).old (W := w) (Nat.le_of_lt hWE))
    have qf := hid (bst (bst (bst q0 (p := ⟨w.heap.size, 0, none⟩) (Nat.le_refl _) (.string tt0)) (p := ⟨w.heap.size, 1, none⟩) (Nat.le_refl _) (.slice A' (0) c')) (p := ⟨w.heap.size, 2, none⟩) (Nat.le_refl _) (.int .i64 0))
    clear hO q0
    go_wp2
    refine bodyPost_ret (v := .agg #[.string tt0, .slice A' (0) c', .int .i64 0]) (by simp [results, Tryd.results10, go_sem, t0_, t1_, t2_]) rfl ?_
    refine ⟨⟨_, A', 0, c', (fun _ => 0), 0, rfl, by omega, by omega, hc1, hc2, hOf.out, fun nm' n' Z' s' h => ?_⟩, qf.out⟩
    obtain ⟨u1, u2, e, _⟩ := HF.out nm' n' Z' s' h
    simp at e
  | [t1] =>
    simp only [List.length_nil, List.length_cons, Nat.zero_add, Nat.reduceAdd]
    have z1 := hZ t1 (by simp)
    clear hZ
    have hx1 := hcell' 1 t1 rfl
    replace ho : w3.ownsRow E 3 1 (.slice (some ⟨E, 0, none⟩) 0 0) 0 (vals 0 (byN t1.data.toList)) := ho
    have h45 := str45 t1
    by_cases ha : t1.data.toList = [45]
    · rw [decide_eq_true ha] at h45
      clear hcell'
      obtain ⟨A', c', e1, hc1, hc2, hO⟩ := own_any (W := w2) (n := 0) (Z := (byN t1.data.toList)) (by rw [hE]; exact Nat.le_refl _) ho
      rw [e1] at hY
      clear e1 ho
      obtain ⟨y0, y1, y2, f0, f1, f2⟩ := hY
      obtain ⟨P0, P1, P2, R0, R1, R2⟩ := hR
      have hB8 : E + 1 < w3.heap.size := cell_lt y0
      have hR8 : w.heap.size < w3.heap.size := cell_lt P0
      have hWE : w.heap.size < w2.heap.size := by rw [hE]; exact hRg
      obtain ⟨t0_, t1_, t2_⟩ := set3 P0 P1 P2 (.string tt0) (.slice A' (0) c') (.int .i64 0)
      have hOf := hid ((((hO.set (p := w.heap.size) (o := 0) (.string tt0) hWE).set (p := w.heap.size) (o := 1) (.slice A' (0) c') hWE).set (p := w.heap.size) (o := 2) (.int .i64 0) hWE).old (W := w) (Nat.le_of_lt hWE))
      have qf := hid (bst (bst (bst q0 (p := ⟨w.heap.size, 0, none⟩) (Nat.le_refl _) (.string tt0)) (p := ⟨w.heap.size, 1, none⟩) (Nat.le_refl _) (.slice A' (0) c')) (p := ⟨w.heap.size, 2, none⟩) (Nat.le_refl _) (.int .i64 0))
      clear hO q0
      go_wp2
      refine bodyPost_ret (v := .agg #[.string tt0, .slice A' (0) c', .int .i64 0]) (by simp [results, Tryd.results10, go_sem, t0_, t1_, t2_]) rfl ?_
      refine ⟨⟨_, A', 0, c', (byN t1.data.toList), 0, rfl, by omega, by omega, hc1, hc2, hOf.out, fun nm' n' Z' s' h => ?_⟩, qf.out⟩
      obtain ⟨u1, u2, e, _⟩ := HF.out nm' n' Z' s' h
      simp at e
    · rw [decide_eq_false ha] at h45
      go_upto_region 5 with fail
      obtain ⟨i0, hi, hz0, hz1, hz2⟩ := info_parts infoI
      have hYh0 := hid hY
      clear hY
      have HC := hid hcell'
      clear hcell' h45
      go_loopw [5] (fun i wr => ∃ (k : Nat) (v : Value), k ≤ t1.size ∧ i = .int .i64 k ∧ wr.ownsRow E 3 1 v k (vals k (byN t1.data.toList)) ∧ YSt (E + 1) wr (.string tt0) v (.int .i64 0) ∧ TyB (E + 1) 34 wr ∧ Below E w3 wr) (fun i _ => t1.size - (intOf i).toNat)
      case atStart => exact ⟨0, _, Nat.zero_le _, rfl, ho, hYh0.out, hT, hbs⟩
      case round =>
        obtain ⟨k, v, hk, rfl, ho, hYr, hTr, hbr⟩ := hrel
        have hx1 : wr.cell? ⟨g, 1, none⟩ = some (.string t1) := (hbr.cell (p := ⟨g, 1, none⟩) hgl).trans (HC.out 1 t1 rfl)
        obtain ⟨y0, y1, y2, f0, f1, f2⟩ := hYr
        have hBr : E + 1 < wr.heap.size := cell_lt y0
        have hgr : g < wr.heap.size := by omega
        by_cases hlt : k < t1.size
        · have hbyt : byN t1.data.toList k = ((t1[k]).toNat : Int) - 48 := by
            have hk' : k < t1.data.toList.length := by simpa using hlt
            unfold byN
            rw [List.getD_eq_getElem?_getD, List.getElem?_eq_getElem hk']
            rfl
          have hbz : (t1[k]).toNat < 256 := (t1[k]).toNat_lt
          have HB := hid hbyt
          generalize hcc : t1[k] = cc at hbyt hbz
          have hcc' := hid hcc
          clear hbyt
          have gc := @gro_cell wr
          go_upto_region 7 with fail
          refine region_plan (.takes [0, 1, 2, 3, 4, 5, 6] (.make 7 (.takes [8] (.make 9 .fin)))) 10 rfl (by kernel_rfl) ?_
          refine plan_takes ?_; simp only [pickOps, List.getElem?_cons_zero, List.getElem?_cons_succ]; (repeat (go_big_quiet_step (fail))); refine wpQuiet_nil ?_
          have hB := (Below.refl wr.heap.size wr).drew
          generalize hw2 : wr.drew = w5 at hB ⊢
          clear hw2 gc
          refine plan_val rfl rfl (.int .i64 (cc.toNat : Int)) (w'' := w5) (by exact run_conv rfl (by kernel_rfl) (by omega) _) hB ?_
          refine plan_takes ?_; simp only [pickOps, List.getElem?_cons_zero, List.getElem?_cons_succ, Act.put, List.setIfInBounds_toArray, List.set_cons_succ, List.set_cons_zero]; (repeat (go_big_quiet_step (fail))); refine wpQuiet_nil ?_
          refine plan_val rfl rfl (.slice (some ⟨w5.heap.size, 0, none⟩) 1 1) (w'' := w5.alloc (.cells #[.int .i64 ((cc.toNat : Int) - 48)] 3)) (by kernel_rfl) (hB.alloc hB.size _) ?_
          refine plan_fin ?_
          simp only [List.drop_succ_cons, List.drop_zero, Act.put, List.setIfInBounds_toArray, List.set_cons_succ, List.set_cons_zero]
          have ho2 := own_below hB ho
          have hx3 : E + 1 < w5.heap.size := Nat.lt_of_lt_of_le hBr hB.size
          have hnews : ∀ (j : Nat) (u : Value), ([Value.int .i64 ((cc.toNat : Int) - 48)] : List Value)[j]? = some u → (w5.alloc (.cells #[.int .i64 ((cc.toNat : Int) - 48)] 3)).cell? ((⟨w5.heap.size, 0, none⟩ : Addr).add j) = some u := new_one w5 _ _
          have hone : ∀ u ∈ ([Value.int .i64 ((cc.toNat : Int) - 48)] : List Value), u.oneCell' = true := fun u hu => by simp at hu; subst hu; rfl
          have hYY : YSt (E + 1) wr (.string tt0) v (.int .i64 0) := ⟨y0, y1, y2, f0, f1, f2⟩
          have hval : Value.int .i64 ((cc.toNat : Int) - 48) = .int .i64 (byN t1.data.toList k) := by rw [HB.out, hcc'.out]
          have HV := hid hval
          clear hval y0 y1 y2 f0 f1 f2
          have hYh := hid hYY
          clear hYY hx1
          go_wp2_with ((at_builtin; refine wpList_append_own _ rfl _ _ 32 rfl E 3 i0 (.int .i64 0) 1 8 Tryd.underlying32 hi hz0 hz1 hz2 rfl (by decide) _ _ _ rfl (ho2.alloc _) ⟨w5.heap.size, 0, none⟩ 1 1 [.int .i64 ((cc.toNat : Int) - 48)] rfl rfl hnews hone (by unfold maxLen; omega) (by omega) (by simp; omega) ?_; intro v' w6 hown hgrow _; obtain ⟨A', c', rfl⟩ := own_slice hown; have hkp := hid (ty_keep (.int .i64 ((cc.toNat : Int) - 48)) (by decide) hTr ho hB hgrow); have hY3 := hid (hYh.out.same hkp.out.2); have hT3 := hkp.out.1; have hb3 := hid (low_bel (.int .i64 ((cc.toNat : Int) - 48)) (Nat.le_refl E) (by omega) ho hB hgrow hbr); have m1 := hY3.out.2.1; have m1f := hY3.out.2.2.2.2.1; rw [HV.out, ← vals_snoc] at hown; have hown' := hid (own_setT (B := E + 1) (o := 1) (u := .slice A' (k + 1) c') (by decide) hT3 hown); have hTn := hid (hT3.set (p := E + 1) (o := 1) (.slice A' (k + 1) c')); have hYn := hid (hY3.out.set1 (.slice A' (k + 1) c')); have hbn := hid (hb3.out.setCell (p := ⟨E + 1, 1, none⟩) (Nat.le_succ E) (.slice A' (k + 1) c')); clear hown hgrow hT3))
          go_roundw
          case rel => exact ⟨k + 1, _, by omega, by go_num, hown'.out, hYn.out, hTn.out, hbn.out⟩
          case measure => simp [intOf]; omega
        · have hke : k = t1.size := by omega
          subst hke
          have hY : YSt (E + 1) wr (.string tt0) v (.int .i64 0) := ⟨y0, y1, y2, f0, f1, f2⟩
          replace hR := hR.far hRg hbr
          replace q0 := q0.trans (hbr.mono hW)
          have hT := hTr
          clear y0 y1 y2 f0 f1 f2
          obtain ⟨A', c', e1, hc1, hc2, hO⟩ := own_any (W := w2) (n := t1.size) (Z := (byN t1.data.toList)) (by rw [hE]; exact Nat.le_refl _) ho
          rw [e1] at hY
          clear e1 ho
          obtain ⟨y0, y1, y2, f0, f1, f2⟩ := hY
          obtain ⟨P0, P1, P2, R0, R1, R2⟩ := hR
          have hB8 : E + 1 < wr.heap.size := cell_lt y0
          have hR8 : w.heap.size < wr.heap.size := cell_lt P0
          have hWE : w.heap.size < w2.heap.size := by rw [hE]; exact hRg
          obtain ⟨t0_, t1_, t2_⟩ := set3 P0 P1 P2 (.string tt0) (.slice A' (t1.size) c') (.int .i64 0)
          have hOf := hid ((((hO.set (p := w.heap.size) (o := 0) (.string tt0) hWE).set (p := w.heap.size) (o := 1) (.slice A' (t1.size) c') hWE).set (p := w.heap.size) (o := 2) (.int .i64 0) hWE).old (W := w) (Nat.le_of_lt hWE))
          have qf := hid (bst (bst (bst q0 (p := ⟨w.heap.size, 0, none⟩) (Nat.le_refl _) (.string tt0)) (p := ⟨w.heap.size, 1, none⟩) (Nat.le_refl _) (.slice A' (t1.size) c')) (p := ⟨w.heap.size, 2, none⟩) (Nat.le_refl _) (.int .i64 0))
          clear hO q0
          go_wp2
          refine bodyPost_ret (v := .agg #[.string tt0, .slice A' (t1.size) c', .int .i64 0]) (by simp [results, Tryd.results10, go_sem, t0_, t1_, t2_]) rfl ?_
          refine ⟨⟨_, A', t1.size, c', (byN t1.data.toList), 0, rfl, by omega, by omega, hc1, hc2, hOf.out, fun nm' n' Z' s' h => ?_⟩, qf.out⟩
          obtain ⟨u1, u2, e, _⟩ := HF.out nm' n' Z' s' h
          simp at e
  | t1 :: t2 :: wq =>
    generalize hm : (t1 :: t2 :: wq).length + 1 = m
    have hm3 : 2 < m := by simp at hm; omega
    clear hm
    have z2 := hZ t2 (by simp)
    have z1 := hZ t1 (by simp)
    clear hZ
    have hx1 := hcell' 1 t1 rfl
    replace ho : w3.ownsRow E 3 1 (.slice (some ⟨E, 0, none⟩) 0 0) 0 (vals 0 (byN t1.data.toList)) := ho
    have h45 := str45 t1
    by_cases ha : t1.data.toList = [45]
    · rw [decide_eq_true ha] at h45
      have hx2w : w3.cell? ⟨g, 2, none⟩ = some (.string t2) := hcell' 2 t2 rfl
      obtain ⟨S, sb, hSv, hC⟩ := lnum_val t2 (by omega)
      go_wp2_with fail
      refine (hC _).mono ?_
      rintro e w7 ⟨rfl, hq⟩
      replace hR := hR.below hq
      replace hY := hY.below hq
      replace ho := own_below hq ho
      replace hT := hT.below hq
      replace q0 := btr q0 hq
      clear hq hC hx2w
      obtain ⟨A', c', e1, _, _, _⟩ := own_any (W := w2) (n := 0) (Z := (byN t1.data.toList)) (by rw [hE]; exact Nat.le_refl _) ho
      rw [e1] at hY ho
      clear e1
      obtain ⟨y0, y1, y2, f0, f1, f2⟩ := hY
      have hB7 : E + 1 < w7.heap.size := cell_lt y0
      have hYs := hid (YSt.set2 (.int .i64 S) ⟨y0, y1, y2, f0, f1, f2⟩)
      have hRs := hid (hR.set (p := E + 1) (o := 2) (.int .i64 S) (by omega))
      have hOs := hid (own_setT (B := E + 1) (o := 2) (u := .int .i64 S) (by decide) hT ho)
      have qs := hid (bst q0 (p := ⟨E + 1, 2, none⟩) (show w.heap.size ≤ E + 1 by omega) (.int .i64 S))
      clear hR ho q0 hT
      go_upto_region 10 with fail
      have hY := hYs.out
      have hR := hRs.out
      have ho := hOs.out
      have q0 := qs.out
      clear y0 y1 y2 f0 f1 f2 hYs hRs hOs qs
      generalize w7.setCell ⟨E + 1, 2, none⟩ (.int .i64 S) = w8 at *
      obtain ⟨A0, c0, e2, hc1, hc2, hO⟩ := own_any (W := w2) (n := 0) (Z := (byN t1.data.toList)) (by rw [hE]; exact Nat.le_refl _) ho
      injection e2 with e2 _ e3
      subst e2 e3
      obtain ⟨y0, y1, y2, f0, f1, f2⟩ := hY
      obtain ⟨P0, P1, P2, R0, R1, R2⟩ := hR
      have hB8 : E + 1 < w8.heap.size := cell_lt y0
      have hR8 : w.heap.size < w8.heap.size := cell_lt P0
      have hWE : w.heap.size < w2.heap.size := by rw [hE]; exact hRg
      obtain ⟨t0_, t1_, t2_⟩ := set3 P0 P1 P2 (.string tt0) (.slice A' (0) c') (.int .i64 S)
      have hOf := hid ((((hO.set (p := w.heap.size) (o := 0) (.string tt0) hWE).set (p := w.heap.size) (o := 1) (.slice A' (0) c') hWE).set (p := w.heap.size) (o := 2) (.int .i64 S) hWE).old (W := w) (Nat.le_of_lt hWE))
      have qf := hid (bst (bst (bst q0 (p := ⟨w.heap.size, 0, none⟩) (Nat.le_refl _) (.string tt0)) (p := ⟨w.heap.size, 1, none⟩) (Nat.le_refl _) (.slice A' (0) c')) (p := ⟨w.heap.size, 2, none⟩) (Nat.le_refl _) (.int .i64 S))
      clear hO q0
      go_wp2
      refine bodyPost_ret (v := .agg #[.string tt0, .slice A' (0) c', .int .i64 S]) (by simp [results, Tryd.results10, go_sem, t0_, t1_, t2_]) rfl ?_
      refine ⟨⟨_, A', 0, c', (byN t1.data.toList), S, rfl, by omega, by omega, hc1, hc2, hOf.out, fun nm' n' Z' s' h => ?_⟩, qf.out⟩
      obtain ⟨u1, u2, e, g1, g2, g3, g4⟩ := HF.out nm' n' Z' s' h
      injection e with e0 e
      injection e with e1 e
      injection e with e2 e
      subst e1 e2
      have gz : n' = 0 := by rw [← g1]; unfold cntA; rw [if_pos ha]
      exact ⟨e0, gz.symm, fun j hj => absurd hj (by omega), hSv _ g4 g3⟩
    · rw [decide_eq_false ha] at h45
      go_upto_region 5 with fail
      obtain ⟨i0, hi, hz0, hz1, hz2⟩ := info_parts infoI
      have hYh0 := hid hY
      clear hY
      have HC := hid hcell'
      clear hcell' h45
      go_loopw [5] (fun i wr => ∃ (k : Nat) (v : Value), k ≤ t1.size ∧ i = .int .i64 k ∧ wr.ownsRow E 3 1 v k (vals k (byN t1.data.toList)) ∧ YSt (E + 1) wr (.string tt0) v (.int .i64 0) ∧ TyB (E + 1) 34 wr ∧ Below E w3 wr) (fun i _ => t1.size - (intOf i).toNat)
      case atStart => exact ⟨0, _, Nat.zero_le _, rfl, ho, hYh0.out, hT, hbs⟩
      case round =>
        obtain ⟨k, v, hk, rfl, ho, hYr, hTr, hbr⟩ := hrel
        have hx1 : wr.cell? ⟨g, 1, none⟩ = some (.string t1) := (hbr.cell (p := ⟨g, 1, none⟩) hgl).trans (HC.out 1 t1 rfl)
        obtain ⟨y0, y1, y2, f0, f1, f2⟩ := hYr
        have hBr : E + 1 < wr.heap.size := cell_lt y0
        have hgr : g < wr.heap.size := by omega
        by_cases hlt : k < t1.size
        · have hbyt : byN t1.data.toList k = ((t1[k]).toNat : Int) - 48 := by
            have hk' : k < t1.data.toList.length := by simpa using hlt
            unfold byN
            rw [List.getD_eq_getElem?_getD, List.getElem?_eq_getElem hk']
            rfl
          have hbz : (t1[k]).toNat < 256 := (t1[k]).toNat_lt
          have HB := hid hbyt
          generalize hcc : t1[k] = cc at hbyt hbz
          have hcc' := hid hcc
          clear hbyt
          have gc := @gro_cell wr
          go_upto_region 7 with fail
          refine region_plan (.takes [0, 1, 2, 3, 4, 5, 6] (.make 7 (.takes [8] (.make 9 .fin)))) 10 rfl (by kernel_rfl) ?_
          refine plan_takes ?_; simp only [pickOps, List.getElem?_cons_zero, List.getElem?_cons_succ]; (repeat (go_big_quiet_step (fail))); refine wpQuiet_nil ?_
          have hB := (Below.refl wr.heap.size wr).drew
          generalize hw2 : wr.drew = w5 at hB ⊢
          clear hw2 gc
          refine plan_val rfl rfl (.int .i64 (cc.toNat : Int)) (w'' := w5) (by exact run_conv rfl (by kernel_rfl) (by omega) _) hB ?_
          refine plan_takes ?_; simp only [pickOps, List.getElem?_cons_zero, List.getElem?_cons_succ, Act.put, List.setIfInBounds_toArray, List.set_cons_succ, List.set_cons_zero]; (repeat (go_big_quiet_step (fail))); refine wpQuiet_nil ?_
          refine plan_val rfl rfl (.slice (some ⟨w5.heap.size, 0, none⟩) 1 1) (w'' := w5.alloc (.cells #[.int .i64 ((cc.toNat : Int) - 48)] 3)) (by kernel_rfl) (hB.alloc hB.size _) ?_
          refine plan_fin ?_
          simp only [List.drop_succ_cons, List.drop_zero, Act.put, List.setIfInBounds_toArray, List.set_cons_succ, List.set_cons_zero]
          have ho2 := own_below hB ho
          have hx3 : E + 1 < w5.heap.size := Nat.lt_of_lt_of_le hBr hB.size
          have hnews : ∀ (j : Nat) (u : Value), ([Value.int .i64 ((cc.toNat : Int) - 48)] : List Value)[j]? = some u → (w5.alloc (.cells #[.int .i64 ((cc.toNat : Int) - 48)] 3)).cell? ((⟨w5.heap.size, 0, none⟩ : Addr).add j) = some u := new_one w5 _ _
          have hone : ∀ u ∈ ([Value.int .i64 ((cc.toNat : Int) - 48)] : List Value), u.oneCell' = true := fun u hu => by simp at hu; subst hu; rfl
          have hYY : YSt (E + 1) wr (.string tt0) v (.int .i64 0) := ⟨y0, y1, y2, f0, f1, f2⟩
          have hval : Value.int .i64 ((cc.toNat : Int) - 48) = .int .i64 (byN t1.data.toList k) := by rw [HB.out, hcc'.out]
          have HV := hid hval
          clear hval y0 y1 y2 f0 f1 f2
          have hYh := hid hYY
          clear hYY hx1
          go_wp2_with ((at_builtin; refine wpList_append_own _ rfl _ _ 32 rfl E 3 i0 (.int .i64 0) 1 8 Tryd.underlying32 hi hz0 hz1 hz2 rfl (by decide) _ _ _ rfl (ho2.alloc _) ⟨w5.heap.size, 0, none⟩ 1 1 [.int .i64 ((cc.toNat : Int) - 48)] rfl rfl hnews hone (by unfold maxLen; omega) (by omega) (by simp; omega) ?_; intro v' w6 hown hgrow _; obtain ⟨A', c', rfl⟩ := own_slice hown; have hkp := hid (ty_keep (.int .i64 ((cc.toNat : Int) - 48)) (by decide) hTr ho hB hgrow); have hY3 := hid (hYh.out.same hkp.out.2); have hT3 := hkp.out.1; have hb3 := hid (low_bel (.int .i64 ((cc.toNat : Int) - 48)) (Nat.le_refl E) (by omega) ho hB hgrow hbr); have m1 := hY3.out.2.1; have m1f := hY3.out.2.2.2.2.1; rw [HV.out, ← vals_snoc] at hown; have hown' := hid (own_setT (B := E + 1) (o := 1) (u := .slice A' (k + 1) c') (by decide) hT3 hown); have hTn := hid (hT3.set (p := E + 1) (o := 1) (.slice A' (k + 1) c')); have hYn := hid (hY3.out.set1 (.slice A' (k + 1) c')); have hbn := hid (hb3.out.setCell (p := ⟨E + 1, 1, none⟩) (Nat.le_succ E) (.slice A' (k + 1) c')); clear hown hgrow hT3))
          go_roundw
          case rel => exact ⟨k + 1, _, by omega, by go_num, hown'.out, hYn.out, hTn.out, hbn.out⟩
          case measure => simp [intOf]; omega
        · have hke : k = t1.size := by omega
          subst hke
          have hY : YSt (E + 1) wr (.string tt0) v (.int .i64 0) := ⟨y0, y1, y2, f0, f1, f2⟩
          replace hR := hR.far hRg hbr
          replace q0 := q0.trans (hbr.mono hW)
          have hT := hTr
          clear y0 y1 y2 f0 f1 f2
          have hx2w : wr.cell? ⟨g, 2, none⟩ = some (.string t2) := (hbr.cell (p := ⟨g, 2, none⟩) hgl).trans (HC.out 2 t2 rfl)
          obtain ⟨S, sb, hSv, hC⟩ := lnum_val t2 (by omega)
          go_wp2_with fail
          refine (hC _).mono ?_
          rintro e w7 ⟨rfl, hq⟩
          replace hR := hR.below hq
          replace hY := hY.below hq
          replace ho := own_below hq ho
          replace hT := hT.below hq
          replace q0 := btr q0 hq
          clear hq hC hx2w
          obtain ⟨A', c', e1, _, _, _⟩ := own_any (W := w2) (n := t1.size) (Z := (byN t1.data.toList)) (by rw [hE]; exact Nat.le_refl _) ho
          rw [e1] at hY ho
          clear e1
          obtain ⟨y0, y1, y2, f0, f1, f2⟩ := hY
          have hB7 : E + 1 < w7.heap.size := cell_lt y0
          have hYs := hid (YSt.set2 (.int .i64 S) ⟨y0, y1, y2, f0, f1, f2⟩)
          have hRs := hid (hR.set (p := E + 1) (o := 2) (.int .i64 S) (by omega))
          have hOs := hid (own_setT (B := E + 1) (o := 2) (u := .int .i64 S) (by decide) hT ho)
          have qs := hid (bst q0 (p := ⟨E + 1, 2, none⟩) (show w.heap.size ≤ E + 1 by omega) (.int .i64 S))
          clear hR ho q0 hT
          go_upto_region 10 with fail
          have hY := hYs.out
          have hR := hRs.out
          have ho := hOs.out
          have q0 := qs.out
          clear y0 y1 y2 f0 f1 f2 hYs hRs hOs qs
          generalize w7.setCell ⟨E + 1, 2, none⟩ (.int .i64 S) = w8 at *
          obtain ⟨A0, c0, e2, hc1, hc2, hO⟩ := own_any (W := w2) (n := t1.size) (Z := (byN t1.data.toList)) (by rw [hE]; exact Nat.le_refl _) ho
          injection e2 with e2 _ e3
          subst e2 e3
          obtain ⟨y0, y1, y2, f0, f1, f2⟩ := hY
          obtain ⟨P0, P1, P2, R0, R1, R2⟩ := hR
          have hB8 : E + 1 < w8.heap.size := cell_lt y0
          have hR8 : w.heap.size < w8.heap.size := cell_lt P0
          have hWE : w.heap.size < w2.heap.size := by rw [hE]; exact hRg
          obtain ⟨t0_, t1_, t2_⟩ := set3 P0 P1 P2 (.string tt0) (.slice A' (t1.size) c') (.int .i64 S)
          have hOf := hid ((((hO.set (p := w.heap.size) (o := 0) (.string tt0) hWE).set (p := w.heap.size) (o := 1) (.slice A' (t1.size) c') hWE).set (p := w.heap.size) (o := 2) (.int .i64 S) hWE).old (W := w) (Nat.le_of_lt hWE))
          have qf := hid (bst (bst (bst q0 (p := ⟨w.heap.size, 0, none⟩) (Nat.le_refl _) (.string tt0)) (p := ⟨w.heap.size, 1, none⟩) (Nat.le_refl _) (.slice A' (t1.size) c')) (p := ⟨w.heap.size, 2, none⟩) (Nat.le_refl _) (.int .i64 S))
          clear hO q0
          go_wp2
          refine bodyPost_ret (v := .agg #[.string tt0, .slice A' (t1.size) c', .int .i64 S]) (by simp [results, Tryd.results10, go_sem, t0_, t1_, t2_]) rfl ?_
          refine ⟨⟨_, A', t1.size, c', (byN t1.data.toList), S, rfl, by omega, by omega, hc1, hc2, hOf.out, fun nm' n' Z' s' h => ?_⟩, qf.out⟩
          obtain ⟨u1, u2, e, g1, g2, g3, g4⟩ := HF.out nm' n' Z' s' h
          injection e with e0 e
          injection e with e1 e
          injection e with e2 e
          subst e1 e2
          have gz : cntA t1.data.toList = t1.size := by unfold cntA; rw [if_neg ha]; simp
          rw [gz] at g1
          exact ⟨e0, g1, fun j hj => g2 j (by omega), hSv _ g4 g3⟩
end Go.Proofs.YtcnlolocppbcjaaDoor

namespace Go.Proofs.YtcnlolocppbcjaaDoor
set_option linter.unusedVariables false
set_option linter.unusedSimpArgs false
open Go.Shelf Go.RowKit Go.Joins
/-- the cells of k symbols -/
def symsC (k : Nat) (LA : Nat → Option Addr) (LC : Nat → Nat) (L : Sy) : List Value := (List.range (k * 3)).map (symV LA LC L)
/-- the list with the k-th symbol set -/
def putY (L : Sy) (k : Nat) (nm : ByteArray) (n : Nat) (Z : Nat → Int) (s : Int) : Sy :=
  ⟨fun i => if i = k then nm else L.Nm i, fun i => if i = k then n else L.N i, fun i => if i = k then Z else L.Z i, fun i => if i = k then s else L.S i⟩
theorem symsC_snoc (k : Nat) (LA : Nat → Option Addr) (LC : Nat → Nat) (L : Sy) : symsC (k + 1) LA LC L = symsC k LA LC L ++ [.string (L.Nm k), .slice (LA k) (L.N k) (LC k), .int .i64 (L.S k)] := by
  unfold symsC
  rw [show (k + 1) * 3 = k * 3 + 1 + 1 + 1 by omega, List.range_succ, List.range_succ, List.range_succ, List.map_append, List.map_append, List.map_append, List.append_assoc, List.append_assoc]
  simp [symV_0, symV_1, symV_2]
theorem symsC_put (k : Nat) (LA : Nat → Option Addr) (LC : Nat → Nat) (L : Sy) (nm : ByteArray) (A : Option Addr) (n c : Nat) (Z : Nat → Int) (s : Int) :
    symsC (k + 1) (fun i => if i = k then A else LA i) (fun i => if i = k then c else LC i) (putY L k nm n Z s) = symsC k LA LC L ++ [.string nm, .slice A n c, .int .i64 s] := by
  rw [symsC_snoc]
  congr 1
  · unfold symsC
    refine List.map_congr_left fun j hj => ?_
    have hj' := List.mem_range.1 hj
    have : j / 3 ≠ k := by omega
    unfold symV putY
    simp [this]
  · simp [putY]
theorem symsC_len (k : Nat) (LA : Nat → Option Addr) (LC : Nat → Nat) (L : Sy) : (symsC k LA LC L).length = k * 3 := by simp [symsC]
/-- the state of a loop that appends symbols -/
structure YBld (lo : Nat) (W w : World) (v : Value) (k : Nat) (LA : Nat → Option Addr) (LC : Nat → Nat) (L : Sy) : Prop where
  own : w.ownsRow lo 34 3 v k (symsC k LA LC L)
  arg : ∀ i, i < k → L.N i ≤ LC i ∧ LC i ≤ 9223372036854775807 ∧ OwnI W w (LA i) (L.N i) (L.Z i)
  dis : ∀ i j, i < j → j < k → L.N i = 0 ∨ L.N j = 0 ∨ LA i ≠ LA j
theorem YBld.nil {lo : Nat} {W w : World} {v : Value} (LA : Nat → Option Addr) (LC : Nat → Nat) (L : Sy) (h : w.ownsRow lo 34 3 v 0 []) : YBld lo W w v 0 LA LC L :=
  ⟨h, fun i hi => absurd hi (by omega), fun i j _ hj => absurd hj (by omega)⟩
theorem YBld.below {lo k : Nat} {W w w' : World} {v : Value} {LA : Nat → Option Addr} {LC : Nat → Nat} {L : Sy} (h : YBld lo W w v k LA LC L) (hq : Below w.heap.size w w') : YBld lo W w' v k LA LC L :=
  ⟨own_below hq h.own, fun i hi => ⟨(h.arg i hi).1, (h.arg i hi).2.1, (h.arg i hi).2.2.below hq⟩, h.dis⟩
theorem OwnI.grow {W w w' : World} {A : Option Addr} {n : Nat} {Z : Nat → Int} {row : Option Nat} (h : OwnI W w A n Z) (hg : w.grownBy w' row) (hr : ∀ g, 0 < n → A = some ⟨g, 0, none⟩ → row ≠ some g) : OwnI W w' A n Z := by
  rcases h with h | ⟨g, ha, h1, h2, hc⟩
  · exact .inl h
  · by_cases h0 : 0 < n
    · have hb := hg.block g h2 (Ne.symm (hr g h0 ha))
      exact .inr ⟨g, ha, h1, Nat.lt_of_lt_of_le h2 hg.size, fun k hk => ⟨(World.cell?_of_block (w := w) (a := ⟨g, k, none⟩) hb).trans (hc k hk).1, (World.frozen?_of_block (w := w) (a := ⟨g, k, none⟩) hb).trans (hc k hk).2⟩⟩
    · exact .inl (by omega)
/-- the first cell of a row of symbols is a text -/
theorem symrow_text {lo k : Nat} {w : World} {v : Value} {LA : Nat → Option Addr} {LC : Nat → Nat} {L : Sy} (hk : 0 < k) (h : w.ownsRow lo 34 3 v k (symsC k LA LC L)) (g : Nat) (he : v.ownBlock = some g) : w.cell? ⟨g, 0, none⟩ = some (.string (L.Nm 0)) := by
  obtain ⟨hl, ⟨rfl, h0⟩ | ⟨g', cap, cur, rfl, hg, hh, h1, h2, h3, h4⟩⟩ := h
  · omega
  · simp only [Value.ownBlock, Option.some.injEq] at he
    subst he
    have e : (cur.toList.take (k * 3))[0]? = some (symV LA LC L (0 * 3)) := by rw [h4]; unfold symsC; simp [show 0 < k * 3 by omega]
    rw [List.getElem?_take_of_lt (by omega), Array.getElem?_toList] at e
    simp [World.cell?, hh, e, symV_0]
    rw [show (0 : Nat) = 0 * 3 from rfl, symV_0]
theorem YBld.step {lo k n c : Nat} {W wr w2 w3 : World} {v v' : Value} {LA : Nat → Option Addr} {LC : Nat → Nat} {L : Sy} {nm : ByteArray} {A : Option Addr} {Z : Nat → Int} {s : Int} {o : Obj} (h : YBld lo W wr v k LA LC L) (hq : Below wr.heap.size wr w2)
    (hW : W.heap.size ≤ wr.heap.size) (hnc : n ≤ c) (hc : c ≤ 9223372036854775807) (hA : OwnI wr w2 A n Z) (hg : (w2.alloc o).grownBy w3 v.ownBlock)
    (hown : w3.ownsRow lo 34 3 v' (k + 1) (symsC k LA LC L ++ [.string nm, .slice A n c, .int .i64 s])) :
    YBld lo W w3 v' (k + 1) (fun i => if i = k then A else LA i) (fun i => if i = k then c else LC i) (putY L k nm n Z s) := by
  have hga : w2.grownBy (w2.alloc o) none := World.grownBy_alloc w2 o none
  have h2 := h.below hq
  refine ⟨by rw [symsC_put]; exact hown, fun i hi => ?_, fun i j hij hj => ?_⟩
  · by_cases e : i = k
    · simp only [e, putY, if_pos rfl, ite_true]
      refine ⟨hnc, hc, ?_⟩
      have hA2 : OwnI W w2 A n Z := hA.old hW
      refine (hA2.grow hga (fun _ _ _ => by simp)).grow hg fun g h0 ha he => ?_
      have hlt := (h.own.lt g he).2
      rcases hA with h' | ⟨g', ha', h1', _⟩
      · omega
      · rw [ha] at ha'
        injection ha' with e1
        injection e1 with e1 _ _
        omega
    · have hi' : i < k := by omega
      simp only [putY, if_neg e]
      obtain ⟨a1, a2, a3⟩ := h2.arg i hi'
      refine ⟨a1, a2, (a3.grow hga (fun _ _ _ => by simp)).grow hg fun g h0 ha he => ?_⟩
      have ht := symrow_text (by omega) h2.own g he
      rcases a3 with h' | ⟨g', ha', _, _, hc'⟩
      · omega
      · rw [ha] at ha'
        injection ha' with e1
        injection e1 with e1 _ _
        subst e1
        have := (hc' 0 h0).1
        rw [ht] at this
        injection this with this
        injection this
  · by_cases e : j = k
    · have hi' : i < k := by omega
      have hne : ¬ i = k := by omega
      simp only [putY, if_neg hne, if_pos e]
      obtain ⟨_, _, a3⟩ := h.arg i hi'
      rcases a3 with h' | ⟨g', ha', _, hgl, _⟩
      · exact .inl h'
      · rcases hA with h'' | ⟨g'', ha'', hgl'', _⟩
        · exact .inr (.inl h'')
        · refine .inr (.inr fun e' => ?_)
          rw [ha', ha''] at e'
          injection e' with e1
          injection e1 with e1 _ _
          omega
    · have hne : ¬ i = k := by omega
      simp only [putY, if_neg hne, if_neg e]
      exact h.dis i j hij (by omega)
/-- a built list is read -/
theorem YBld.syms {lo k : Nat} {W w : World} {v : Value} {LA : Nat → Option Addr} {LC : Nat → Nat} {L : Sy} (hN : SmY k L) (h : YBld lo W w v k LA LC L) : ∃ A c, v = .slice A k c ∧ k ≤ c ∧ c ≤ 9223372036854775807 ∧ Syms w A k L := by
  obtain ⟨hl, ⟨rfl, rfl⟩ | ⟨g, cap, cur, rfl, hg, hh, h1, h2, h3, h4⟩⟩ := h.own
  · exact ⟨none, 0, rfl, Nat.le_refl _, by omega, .inl rfl⟩
  · have at_ : ∀ j, j < k * 3 → w.cell? ⟨g, j, none⟩ = some (symV LA LC L j) := by
      intro j hj
      have e : (cur.toList.take (k * 3))[j]? = some (symV LA LC L j) := by rw [h4]; unfold symsC; simp [hj]
      rw [List.getElem?_take_of_lt hj, Array.getElem?_toList] at e
      simp [World.cell?, hh, e]
    refine ⟨_, cap, rfl, h1, by unfold maxLen at h2; omega, .inr ⟨g, 0, rfl, (Array.getElem?_eq_some_iff.1 hh).1, fun i hi => ⟨LA i, LC i, ?_, ?_, ?_, by have := hN i hi; omega, by have := hN i hi; omega, (h.arg i hi).2.2.ints⟩⟩⟩
    · rw [Nat.zero_add, at_ _ (by omega), symV_0]
    · rw [Nat.zero_add, at_ _ (by omega), symV_1]
    · rw [Nat.zero_add, at_ _ (by omega), symV_2]
end Go.Proofs.YtcnlolocppbcjaaDoor

namespace Go.Proofs.YtcnlolocppbcjaaDoor
set_option linter.unusedVariables false
set_option linter.unusedSimpArgs false
open Go.Shelf Go.RowKit Go.Joins
theorem nm_10 {nm : ByteArray} (h : nameB nm = true) : (10 : UInt8) ∉ nm.data.toList := by
  intro hm
  obtain ⟨j, hj⟩ := List.mem_iff_getElem?.1 hm
  have hl : j < nm.data.toList.length := (List.getElem?_eq_some_iff.1 hj).1
  have hz : j < nm.size := by simpa using hl
  have h1 := (nameB_iff.1 h).2.2 j hz
  rw [get_bang hz] at h1
  have h2 : nm[j] = 10 := by
    have := (List.getElem?_eq_some_iff.1 hj).2
    simp at this
    exact this
  rw [h2] at h1
  exact absurd h1 (by decide)
theorem symK_10 {nm : ByteArray} {n : Nat} {Z : Nat → Int} {s : Int} (h : symB nm n Z s = true) : (10 : UInt8) ∉ symK nm n Z s := by
  unfold symK
  intro hm
  rw [List.mem_append, List.mem_cons, List.mem_append, List.mem_cons, List.mem_singleton] at hm
  rcases hm with hm | hm | hm | hm | hm
  · exact nm_10 (symB_iff.1 h).1 hm
  · exact absurd hm (by decide)
  · split at hm
    · exact absurd hm (by decide)
    · rcases joinA_mem hm with h | h <;> exact absurd h (by decide)
  · exact absurd hm (by decide)
  · rcases dgB_mem s with h1 | h1 <;> rw [h1] at hm <;> exact absurd hm (by decide)
/-- the line of the k-th symbol -/
def lnK (L : Sy) (k : Nat) : List UInt8 := symK (L.Nm k) (L.N k) (L.Z k) (L.S k)
/-- the lines from i on -/
def sigF (L : Sy) (i : Nat) : Nat → List UInt8
  | 0 => []
  | m + 1 => lnK L i ++ 10 :: sigF L (i + 1) m
theorem sigF_add (L : Sy) : ∀ (m i : Nat), sigL L i ++ sigF L i m = sigL L (i + m)
  | 0, i => by simp [sigF]
  | m + 1, i => by
    rw [sigF, show i + (m + 1) = i + 1 + m by omega, ← sigF_add L m (i + 1), sigL, symL_K]
    simp [lnK]
theorem sigF_all (L : Sy) (n : Nat) : sigF L 0 n = sigL L n := by
  have := sigF_add L n 0
  simpa [sigL] using this
theorem sigF_ne {L : Sy} {i m : Nat} (h : 0 < m) : sigF L i m ≠ [] := by
  obtain ⟨p, rfl⟩ : ∃ p, m = p + 1 := ⟨m - 1, by omega⟩
  rw [sigF]; simp
theorem sigF_cut {L : Sy} {i m : Nat} (h : symB (L.Nm i) (L.N i) (L.Z i) (L.S i) = true) : Lib.cut (sigF L i (m + 1)) [10] = (lnK L i, sigF L (i + 1) m, true) := by
  rw [sigF]; exact cut_one (symK_10 h)
theorem sigF_split {L : Sy} : ∀ {m i : Nat}, (∀ j, i ≤ j → j < i + m → symB (L.Nm j) (L.N j) (L.Z j) (L.S j) = true) → splitL 10 (sigF L i m) = (List.range m).map (fun j => lnK L (i + j)) ++ [[]]
  | 0, i, _ => rfl
  | m + 1, i, h => by
    rw [sigF, split_at (u := lnK L i) _ (symK_10 (h i (Nat.le_refl _) (by omega))), sigF_split (m := m) (i := i + 1) (fun j h1 h2 => h j (by omega) (by omega)), List.range_succ_eq_map]
    simp [Function.comp_def, Nat.add_assoc, Nat.add_comm 1]
/-- two lists of k symbols say the same -/
def SyEq (k : Nat) (L M : Sy) : Prop := ∀ i, i < k → L.Nm i = M.Nm i ∧ L.N i = M.N i ∧ (∀ j, j < L.N i → L.Z i j = M.Z i j) ∧ L.S i = M.S i
/-- the text is that of the vocabulary -/
def SgOk (l : List UInt8) (n : Nat) (L : Sy) : Prop := sigB n L = true ∧ l = sigL L n
theorem sg_lines {l : List UInt8} {n : Nat} {L : Sy} (h : SgOk l n L) : splitL 10 l = (List.range n).map (lnK L) ++ [[]] ∧ (∀ i, i < n → LnOk (lnK L i) (L.Nm i) (L.N i) (L.Z i) (L.S i)) ∧ n ≤ 7 := by
  obtain ⟨h1, rfl⟩ := h
  obtain ⟨h2, h3, _⟩ := sigB_iff.1 h1
  refine ⟨?_, fun i hi => ⟨h3 i hi, rfl⟩, h2⟩
  rw [← sigF_all, sigF_split (fun j _ hj => h3 j (by omega))]
  simp
theorem ln_inj {l : List UInt8} {nm nm' : ByteArray} {n n' : Nat} {Z Z' : Nat → Int} {s s' : Int} (h : LnOk l nm n Z s) (h' : LnOk l nm' n' Z' s') : nm = nm' ∧ n = n' ∧ (∀ j, j < n → Z j = Z' j) ∧ s = s' := by
  obtain ⟨a0, a1, a2, a3⟩ := ln_read h
  obtain ⟨b0, b1, b2, b3⟩ := ln_read h'
  refine ⟨a0.symm.trans b0, a1.symm.trans b1, fun j hj => (a2 j hj).symm.trans (b2 j (by omega)), ?_⟩
  rw [a3] at b3
  injection b3
theorem sg_inj {l : List UInt8} {n m : Nat} {L M : Sy} (h : SgOk l n L) (h' : SgOk l m M) : n = m ∧ SyEq n L M := by
  obtain ⟨a0, a1, _⟩ := sg_lines h
  obtain ⟨b0, b1, _⟩ := sg_lines h'
  have he := a0.symm.trans b0
  have hl := congrArg List.length he
  simp at hl
  subst hl
  refine ⟨rfl, fun i hi => ?_⟩
  have hm := List.append_cancel_right he
  have hi' : lnK L i = lnK M i := by
    have := congrArg (fun x => x[i]?) hm
    simpa [hi] using this
  exact ln_inj (a1 i hi) (by rw [hi']; exact b1 i hi)
/-- lines that were read, up to k: each that is a symbol's is that symbol -/
def RdY (ln : Nat → List UInt8) (k : Nat) (L : Sy) : Prop := ∀ i, i < k → ∀ nm n Z s, LnOk (ln i) nm n Z s → L.Nm i = nm ∧ L.N i = n ∧ (∀ j, j < n → L.Z i j = Z j) ∧ L.S i = s
theorem RdY.step {ln : Nat → List UInt8} {k : Nat} {L : Sy} {nm : ByteArray} {n : Nat} {Z : Nat → Int} {s : Int} (h : RdY ln k L) (hn : ∀ nm' n' Z' s', LnOk (ln k) nm' n' Z' s' → nm = nm' ∧ n = n' ∧ (∀ j, j < n → Z j = Z' j) ∧ s = s') : RdY ln (k + 1) (putY L k nm n Z s) := by
  intro i hi nm' n' Z' s' hl
  by_cases e : i = k
  · subst e
    obtain ⟨h0, h1, h2, h3⟩ := hn _ _ _ _ hl
    simp only [putY, if_pos rfl]
    exact ⟨h0, h1, fun j hj => h2 j (by omega), h3⟩
  · simp only [putY, if_neg e]
    exact h i (by omega) _ _ _ _ hl
end Go.Proofs.YtcnlolocppbcjaaDoor

namespace Go.Proofs.YtcnlolocppbcjaaDoor
set_option linter.unusedVariables false
set_option linter.unusedSimpArgs false
open Go.Shelf Go.RowKit Go.Joins
theorem joinA_congr {Z Y : Nat → Int} : ∀ {n : Nat}, (∀ j, j < n → Z j = Y j) → joinA Z n = joinA Y n
  | 0, _ => rfl
  | n + 1, h => by rw [joinA, joinA, joinA_congr (n := n) (fun j hj => h j (by omega)), h n (by omega)]
theorem lnK_congr {L M : Sy} {i : Nat} (h : L.Nm i = M.Nm i ∧ L.N i = M.N i ∧ (∀ j, j < L.N i → L.Z i j = M.Z i j) ∧ L.S i = M.S i) : lnK L i = lnK M i := by
  obtain ⟨h0, h1, h2, h3⟩ := h
  unfold lnK symK
  rw [← h0, ← h1, ← h3, joinA_congr h2]
theorem symB_congrS {L M : Sy} {i : Nat} (h : L.Nm i = M.Nm i ∧ L.N i = M.N i ∧ (∀ j, j < L.N i → L.Z i j = M.Z i j) ∧ L.S i = M.S i) (hb : symB (M.Nm i) (M.N i) (M.Z i) (M.S i) = true) : symB (L.Nm i) (L.N i) (L.Z i) (L.S i) = true := by
  obtain ⟨h0, h1, h2, h3⟩ := h
  obtain ⟨b0, b1, b2, b3⟩ := symB_iff.1 hb
  rw [h0, h3]
  exact symB_iff.2 ⟨b0, by omega, fun j hj => by rw [h2 j hj]; exact b2 j (by omega), b3⟩
theorem sigL_congr {L M : Sy} : ∀ {n : Nat}, SyEq n L M → sigL L n = sigL M n
  | 0, _ => rfl
  | n + 1, h => by
    have h1 := lnK_congr (h n (by omega))
    unfold lnK at h1
    rw [sigL, sigL, sigL_congr (n := n) (fun i hi => h i (by omega)), symL_K, symL_K, h1]
theorem sg_congr {l : List UInt8} {n : Nat} {L M : Sy} (h : SyEq n L M) (hM : SgOk l n M) : SgOk l n L := by
  obtain ⟨h1, rfl⟩ := hM
  obtain ⟨h2, h3, h4⟩ := sigB_iff.1 h1
  refine ⟨sigB_iff.2 ⟨h2, fun k hk => symB_congrS (h k hk) (h3 k hk), ?_⟩, (sigL_congr h).symm⟩
  exact ascB_iff.2 fun k hk hk1 => by rw [(h k hk).1, (h (k + 1) hk1).1]; exact ascB_iff.1 h4 k hk hk1
/-- what was read is the vocabulary of the text, or there is none -/
theorem sg_final {l : List UInt8} {k : Nat} {L : Sy} {ln : Nat → List UInt8} (hRd : RdY ln k L) (hk : ∀ n M, SgOk l n M → k = n ∧ ∀ i, i < n → ln i = lnK M i) : SgOk l k L ∨ ∀ n M, ¬ SgOk l n M := by
  by_cases h : ∃ n M, SgOk l n M
  · obtain ⟨n, M, h⟩ := h
    obtain ⟨rfl, hl⟩ := hk n M h
    refine .inl (sg_congr (M := M) (fun i hi => ?_) h)
    obtain ⟨e0, e1, e2, e3⟩ := hRd i hi (M.Nm i) (M.N i) (M.Z i) (M.S i) (by rw [hl i hi]; exact (sg_lines h).2.1 i hi)
    exact ⟨e0, e1, fun j hj => e2 j (by omega), e3⟩
  · exact .inr fun n M hM => h ⟨n, M, hM⟩
/-- the answer: the vocabulary of the text, or none -/
def SgV (l : List UInt8) (k : Nat) (L : Sy) (ok : Bool) : Prop := (ok = true ∧ SgOk l k L) ∨ (ok = false ∧ k = 0 ∧ ∀ n M, ¬ SgOk l n M)
theorem sgV_same {l : List UInt8} {k m : Nat} {L M : Sy} {a b : Bool} (h : SgV l k L a) (h' : SgV l m M b) : a = b ∧ k = m ∧ SyEq k L M := by
  rcases h with ⟨rfl, h⟩ | ⟨rfl, rfl, h⟩ <;> rcases h' with ⟨rfl, h'⟩ | ⟨rfl, rfl, h'⟩
  · exact ⟨rfl, sg_inj h h'⟩
  · exact absurd h (h' _ _)
  · exact absurd h' (h _ _)
  · exact ⟨rfl, rfl, fun i hi => absurd hi (by omega)⟩
theorem ty_neS {lo B n size : Nat} {t u : TypeId} {w : World} {v : Value} {Y : List Value} (hne : t ≠ u) (h : TyB B t w) (ho : w.ownsRow lo u size v n Y) : v.ownBlock ≠ some B := by
  obtain ⟨c, f, h⟩ := h
  obtain ⟨_, ⟨rfl, _⟩ | ⟨g, cap, cur, rfl, _, hh, _⟩⟩ := ho
  · simp [Value.ownBlock]
  · intro e
    simp only [Value.ownBlock, Option.some.injEq] at e
    subst e
    rw [h] at hh
    injection hh with hh
    injection hh with _ e2 _
    exact hne e2
theorem own_setS {lo B o n size : Nat} {t u : TypeId} {w : World} {v x : Value} {Y : List Value} (hne : t ≠ u) (hT : TyB B t w) (ho : w.ownsRow lo u size v n Y) : (w.setCell ⟨B, o, none⟩ x).ownsRow lo u size v n Y := by
  have hnb := ty_neS hne hT ho
  obtain ⟨h1, h | ⟨g, cap, cur, rfl, h2, hh, h3⟩⟩ := ho
  · exact ⟨h1, .inl h⟩
  · refine ⟨h1, .inr ⟨g, cap, cur, rfl, h2, ?_, h3⟩⟩
    have : B ≠ g := fun e => hnb (by simp [Value.ownBlock, e])
    exact (Below.heap_setCell w ⟨B, o, none⟩ x g (by simp only; omega)).trans hh
theorem blk_keepS {b : Nat} {row : Option Nat} {wr w2 w3 : World} {o : Obj} (hbr : b < wr.heap.size) (hnb : row ≠ some b) (hq : Below wr.heap.size wr w2) (hg : (w2.alloc o).grownBy w3 row) : w3.heap[b]? = wr.heap[b]? := by
  have hb2 : b < w2.heap.size := Nat.lt_of_lt_of_le hbr hq.size
  refine (hg.block b (by simp; omega) (Ne.symm hnb)).trans ?_
  exact ((Below.refl w2.heap.size w2).alloc (Nat.le_refl _) _).block b hb2 |>.trans (hq.block b hbr)
/-- the box of the vocabulary that is read -/
def BoxY (B : Nat) (w : World) (v : Value) : Prop := w.cell? ⟨B, 0, none⟩ = some v ∧ w.frozen? ⟨B, 0, none⟩ = false ∧ TyB B 24 w
theorem BoxY.below {B : Nat} {w w' : World} {v : Value} (h : BoxY B w v) (hq : Below w.heap.size w w') : BoxY B w' v := ⟨carry hq h.1, carryf hq h.2.1 (cell_lt h.1), h.2.2.below hq⟩
theorem BoxY.put {B : Nat} {w : World} {v : Value} (x : Value) (h : BoxY B w v) : BoxY B (w.setCell ⟨B, 0, none⟩ x) x := ⟨World.cell?_setCell_same _ _ _ h.1, by simpa [go_sem] using h.2.1, h.2.2.set x⟩
theorem BoxY.keep {B : Nat} {row : Option Nat} {wr w2 w3 : World} {v : Value} {o : Obj} (h : BoxY B wr v) (hnb : row ≠ some B) (hq : Below wr.heap.size wr w2) (hg : (w2.alloc o).grownBy w3 row) : BoxY B w3 v := by
  have hb := blk_keepS (cell_lt h.1) hnb hq hg
  obtain ⟨c, f, hc⟩ := h.2.2
  exact ⟨(World.cell?_of_block (w := wr) (a := ⟨B, 0, none⟩) hb).trans h.1, (World.frozen?_of_block (w := wr) (a := ⟨B, 0, none⟩) hb).trans h.2.1, c, f, hb.trans hc⟩
theorem YBld.put {lo k B n c : Nat} {a : Option Addr} {W w : World} {v x : Value} {LA : Nat → Option Addr} {LC : Nat → Nat} {L : Sy} (hX : BoxY B w (.slice a n c)) (h : YBld lo W w v k LA LC L) : YBld lo W (w.setCell ⟨B, 0, none⟩ x) v k LA LC L := by
  refine ⟨own_setS (by decide) hX.2.2 h.own, fun i hi => ⟨(h.arg i hi).1, (h.arg i hi).2.1, ?_⟩, h.dis⟩
  rcases (h.arg i hi).2.2 with h0 | ⟨g, ha, h1, h2, hc⟩
  · exact .inl h0
  · by_cases h0 : 0 < L.N i
    · have hne : g ≠ B := fun e => by
        have := (hc 0 h0).1
        rw [e, hX.1] at this
        injection this with this
        injection this
      exact .inr ⟨g, ha, h1, by simpa using h2, fun j hj => ⟨by rw [World.cell?_setCell_other _ _ _ _ (by simp <;> omega)]; exact (hc j hj).1, by simpa [go_sem] using (hc j hj).2⟩⟩
    · exact .inl (by omega)
theorem low_belS {lo l0 k size : Nat} {t : TypeId} {w0 wr w2 w3 : World} {Y : List Value} {v : Value} {o : Obj} (hl : l0 ≤ lo) (hlr : l0 ≤ wr.heap.size)
    (ho : wr.ownsRow lo t size v k Y) (hq : Below wr.heap.size wr w2) (hg : (w2.alloc o).grownBy w3 v.ownBlock) (hb : Below l0 w0 wr) : Below l0 w0 w3 := by
  refine (hb.trans ((hq.mono hlr).alloc (by have := hq.size; omega) _)).grown hg (by have := hq.size; simp; omega) ?_
  intro j hj
  have := (ho.lt j hj).1
  omega
theorem SmY.put {k n : Nat} {L : Sy} {nm : ByteArray} {Z : Nat → Int} {s : Int} (h : SmY k L) (hn : n ≤ 1048576) (hm : nm.size ≤ 1048576) : SmY (k + 1) (putY L k nm n Z s) := by
  intro i hi
  by_cases e : i = k
  · simp only [putY, if_pos e]; exact ⟨hn, hm⟩
  · simp only [putY, if_neg e]; exact h i (by omega)
theorem YBld.setLow {lo k p o : Nat} {W w : World} {v : Value} {LA : Nat → Option Addr} {LC : Nat → Nat} {L : Sy} (x : Value) (hp : p < lo) (hW : p < W.heap.size) (h : YBld lo W w v k LA LC L) : YBld lo W (w.setCell ⟨p, o, none⟩ x) v k LA LC L :=
  ⟨ownsRow_setCell_below h.own (a := ⟨p, o, none⟩) hp x, fun i hi => ⟨(h.arg i hi).1, (h.arg i hi).2.1, (h.arg i hi).2.2.set x hW⟩, h.dis⟩
theorem new_threeS (w : World) (x y z : Value) (t : TypeId) : ∀ (j : Nat) (u : Value), ([x, y, z] : List Value)[j]? = some u → (w.alloc (.cells #[x, y, z] t)).cell? ((⟨w.heap.size, 0, none⟩ : Addr).add j) = some u := by
  intro j u h
  match j with
  | 0 => simp at h; subst h; simp [go_sem, Addr.add]
  | 1 => simp at h; subst h; simp [go_sem, Addr.add]
  | 2 => simp at h; subst h; simp [go_sem, Addr.add]
  | j + 3 => simp at h
end Go.Proofs.YtcnlolocppbcjaaDoor
