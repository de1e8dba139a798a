/- Bytes that are built: helpers; one digit in decimals, program and model. -/
import Derived.Test.YtlojneoadibigaaDoorSigD
import Derived.Test.YtlojneoadibigaaDoorBuild
import Derived.Lib.AppendIntMem
import Derived.Lib.SmallJoins
import Derived.Laws.BytesString
namespace Go.Proofs.YtlojneoadibigaaDoor
set_option linter.unusedVariables false
set_option linter.unusedSimpArgs false
open Go.Shelf Go.RowKit Go.Joins
theorem ret_i64 {a b : Int} (h : a = b) : Ending.returned (.int .i64 a) = .returned (.int .i64 b) := by rw [h]
abbrev BLD (B b : Nat) (p : Value) (l : List UInt8) (w : World) : Prop := Lib.BuilderAt 61 5 B b p (Lib.byteCells l) w
abbrev ISB (B b : Nat) (l : List UInt8) (w : World) : Prop := Lib.IsBuilder 61 5 B b (Lib.byteCells l) w
theorem bld_below {T e : TypeId} {B b : Nat} {p : Value} {bs : List Value} {W W' : World} (h : Lib.BuilderAt T e B b p bs W) (hb : Below W.heap.size W W') : Lib.BuilderAt T e B b p bs W' := by
  have hlt := h.lt
  obtain ⟨hB, v, hv, hown, hne⟩ := h
  exact ⟨hB, v, (hb.block b hlt).trans hv, hown.kept (row := none) ⟨hb.os, hb.tape, hb.output, hb.size, fun k hk _ => hb.block k hk⟩ (Classical.em _), hne⟩
theorem isb_below {T e : TypeId} {B b : Nat} {bs : List Value} {W W' : World} (h : Lib.IsBuilder T e B b bs W) (hb : Below W.heap.size W W') : Lib.IsBuilder T e B b bs W' := by
  rcases h with h | h
  · exact .inl (bld_below h hb)
  · exact .inr (bld_below h hb)
theorem isb_lt {T e : TypeId} {B b : Nat} {bs : List Value} {W : World} (h : Lib.IsBuilder T e B b bs W) : b < W.heap.size := by
  rcases h with h | h
  · exact h.lt
  · exact h.lt
theorem bld_new (w : World) : Lib.BuilderAt 61 5 w.heap.size w.heap.size (.pointer none) [] (w.alloc (.cells #[.pointer none, .slice none 0 0] 61)) := by
  refine ⟨Nat.le_refl _, .slice none 0 0, ?_, ⟨by simp, .inl ⟨rfl, rfl⟩⟩, by simp [Value.ownBlock]⟩
  show (w.heap.push _)[w.heap.size]? = _
  simp
theorem cell_heap {w : World} {x : Nat} {c : Array Value} {t : TypeId} {o : Nat} {v : Value} (h : w.heap[x]? = some (.cells c t (0, 0))) (hc : c[o]? = some v) : w.cell? ⟨x, o, none⟩ = some v := by
  simp [World.cell?, h, hc]
theorem heap_new (w : World) (c : Array Value) (t : TypeId) : (w.alloc (.cells c t)).heap[w.heap.size]? = some (.cells c t (0, 0)) := by
  show (w.heap.push _)[w.heap.size]? = _
  simp
theorem heap_old {w : World} {x : Nat} {o o' : Obj} (h : w.heap[x]? = some o) : (w.alloc o').heap[x]? = some o := by
  exact (((Below.refl w.heap.size w).alloc (Nat.le_refl _) o').block x (heap_lt h)).trans h
/-- what write leaves of the builder -/
def WriP (W0 : World) (b : Nat) (l : List UInt8) (w : World) (e : Ending) (w' : World) : Prop :=
  e = .returned (.tuple #[]) ∧ BLD W0.heap.size b (.pointer (some ⟨b, 0, none⟩)) l w' ∧ Below W0.heap.size W0 w' ∧ KeepsT b w w'
theorem byteCells_snoc (l : List UInt8) (c : UInt8) : Lib.byteCells l ++ [.int .u8 (c.toNat : Int)] = Lib.byteCells (l ++ [c]) := by rw [Lib.byteCells_append]; rfl
theorem bld_to {B b : Nat} {p : Value} {bs : List Value} {l : List UInt8} {w : World} (h : Lib.BuilderAt 61 5 B b p bs w) (e : bs = Lib.byteCells l) : BLD B b p l w := by subst e; exact h
theorem nDigits_lt : ∀ (k u : Nat), u < 10 ^ (k + 1) → Lib.nDigits u ≤ k + 1 := by
  intro k
  induction k with
  | zero => intro u hu; rw [Lib.nDigits_small (by omega)]; omega
  | succ k ih =>
    intro u hu
    by_cases h : u < 10
    · rw [Lib.nDigits_small h]; omega
    · rw [Lib.nDigits_big h]
      have := ih (u / 10) (by rw [Nat.div_lt_iff_lt_mul (by omega)]; rw [Nat.pow_succ] at hu; exact hu)
      omega
theorem dec_big {u : Nat} (h : ¬ u < 10) : Lib.decDigits u = Lib.decDigits (u / 10) ++ [UInt8.ofNat (48 + u % 10)] := by rw [Lib.decDigits, dif_neg h]
theorem dec_small {u : Nat} (h : u < 10) : Lib.decDigits u = [UInt8.ofNat (48 + u)] := by rw [Lib.decDigits, dif_pos h]
theorem dec_len {u : Nat} (h : u ≤ 1000000000000000000) : (Lib.decDigits u).length ≤ 19 := by
  rw [Lib.decDigits_length]; exact nDigits_lt 18 u (by omega)
theorem digit_str (w : World) (m : Nat) (hm : m < 10) :
    (convert 28 9 (.slice (some ⟨w.heap.size, 0, none⟩) 1 1)).run Tryd.prog (w.alloc (.cells #[.int .u8 (48 + (m : Int))] 5)) = .ok (.string ⟨#[UInt8.ofNat (48 + m)]⟩) (w.alloc (.cells #[.int .u8 (48 + (m : Int))] 5)) := by
  refine run_convert_bytes_back _ 28 9 5 ⟨w.heap.size, 0, none⟩ 1 [UInt8.ofNat (48 + m)] Tryd.underlying28 Tryd.underlying5 Tryd.underlying9 ?_
  intro j hj
  have hj0 : j = 0 := by simpa using hj
  subst hj0
  have h1 : (UInt8.ofNat (48 + m)).toNat = 48 + m := by rw [UInt8.toNat_ofNat']; omega
  show (w.alloc _).cell? ⟨w.heap.size, 0, none⟩ = _
  rw [World.cell?_alloc_new]
  simp only [List.getElem_cons_zero, h1]
  simp
theorem cat_cons (c : UInt8) (l : List UInt8) : (⟨#[c]⟩ : ByteArray) ++ ⟨l.toArray⟩ = ⟨(c :: l).toArray⟩ := by
  apply ByteArray.ext
  rw [ByteArray.data_append]
  show #[c] ++ l.toArray = _
  rw [show #[c] = [c].toArray from rfl, List.append_toArray]
  rfl
theorem below_new {w wr : World} (hb : Below w.heap.size w wr) (o : Obj) : Below w.heap.size w (wr.alloc o) := btr hb (bal (Below.refl _ _) _)
set_option maxRecDepth 100000 in
set_option maxHeartbeats 4000000 in
theorem dec_core (n : Nat) (L : List UInt8) (w : World) (hn : n ≤ 1000000000000000000) (HL : Hid (Lib.decDigits n = L)) :
    Calls Tryd.prog 31 #[.int .i64 n] w fun e w' => e = .returned (.string ⟨L.toArray⟩) ∧ Below w.heap.size w w' := by
  go_enter Tryd.func31, Tryd.ntmps31
  go_wp2
  go_loopw [0, 3] (fun a o wr => ∃ (k : Nat) (l : List UInt8), k ≤ n ∧ a = .int .i64 k ∧ o = .string ⟨l.toArray⟩ ∧ Lib.decDigits k ++ l = L ∧ Below w.heap.size w wr) (fun a _ _ => (intOf a).toNat)
  case atStart => exact ⟨n, [], Nat.le_refl _, rfl, rfl, by rw [List.append_nil]; exact HL.out, Below.refl _ _⟩
  case round =>
    obtain ⟨k, l, hk, rfl, rfl, hd, hb⟩ := hrel
    have hl : l.length ≤ 19 := by have h1 := congrArg List.length (hd.trans HL.out.symm); have h2 := dec_len hn; rw [List.length_append] at h1; omega
    have HD := hid hd; clear hd
    have HB := hid hb; clear hb
    generalize hs : (⟨l.toArray⟩ : ByteArray) = s
    have HS := hid hs; clear hs
    have hz : s.size ≤ 19 := by rw [← HS.out]; exact hl
    by_cases h9 : k < 10
    · have hd := digit_str wr k h9
      generalize hc : UInt8.ofNat (48 + k) = c at hd
      have HC := hid hc; clear hc
      go_wp2
      go_ret
      refine ⟨?_, below_new HB.out _⟩
      rw [← HS.out, cat_cons, ← HD.out, dec_small h9, HC.out]
      rfl
    · have hk10 : k / 10 ≤ n := by omega
      have hd := digit_str wr (k % 10) (by omega)
      generalize hc : UInt8.ofNat (48 + k % 10) = c at hd
      have HC := hid hc; clear hc
      go_wp2
      rw [show (48 + (k : Int) % 10) = 48 + ((k % 10 : Nat) : Int) by omega]
      rw [hd]
      go_wp2
      refine ⟨⟨k / 10, c :: l, hk10, ?_, ?_, ?_, below_new HB.out _⟩, ?_⟩
      · show Value.int IntKind.i64 ((k : Int) / 10) = Value.int IntKind.i64 ((k / 10 : Nat) : Int)
        rw [show ((k : Int) / 10) = ((k / 10 : Nat) : Int) by omega]
      · rw [← HS.out, cat_cons]
      · rw [← HD.out, dec_big h9, HC.out, List.append_assoc]
        rfl
      · show ((k : Int) / 10).toNat < (k : Int).toNat
        omega
theorem ldec_nat (n : Nat) (w : World) (hn : n ≤ 1000000000000000000) :
    Calls Tryd.prog 31 #[.int .i64 n] w fun e w' => e = .returned (.string ⟨(Lib.decDigits n).toArray⟩) ∧ Below w.heap.size w w' :=
  dec_core n _ w hn (hid rfl)
/-- the digit of a sort -/
def dgB (z : Int) : UInt8 := if z = 0 then 48 else 49
theorem sortB_01 {z : Int} (h : sortB z = true) : z = 0 ∨ z = 1 := of_decide_eq_true h
theorem itoa01 {z : Int} (h : sortB z = true) (w : World) : Calls Tryd.prog 28 #[.int .i64 z] w fun e w' => e = .returned (.string ⟨[dgB z].toArray⟩) ∧ w = w' := by
  rcases sortB_01 h with rfl | rfl
  · refine (Tryd.strconv_Itoa_small 0 (by omega) w).mono ?_
    rintro e w' ⟨rfl, rfl⟩
    exact ⟨by rw [dec_small (by omega)]; rfl, rfl⟩
  · refine (Tryd.strconv_Itoa_small 1 (by omega) w).mono ?_
    rintro e w' ⟨rfl, rfl⟩
    exact ⟨by rw [dec_small (by omega)]; rfl, rfl⟩
theorem dec01 {z : Int} (h : sortB z = true) (w : World) : Calls Tryd.prog 31 #[.int .i64 z] w fun e w' => e = .returned (.string ⟨[dgB z].toArray⟩) ∧ Below w.heap.size w w' := by
  rcases sortB_01 h with rfl | rfl
  · refine (ldec_nat 0 w (by omega)).mono ?_
    rintro e w' ⟨rfl, hq⟩
    exact ⟨by rw [dec_small (by omega)]; rfl, hq⟩
  · refine (ldec_nat 1 w (by omega)).mono ?_
    rintro e w' ⟨rfl, hq⟩
    exact ⟨by rw [dec_small (by omega)]; rfl, hq⟩
/-- the digits of sorts -/
def joinA (Z : Nat → Int) : Nat → List UInt8
  | 0 => []
  | k + 1 => joinA Z k ++ [dgB (Z k)]
theorem joinA_len (Z : Nat → Int) : ∀ k, (joinA Z k).length = k
  | 0 => rfl
  | k + 1 => by rw [joinA, List.length_append, joinA_len Z k]; rfl
/-- the line of a symbol -/
def symL (nm : ByteArray) (n : Nat) (Z : Nat → Int) (s : Int) : List UInt8 := nm.data.toList ++ [32] ++ (if n = 0 then [45] else joinA Z n) ++ [32] ++ [dgB s] ++ [10]
def sigL (L : Sy) : Nat → List UInt8
  | 0 => []
  | k + 1 => sigL L k ++ symL (L.Nm k) (L.N k) (L.Z k) (L.S k)
theorem nm_2 {nm : ByteArray} (h : nameB nm = true) : nm.size ≤ 2 := (nameB_iff.1 h).2.1
theorem symL_len {nm : ByteArray} {n : Nat} {Z : Nat → Int} {s : Int} (h : symB nm n Z s = true) : (symL nm n Z s).length ≤ 8 := by
  obtain ⟨h1, h2, _, _⟩ := symB_iff.1 h
  have := nm_2 h1
  have hz : nm.data.toList.length = nm.size := by rw [Array.length_toList]; rfl
  unfold symL
  simp only [List.length_append, List.length_cons, List.length_nil, hz]
  by_cases h0 : n = 0
  · rw [if_pos h0]; simp only [List.length_cons, List.length_nil]; omega
  · rw [if_neg h0, joinA_len]; omega
theorem sigL_len {L : Sy} : ∀ {k : Nat}, (∀ j, j < k → symB (L.Nm j) (L.N j) (L.Z j) (L.S j) = true) → (sigL L k).length ≤ 8 * k
  | 0, _ => Nat.le_refl _
  | k + 1, h => by
    have := sigL_len (k := k) (fun j hj => h j (by omega))
    have := symL_len (h k (by omega))
    rw [sigL, List.length_append]; omega
/-- the text of a vocabulary -/
def sigT (n : Nat) (L : Sy) : List UInt8 := if sigB n L = true then sigL L n else []
end Go.Proofs.YtlojneoadibigaaDoor
