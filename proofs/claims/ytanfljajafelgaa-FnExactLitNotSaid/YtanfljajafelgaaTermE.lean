/- The text of a term: mathematics, and the contract of the program's write and TermText. -/
import Derived.Test.YtanfljajafelgaaBU
import Derived.Test.YtanfljajafelgaaBuild
import Derived.Lib.AppendIntMem
namespace Go.Proofs.Ytanfljajafelgaa
set_option linter.unusedVariables false
set_option linter.unusedSimpArgs false
open Go.Shelf Go.RowKit
def joinK (f : Nat → List UInt8) : Nat → List UInt8
  | 0 => []
  | k + 1 => joinK f k ++ (if k = 0 then 40 else 44) :: f k
/-- the text of a term -/
def txt : Tm → List UInt8
  | .mk nm n kid => nm.data.toList ++ (if n = 0 then [] else joinK (fun k => txt (kid k)) n ++ [41])
  | .bad => []
theorem txt_0 (nm : ByteArray) (kid : Nat → Tm) : txt (.mk nm 0 kid) = nm.data.toList := by rw [txt, if_pos rfl, List.append_nil]
theorem txt_n (nm : ByteArray) {n : Nat} (kid : Nat → Tm) (h : n ≠ 0) : txt (.mk nm n kid) = nm.data.toList ++ (joinK (fun k => txt (kid k)) n ++ [41]) := by rw [txt, if_neg h]
theorem joinK_bd {f : Nat → List UInt8} {m : Nat} : ∀ {n : Nat}, (∀ k, k < n → (f k).length ≤ m) → (joinK f n).length ≤ n * (m + 1)
  | 0, _ => by simp [joinK]
  | n + 1, h => by
    have ih := joinK_bd (n := n) (fun k hk => h k (by omega))
    have := h n (by omega)
    rw [joinK, List.length_append, List.length_cons, Nat.succ_mul]; omega
theorem nm_2 {nm : ByteArray} (h : nameB nm = true) : nm.size ≤ 2 := (nameB_iff.1 h).2.1
theorem txt_bd : ∀ (d : Nat) (t : Tm), shapeB d t = true → (txt t).length ≤ 16 ^ d := by
  intro d
  induction d with
  | zero => intro t h; cases h
  | succ d ih =>
    intro t h
    obtain ⟨nm, n, kid, rfl⟩ := shape_mk h
    obtain ⟨h1, h2, h3⟩ := shape_iff.1 h
    have hp : 1 ≤ 16 ^ d := Nat.one_le_pow _ _ (by omega)
    have hn := nm_2 h1
    have hz : nm.data.toList.length = nm.size := by rw [Array.length_toList]; rfl
    have hs := joinK_bd (f := fun k => txt (kid k)) (m := 16 ^ d) (n := n) (fun k hk => ih _ (h3 k hk))
    have : n * (16 ^ d + 1) ≤ 2 * (16 ^ d + 1) := Nat.mul_le_mul_right _ h2
    rw [Nat.pow_succ]
    by_cases h0 : n = 0
    · subst h0; rw [txt_0, hz]; omega
    · rw [txt_n _ _ h0, List.length_append, List.length_append, hz]; simp only [List.length_cons, List.length_nil]; omega
abbrev BLD (B b : Nat) (p : Value) (l : List UInt8) (w : World) : Prop := Lib.BuilderAt 231 5 B b p (Lib.byteCells l) w
abbrev ISB (B b : Nat) (l : List UInt8) (w : World) : Prop := Lib.IsBuilder 231 5 B b (Lib.byteCells l) w
theorem bld_below {T e : TypeId} {B b : Nat} {p : Value} {bs : List Value} {W W' : World} (h : Lib.BuilderAt T e B b p bs W) (hb : Below W.heap.size W W') : Lib.BuilderAt T e B b p bs W' := by
  have hlt := h.lt
  obtain ⟨hB, v, hv, hown, hne⟩ := h
  exact ⟨hB, v, (hb.block b hlt).trans hv, hown.kept (row := none) ⟨hb.os, hb.tape, hb.output, hb.size, fun k hk _ => hb.block k hk⟩ (Classical.em _), hne⟩
theorem isb_below {T e : TypeId} {B b : Nat} {bs : List Value} {W W' : World} (h : Lib.IsBuilder T e B b bs W) (hb : Below W.heap.size W W') : Lib.IsBuilder T e B b bs W' := by
  rcases h with h | h
  · exact .inl (bld_below h hb)
  · exact .inr (bld_below h hb)
theorem isb_lt {T e : TypeId} {B b : Nat} {bs : List Value} {W : World} (h : Lib.IsBuilder T e B b bs W) : b < W.heap.size := by
  rcases h with h | h
  · exact h.lt
  · exact h.lt
theorem bld_new (w : World) : Lib.BuilderAt 231 5 w.heap.size w.heap.size (.pointer none) [] (w.alloc (.cells #[.pointer none, .slice none 0 0] 231)) := by
  refine ⟨Nat.le_refl _, .slice none 0 0, ?_, ⟨by simp, .inl ⟨rfl, rfl⟩⟩, by simp [Value.ownBlock]⟩
  show (w.heap.push _)[w.heap.size]? = _
  simp
theorem cell_heap {w : World} {x : Nat} {c : Array Value} {t : TypeId} {o : Nat} {v : Value} (h : w.heap[x]? = some (.cells c t (0, 0))) (hc : c[o]? = some v) : w.cell? ⟨x, o, none⟩ = some v := by
  simp [World.cell?, h, hc]
theorem heap_new (w : World) (c : Array Value) (t : TypeId) : (w.alloc (.cells c t)).heap[w.heap.size]? = some (.cells c t (0, 0)) := by
  show (w.heap.push _)[w.heap.size]? = _
  simp
theorem heap_old {w : World} {x : Nat} {o o' : Obj} (h : w.heap[x]? = some o) : (w.alloc o').heap[x]? = some o := by
  exact (((Below.refl w.heap.size w).alloc (Nat.le_refl _) o').block x (heap_lt h)).trans h
/-- what write leaves of the builder -/
def WriP (W0 : World) (b : Nat) (l : List UInt8) (w : World) (e : Ending) (w' : World) : Prop :=
  e = .returned (.tuple #[]) ∧ BLD W0.heap.size b (.pointer (some ⟨b, 0, none⟩)) l w' ∧ Below W0.heap.size W0 w' ∧ KeepsT b w w'
theorem byteCells_snoc (l : List UInt8) (c : UInt8) : Lib.byteCells l ++ [.int .u8 (c.toNat : Int)] = Lib.byteCells (l ++ [c]) := by rw [Lib.byteCells_append]; rfl
def mkB (k : Nat) : UInt8 := if k = 0 then 40 else 44
theorem joinK_succ (f : Nat → List UInt8) (k : Nat) : joinK f (k + 1) = joinK f k ++ (mkB k :: f k) := rfl
theorem bld_to {B b : Nat} {p : Value} {bs : List Value} {l : List UInt8} {w : World} (h : Lib.BuilderAt 231 5 B b p bs w) (e : bs = Lib.byteCells l) : BLD B b p l w := by subst e; exact h
set_option maxRecDepth 100000 in
set_option maxHeartbeats 4000000 in
theorem write_any (W0 : World) (b : Nat) : ∀ (d : Nat), d ≤ 4 → ∀ (t : Tm), Fits 1048576 t → shapeB d t = true → ∀ (A : Option Addr) (c : Nat) (l : List UInt8) (w : World), Kids 0 W0 t A → Below W0.heap.size W0 w → ISB W0.heap.size b l w → l.length + 16 ^ d ≤ 1000000 →
    Calls Try.prog 239 #[.agg #[.string t.nm, .slice A t.n c], .pointer (some ⟨b, 0, none⟩)] w (WriP W0 b (l ++ txt t) w) := by
  intro d
  induction d with
  | zero => rintro _ t _ h; cases h
  | succ d ih =>
    rintro hd (⟨nm, n, kid⟩ | _) ⟨hm, hn, hf⟩ hsh A c l w hA hW hI hl
    change Calls _ _ #[.agg #[.string nm, .slice A n c], _] w _
    obtain ⟨h1, h2, h3⟩ := shape_iff.1 hsh
    have hp : 1 ≤ 16 ^ d := Nat.one_le_pow _ _ (by omega)
    rw [Nat.pow_succ] at hl
    have hnm := nm_2 h1
    have hz : nm.data.toList.length = nm.size := by rw [Array.length_toList]; rfl
    have HT := hid (fun k (hk : k < n) => txt_bd d (kid k) (h3 k hk))
    have HI := hid (fun k hk a cc l' w' hK hW' hB hl' => ih (by omega) (kid k) (hf k hk) (h3 k hk) a cc l' w' hK hW' hB hl')
    clear ih hf h3 hsh h1
    have hx := heap_new w #[.string nm, .slice A n c] 76
    have hbw : b < w.heap.size := isb_lt hI
    have hxb : w.heap.size ≠ b := by omega
    have hW1 : Below W0.heap.size W0 (w.alloc (.cells #[.string nm, .slice A n c] 76)) := bal hW _
    have hI1 := isb_below hI (bal (Below.refl w.heap.size w) (.cells #[.string nm, .slice A n c] 76))
    have hk1 : KeepsT b w (w.alloc (.cells #[.string nm, .slice A n c] 76)) := KeepsT.below (bal (Below.refl _ _) _)
    have hgz := hW.size
    clear hI
    go_enter Try.func239, Try.ntmps239
    go_wp2_with fail
    refine (wstr_any W0.heap.size b (Lib.byteCells l) nm _ hI1 (by rw [Lib.byteCells_length]; omega) hW1.size).mono ?_
    rintro e w2 ⟨rfl, hB2, hb2, hk2⟩
    have hx2 := hk2.2 _ _ _ _ hx (by decide) hxb
    have c1 := cell_heap (o := 1) hx2 rfl
    have hW2 := hW1.trans hb2
    have hK2 := hk1.trans hk2
    have hB2' := bld_to (l := l ++ nm.data.toList) hB2 (by rw [Lib.byteCells_append]; rfl)
    have hbw2 := hB2.lt
    have HB := hid hB2'
    clear hx hx2 hk1 hk2 hI1 hb2 hB2 hB2' hW1
    by_cases h0 : n = 0
    · subst h0
      go_wp2
      go_end0
      rw [txt_0]
      exact ⟨rfl, HB.out, hW2, hK2⟩
    · have e0 : ((n : Int) == 0) = false := by simp; omega
      have H0 := hid h0; clear h0
      go_wp2
      clear c1
      go_loopw [4, 18] (fun q i wr => ∃ (k : Nat) (c : Int), k ≤ n ∧ i = .int .i64 k ∧ q = .int .u8 c ∧ c = ((mkB k).toNat : Int) ∧ BLD W0.heap.size b (.pointer (some ⟨b, 0, none⟩)) (l ++ nm.data.toList ++ joinK (fun k => txt (kid k)) k) wr ∧ Below W0.heap.size W0 wr ∧ KeepsT b w wr) (fun _ i _ => n - (intOf i).toNat)
      case atStart => exact ⟨0, 40, Nat.zero_le _, rfl, rfl, rfl, by rw [joinK, List.append_nil]; exact HB.out, hW2, hK2⟩
      case round =>
        obtain ⟨k, cc, hk, rfl, rfl, hcc, hBk, hWk, hKk⟩ := hrel
        have HC := hid hcc; clear hcc
        clear HB hW2 hK2
        have hjl : (joinK (fun k => txt (kid k)) k).length ≤ k * (16 ^ d + 1) := joinK_bd (fun j hj => HT.out j (by omega))
        have hk2 : k * (16 ^ d + 1) ≤ 2 * (16 ^ d + 1) := Nat.mul_le_mul_right _ (by omega)
        have hLL : (l ++ nm.data.toList ++ joinK (fun k => txt (kid k)) k).length ≤ l.length + 2 + (joinK (fun k => txt (kid k)) k).length := by simp only [List.length_append, hz]; omega
        have hbk := hBk.lt
        have hzk := hWk.size
        by_cases hlt : k < n
        · rcases hA with h0 | ⟨g, off, rfl, _, hg, hcA⟩
          · omega
          obtain ⟨a, ca, a0, a1, hK⟩ := hcA k hlt
          have gg : g < wr.heap.size := Nat.lt_of_lt_of_le hg hWk.size
          replace a0 := (hWk.cell (p := ⟨g, off + k * 2, none⟩) hg).trans a0
          replace a1 := (hWk.cell (p := ⟨g, off + k * 2 + 1, none⟩) hg).trans a1
          clear hcA
          have hx := heap_new wr #[.string (kid k).nm, .slice a (kid k).n ca] 76
          have al := bal (Below.refl wr.heap.size wr) (.cells #[.string (kid k).nm, .slice a (kid k).n ca] 76)
          have hB1 := bld_below hBk al
          have hW1 := bal hWk (.cells #[.string (kid k).nm, .slice a (kid k).n ca] 76)
          have hk1 := hKk.trans (KeepsT.below al)
          have hxb : wr.heap.size ≠ b := by omega
          have hkl : k * (16 ^ d + 1) ≤ 16 ^ d + 1 := by
            have : k * (16 ^ d + 1) ≤ 1 * (16 ^ d + 1) := Nat.mul_le_mul_right _ (by omega)
            omega
          clear hBk hWk hKk al
          have H1 := hid hB1; clear hB1
          go_wp2_with fail
          refine (wbyte_any W0.heap.size b (Lib.byteCells (l ++ nm.data.toList ++ joinK (fun k => txt (kid k)) k)) cc _ (.inr H1.out) (by rw [Lib.byteCells_length]; omega) hW1.size).mono ?_
          rintro e w4 ⟨rfl, hB4, hb4, hk4⟩
          have hx4 := hk4.2 _ _ _ _ hx (by decide) hxb
          have x0 := cell_heap (o := 0) hx4 rfl
          have x1 := cell_heap (o := 1) hx4 rfl
          have hW4 := hW1.trans hb4
          have hK4 := hk1.trans hk4
          have hB4' := bld_to (l := l ++ nm.data.toList ++ joinK (fun k => txt (kid k)) k ++ [mkB k]) hB4 (by rw [HC.out]; exact byteCells_snoc _ _)
          have lx := heap_lt hx4
          clear hx hx4 H1 hW1 hk1 hb4 hk4 hB4
          have H4 := hid hB4'; clear hB4'
          go_wp2_with fail
          refine (HI.out k hlt a ca (l ++ nm.data.toList ++ joinK (fun k => txt (kid k)) k ++ [mkB k]) w4 hK hW4 (.inr H4.out) (by rw [List.length_append]; simp only [List.length_cons, List.length_nil]; omega)).mono ?_
          rintro e w5 ⟨rfl, hB5, hW5, hk5⟩
          have hK5 := hK4.trans hk5
          clear x0 x1 H4 hW4 hK4 hk5
          have H5 := hid hB5; clear hB5
          go_wp2
          go_roundw
          case rel =>
            refine ⟨k + 1, 44, by omega, by go_num, rfl, by simp [mkB], ?_, hW5, hK5⟩
            rw [joinK_succ]
            have := H5.out
            simpa only [List.append_assoc, List.singleton_append, List.cons_append, List.nil_append] using this
          case measure => simp [intOf]; omega
        · have hke : k = n := by omega
          have HK := hid hke
          have d5 : decide ((k : Int) < (n : Int)) = false := by simp; omega
          have H1 := hid hBk; clear hBk
          clear hke
          go_wp2_with fail
          refine (wbyte_any W0.heap.size b (Lib.byteCells (l ++ nm.data.toList ++ joinK (fun k => txt (kid k)) k)) 41 _ (.inr H1.out) (by rw [Lib.byteCells_length]; omega) hWk.size).mono ?_
          rintro e w4 ⟨rfl, hB4, hb4, hk4⟩
          have hB4' := bld_to (l := l ++ nm.data.toList ++ joinK (fun k => txt (kid k)) k ++ [41]) hB4 (byteCells_snoc _ 41)
          have HW := hid (show WriP W0 b (l ++ txt (.mk nm n kid)) w (.returned (.tuple #[])) w4 from ⟨rfl, by rw [txt_n _ _ H0.out, ← HK.out]; simpa only [List.append_assoc] using hB4', hWk.trans hb4, hKk.trans hk4⟩)
          go_wp2
          go_end0
          exact HW.out
/-- what TermText answers -/
def textT (t : Tm) : List UInt8 := if wellB t = true then txt t else []
set_option maxHeartbeats 2000000 in
theorem termtext_any (t : Tm) (hF : Fits 1048576 t) (A : Option Addr) (c : Nat) (w : World) (hA : Kids 0 w t A) :
    Calls Try.prog 219 #[.agg #[.string t.nm, .slice A t.n c]] w fun e w' => e = .returned (.string ⟨(textT t).toArray⟩) ∧ Below w.heap.size w w' := by
  have hO := fun W (hb : Below w.heap.size w W) => well_any t hF A c W (hA.below hb)
  have q0 := bal (Below.refl w.heap.size w) (.cells #[.string t.nm, .slice A t.n c] 76)
  have b0 : (w.alloc (.cells #[.string t.nm, .slice A t.n c] 76)).cell? ⟨w.heap.size, 0, none⟩ = some (.string t.nm) ∧ (w.alloc (.cells #[.string t.nm, .slice A t.n c] 76)).cell? ⟨w.heap.size, 1, none⟩ = some (.slice A t.n c) := by constructor <;> simp [go_sem]
  cases hw : wellB t
  · rw [hw] at hO
    have e : textT t = [] := by unfold textT; rw [hw]; rfl
    rw [e]
    clear hw e hA
    go_enter Try.func219, Try.ntmps219
    go_wp2_with fail
    refine (hO _ q0).mono ?_
    rintro e w1 ⟨rfl, hq⟩
    clear hO
    go_wp2
    go_ret
    exact ⟨rfl, btr q0 hq⟩
  · rw [hw] at hO
    have hsh := (wellB_iff.1 hw).1
    have e : textT t = txt t := by unfold textT; rw [hw]; rfl
    rw [e]
    clear hw e
    go_enter Try.func219, Try.ntmps219
    go_wp2_with fail
    refine (hO _ q0).mono ?_
    rintro e w1 ⟨rfl, hq⟩
    clear hO
    have hW1 := btr q0 hq
    have c0 := carryA (.cells #[.pointer none, .slice none 0 0] 231) (carry hq b0.1)
    have c1 := carryA (.cells #[.pointer none, .slice none 0 0] 231) (carry hq b0.2)
    have hB := bld_new w1
    have hW2 := bal (Below.refl w1.heap.size w1) (.cells #[.pointer none, .slice none 0 0] 231)
    have hWr := fun W hW hI => write_any w1 w1.heap.size 4 (by omega) t hF hsh A c [] W (hA.below hW1) hW hI (by decide)
    clear hA hsh b0 hq
    have HB := hid hB; clear hB
    go_wp2_with fail
    refine (hWr _ hW2 (.inl HB.out)).mono ?_
    rintro e w3 ⟨rfl, hB3, hb3, hk3⟩
    clear hWr HB hW2 c0 c1
    rw [List.nil_append] at hB3
    have HB := hid hB3; clear hB3
    go_wp2_with fail
    refine (Try.Builder_String_any w1.heap.size w1.heap.size (txt t) w3 (.inr HB.out) hb3.size).mono ?_
    rintro e w4 ⟨rfl, hb4⟩
    go_wp2
    go_ret
    exact ⟨rfl, btr hW1 (hb3.trans hb4)⟩
end Go.Proofs.Ytanfljajafelgaa
