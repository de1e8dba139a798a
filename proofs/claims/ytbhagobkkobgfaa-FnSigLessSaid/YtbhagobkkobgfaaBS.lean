/- Several texts in one: SigA, SigB, SigC, SigD. -/
import Derived.Test.YtbhagobkkobgfaaFarA
import Derived.Test.YtbhagobkkobgfaaNameA
import Derived.Test.YtbhagobkkobgfaaEqI
import Derived.Test.YtbhagobkkobgfaaLinN
import Derived.Test.YtbhagobkkobgfaaBT
import Derived.Laws.EntriesVeiled
import Derived.Test.YtbhagobkkobgfaaLinO
namespace Go.Proofs.Ytbhagobkkobgfaa
set_option linter.unusedVariables false
set_option linter.unusedSimpArgs false
open Go.RowKit
/-- what a list of symbols says -/
structure Sy where
  Nm : Nat → ByteArray
  N : Nat → Nat
  Z : Nat → Nat → Int
  S : Nat → Int
/-- the slice of n symbols at A reads as L -/
def Syms (w : World) (A : Option Addr) (n : Nat) (L : Sy) : Prop :=
  n = 0 ∨ ∃ g off, A = some ⟨g, off, none⟩ ∧ g < w.heap.size ∧ ∀ k, k < n → ∃ a c, w.cell? ⟨g, off + k * 3, none⟩ = some (.string (L.Nm k)) ∧ w.cell? ⟨g, off + k * 3 + 1, none⟩ = some (.slice a (L.N k) c) ∧ w.cell? ⟨g, off + k * 3 + 2, none⟩ = some (.int .i64 (L.S k)) ∧
    (L.Nm k).size ≤ 9223372036854775807 ∧ L.N k ≤ 9223372036854775807 ∧ Ints w a (L.N k) (L.Z k)
theorem Syms.below {w w1 : World} {A : Option Addr} {n : Nat} {L : Sy} (h : Syms w A n L) (hb : Below w.heap.size w w1) : Syms w1 A n L := by
  rcases h with h | ⟨g, off, ha, hg, hc⟩
  · exact .inl h
  · refine .inr ⟨g, off, ha, Nat.lt_of_lt_of_le hg hb.size, fun k hk => ?_⟩
    obtain ⟨a, c, h0, h1, h2, h3, h4, h5⟩ := hc k hk
    exact ⟨a, c, carry hb h0, carry hb h1, carry hb h2, h3, h4, h5.below hb⟩
def symV (LA : Nat → Option Addr) (LC : Nat → Nat) (L : Sy) (j : Nat) : Value :=
  if j % 3 = 0 then .string (L.Nm (j / 3)) else if j % 3 = 1 then .slice (LA (j / 3)) (L.N (j / 3)) (LC (j / 3)) else .int .i64 (L.S (j / 3))
theorem symV_0 (LA : Nat → Option Addr) (LC : Nat → Nat) (L : Sy) (k : Nat) : symV LA LC L (k * 3) = .string (L.Nm k) := by
  unfold symV; rw [if_pos (by omega), show k * 3 / 3 = k by omega]
theorem symV_1 (LA : Nat → Option Addr) (LC : Nat → Nat) (L : Sy) (k : Nat) : symV LA LC L (k * 3 + 1) = .slice (LA k) (L.N k) (LC k) := by
  unfold symV; rw [if_neg (by omega), if_pos (by omega), show (k * 3 + 1) / 3 = k by omega]
theorem symV_2 (LA : Nat → Option Addr) (LC : Nat → Nat) (L : Sy) (k : Nat) : symV LA LC L (k * 3 + 2) = .int .i64 (L.S k) := by
  unfold symV; rw [if_neg (by omega), if_neg (by omega), show (k * 3 + 2) / 3 = k by omega]
theorem symV_old {LA : Nat → Option Addr} {LC : Nat → Nat} {L : Sy} {A : Option Addr} {c k j : Nat} (h : j / 3 ≠ k) : symV (fun i => if i = k then A else LA i) (fun i => if i = k then c else LC i) L j = symV LA LC L j := by
  unfold symV; simp [h]
def zeroY (j : Nat) : Value := if j % 3 = 0 then .string ⟨#[]⟩ else if j % 3 = 1 then .slice none 0 0 else .int .i64 0
/-- a list of n symbols, all of memory new since W -/
def OwnY (W w : World) (A : Option Addr) (n : Nat) (L : Sy) : Prop :=
  ∃ g LA LC, A = some ⟨g, 0, none⟩ ∧ W.heap.size ≤ g ∧ w.rowIs g 31 (n * 3) (symV LA LC L) ∧ ∀ k, k < n → L.N k ≤ LC k ∧ LC k ≤ 9223372036854775807 ∧ OwnI W w (LA k) (L.N k) (L.Z k)
theorem OwnY.below {W w w' : World} {A : Option Addr} {n : Nat} {L : Sy} (h : OwnY W w A n L) (hb : Below w.heap.size w w') : OwnY W w' A n L := by
  obtain ⟨g, LA, LC, ha, hg, hr, hc⟩ := h
  exact ⟨g, LA, LC, ha, hg, row_below hr hb, fun k hk => ⟨(hc k hk).1, (hc k hk).2.1, (hc k hk).2.2.below hb⟩⟩
/-- no symbol is too long -/
def SmY (n : Nat) (L : Sy) : Prop := ∀ k, k < n → L.N k ≤ 1048576 ∧ (L.Nm k).size ≤ 1048576
theorem OwnY.syms {W w : World} {A : Option Addr} {n : Nat} {L : Sy} (h : OwnY W w A n L) (hN : SmY n L) : Syms w A n L := by
  obtain ⟨g, LA, LC, ha, hg, hr, hc⟩ := h
  refine .inr ⟨g, 0, ha, hr.lt, fun k hk => ⟨LA k, LC k, ?_, ?_, ?_, by have := hN k hk; omega, by have := hN k hk; omega, (hc k hk).2.2.ints⟩⟩
  · rw [Nat.zero_add]; exact (hr.cell (by omega)).trans (by rw [symV_0])
  · rw [Nat.zero_add]; exact (hr.cell (by omega)).trans (by rw [symV_1])
  · rw [Nat.zero_add]; exact (hr.cell (by omega)).trans (by rw [symV_2])
theorem infoSy : (Try.prog.info? 31).map (fun i => (i.zero, i.size, i.bytes)) = some (some (.agg #[.string ⟨#[]⟩, .slice none 0 0, .int .i64 0]), 3, 48) := by kernel_rfl
theorem rowIs_madeY (w : World) (n : Nat) (t : TypeId) : (w.alloc (.cells (madeCells #[.string ⟨#[]⟩, .slice none 0 0, .int .i64 0] n) t)).rowIs w.heap.size t n zeroY :=
  ⟨_, Deep.blk_alloc_new _ _, size_madeCells _ _, fun i hi => by
    have h2 : i % 3 = 0 ∨ i % 3 = 1 ∨ i % 3 = 2 := by omega
    rcases h2 with h2 | h2 | h2 <;> simp [madeCells, hi, h2, zeroY]⟩
theorem run_make_syms (n : Nat) (hn : n ≤ 1048576) (w : World) :
    (Instr.makeSlice 23 (.int .i64 (n : Int)) (.int .i64 (n : Int))).run Try.prog w = .ok (.slice (some ⟨w.heap.size, 0, none⟩) n n) (w.alloc (.cells (madeCells #[.string ⟨#[]⟩, .slice none 0 0, .int .i64 0] (n * 3)) 31)) := by
  obtain ⟨i, hi, hzz⟩ := Option.map_eq_some_iff.1 infoSy
  simp only [Prod.mk.injEq] at hzz
  obtain ⟨hz, hs, hb⟩ := hzz
  have hr := run_make (P := Try.prog) w 23 31 i _ Try.underlying23 hi hz .i64 .i64 n n (by omega) (Int.le_refl _) (by rw [hb]; omega) (by omega)
  simp only [Int.toNat_natCast, hs] at hr
  exact hr
/-- what the size of a symbol answers -/
def SzY (w : World) (nm : ByteArray) (n : Nat) (l : Int) (e : Ending) (w' : World) : Prop :=
  ∃ r : Int, e = .returned (.int .i64 r) ∧ (r < 0 ∨ (0 ≤ r ∧ r ≤ l ∧ (n : Int) ≤ l ∧ (nm.size : Int) ≤ l)) ∧ Below w.heap.size w w'
theorem farY2 {w : World} {b o p : Nat} {u : Value} (x y : Value) (hp : p ≠ b) (h : w.cell? ⟨b, o, none⟩ = some u) : ((w.setCell ⟨p, 1, none⟩ x).setCell ⟨p, 2, none⟩ y).cell? ⟨b, o, none⟩ = some u := by
  rw [World.cell?_setCell_other _ _ _ _ (by simp <;> omega), World.cell?_setCell_other _ _ _ _ (by simp <;> omega)]; exact h
/-- a value that reads as a symbol of new memory -/
def NewY (W : World) (nm : ByteArray) (n : Nat) (Z : Nat → Int) (s : Int) (v : Value) (w' : World) : Prop :=
  ∃ A c, v = .agg #[.string nm, .slice A n c, .int .i64 s] ∧ n ≤ c ∧ c ≤ 9223372036854775807 ∧ OwnI W w' A n Z
end Go.Proofs.Ytbhagobkkobgfaa

namespace Go.Proofs.Ytbhagobkkobgfaa
set_option linter.unusedVariables false
set_option linter.unusedSimpArgs false
open Go.RowKit
/-- what the size of a list of symbols answers -/
def SzYs (w : World) (n : Nat) (L : Sy) (l : Int) (e : Ending) (w' : World) : Prop :=
  ∃ r : Int, e = .returned (.int .i64 r) ∧ (r < 0 ∨ (0 ≤ r ∧ r ≤ l ∧ (n : Int) ≤ l ∧ ∀ k, k < n → (L.N k : Int) ≤ l ∧ ((L.Nm k).size : Int) ≤ l)) ∧ Below w.heap.size w w'
/-- a list of n symbols of new memory, handed back -/
def NewYs (w : World) (n : Nat) (L : Sy) (e : Ending) (w' : World) : Prop :=
  ∃ A, e = .returned (.slice A n n) ∧ OwnY w w' A n L ∧ Below w.heap.size w w'
/-- a vocabulary of new memory, handed back -/
def NewSg (w : World) (n : Nat) (L : Sy) (e : Ending) (w' : World) : Prop :=
  ∃ A, e = .returned (.agg #[.slice A n n]) ∧ OwnY w w' A n L ∧ Below w.heap.size w w'
theorem OwnY.old {W W1 w : World} {A : Option Addr} {n : Nat} {L : Sy} (hb : W.heap.size ≤ W1.heap.size) (h : OwnY W1 w A n L) : OwnY W w A n L := by
  obtain ⟨g, LA, LC, ha, hg, hr, hc⟩ := h
  exact ⟨g, LA, LC, ha, Nat.le_trans hb hg, hr, fun k hk => ⟨(hc k hk).1, (hc k hk).2.1, (hc k hk).2.2.old hb⟩⟩
theorem OwnY.set {W w : World} {A : Option Addr} {n : Nat} {L : Sy} {p o : Nat} (v : Value) (hp : p < W.heap.size) (h : OwnY W w A n L) : OwnY W (w.setCell ⟨p, o, none⟩ v) A n L := by
  obtain ⟨g, LA, LC, ha, hg, hr, hc⟩ := h
  exact ⟨g, LA, LC, ha, hg, hr.setOther (by simp; omega) _, fun k hk => ⟨(hc k hk).1, (hc k hk).2.1, (hc k hk).2.2.set v hp⟩⟩
end Go.Proofs.Ytbhagobkkobgfaa

namespace Go.Proofs.Ytbhagobkkobgfaa
set_option linter.unusedVariables false
set_option linter.unusedSimpArgs false
open Go.RowKit
def sortB (z : Int) : Bool := decide (z = 0 ∨ z = 1)
theorem sort_any (z : Int) (w : World) : Calls Try.prog 20 #[.int .i64 z] w fun e w' => e = .returned (.bool (sortB z)) ∧ w = w' := by
  by_cases h : z = 0
  · subst h
    go_enter Try.func20, Try.ntmps20
    go_wp2
    go_ret
    exact ⟨rfl, rfl⟩
  · have hs : sortB z = (z == 1) := by unfold sortB; by_cases h1 : z = 1 <;> simp [h, h1]
    rw [hs]
    have d : (z == 0) = false := by simpa using h
    clear hs h
    go_enter Try.func20, Try.ntmps20
    go_wp2
    go_ret
    exact ⟨rfl, rfl⟩
theorem ssort_any (z : Int) (w : World) : Calls Try.prog 15 #[.int .i64 z] w fun e w' => e = .returned (.bool (sortB z)) ∧ w = w' := by
  by_cases h : z = 0
  · subst h
    go_enter Try.func15, Try.ntmps15
    go_wp2
    go_ret
    exact ⟨rfl, rfl⟩
  · have hs : sortB z = (z == 1) := by unfold sortB; by_cases h1 : z = 1 <;> simp [h, h1]
    rw [hs]
    have d : (z == 0) = false := by simpa using h
    clear hs h
    go_enter Try.func15, Try.ntmps15
    go_wp2
    go_ret
    exact ⟨rfl, rfl⟩
theorem sort_at {z : Int} {v : Bool} (h : sortB z = v) (w : World) : Calls Try.prog 20 #[.int .i64 z] w fun e w' => e = .returned (.bool v) ∧ w = w' := by subst h; exact sort_any z w
theorem ssort_at {z : Int} {v : Bool} (h : sortB z = v) (w : World) : Calls Try.prog 15 #[.int .i64 z] w fun e w' => e = .returned (.bool v) ∧ w = w' := by subst h; exact ssort_any z w
theorem name_at {s : ByteArray} {v : Bool} (hs : s.size ≤ 9223372036854775807) (h : nameB s = v) (w : World) : Calls Try.prog 7 #[.string s] w fun e w' => e = .returned (.bool v) ∧ w = w' := by subst h; exact nameok_any s w hs
theorem sname_at {s : ByteArray} {v : Bool} (hs : s.size ≤ 9223372036854775807) (h : nameB s = v) (w : World) : Calls Try.prog 14 #[.string s] w fun e w' => e = .returned (.bool v) ∧ w = w' := by subst h; exact snameok_any s w hs
/-- a symbol is valid -/
def symB (nm : ByteArray) (n : Nat) (Z : Nat → Int) (s : Int) : Bool := decide (nameB nm = true ∧ n ≤ 2 ∧ (∀ k, k < n → sortB (Z k) = true) ∧ sortB s = true)
theorem symB_iff {nm : ByteArray} {n : Nat} {Z : Nat → Int} {s : Int} : symB nm n Z s = true ↔ nameB nm = true ∧ n ≤ 2 ∧ (∀ k, k < n → sortB (Z k) = true) ∧ sortB s = true := by unfold symB; exact decide_eq_true_iff
theorem symB_no {nm : ByteArray} {n : Nat} {Z : Nat → Int} {s : Int} (h : ¬ (nameB nm = true ∧ n ≤ 2 ∧ (∀ k, k < n → sortB (Z k) = true) ∧ sortB s = true)) : symB nm n Z s = false := by
  cases e : symB nm n Z s
  · rfl
  · exact absurd (symB_iff.1 e) h
set_option maxRecDepth 100000 in
set_option maxHeartbeats 2000000 in
theorem valid_sym (nm : ByteArray) (A : Option Addr) (n c : Nat) (Z : Nat → Int) (s : Int) (w : World) (hm : nm.size ≤ 9223372036854775807) (hn : n ≤ 9223372036854775807) (hA : Ints w A n Z) :
    Calls Try.prog 11 #[.agg #[.string nm, .slice A n c, .int .i64 s]] w fun e w' => e = .returned (.bool (symB nm n Z s)) ∧ Below w.heap.size w w' := by
  cases hv : nameB nm
  · have HF := hid (symB_no (nm := nm) (n := n) (Z := Z) (s := s) (by rw [hv]; simp))
    have hO := fun W => name_at hm hv W
    clear hv
    go_enter Try.func11, Try.ntmps11
    go_wp2_with (go_at_call 7; refine (hO _).mono ?_; rintro e w1 ⟨rfl, rfl⟩)
    go_ret
    exact ⟨ret_bool HF.out.symm, bal (Below.refl _ _) _⟩
  have hO := fun W => name_at hm hv W
  by_cases h2 : n ≤ 2
  · have HV := hid hv; clear hv
    generalize hr : symB nm n Z s = res
    have HR := hid hr; clear hr
    have d2 : decide (2 < (n : Int)) = false := by simp; omega
    go_enter Try.func11, Try.ntmps11
    go_wp2_with (go_at_call 7; refine (hO _).mono ?_; rintro e w1 ⟨rfl, rfl⟩)
    clear hO
    go_loop [18] (fun i => ∃ k : Nat, k ≤ n ∧ i = .int .i64 k ∧ ∀ j, j < k → sortB (Z j) = true) (fun i => n - (intOf i).toNat)
    case atStart => exact ⟨0, Nat.zero_le _, rfl, fun j hj => by omega⟩
    case round =>
      obtain ⟨k, hk, rfl, he⟩ := hrel
      have HE := hid he; clear he
      by_cases hlt : k < n
      · rcases hA with h0 | ⟨g, off, rfl, hg, hcell⟩
        · omega
        have c1 := hcell k hlt
        have ca := fun (x : Obj) (o : Nat) => World.cell?_alloc_lt w x ⟨g, o, none⟩ hg
        clear hcell
        cases hs : sortB (Z k)
        · have HF := hid (symB_no (nm := nm) (n := n) (Z := Z) (s := s) (fun h => by have := h.2.2.1 k hlt; rw [hs] at this; cases this))
          have hS := fun W => sort_at hs W
          clear hs
          go_wp2_with (go_at_call 20; refine (hS _).mono ?_; rintro e w1 ⟨rfl, rfl⟩)
          go_ret
          exact ⟨ret_bool (HF.out.symm.trans HR.out), bal (Below.refl _ _) _⟩
        · have hS := fun W => sort_at hs W
          have HS := hid hs; clear hs
          go_wp2_with (go_at_call 20; refine (hS _).mono ?_; rintro e w1 ⟨rfl, rfl⟩)
          go_round
          case rel =>
            refine ⟨k + 1, by omega, by go_num, fun j hj => ?_⟩
            by_cases e : j = k
            · subst e; exact HS.out
            · exact HE.out j (by omega)
          case measure => simp [intOf]; omega
      · have hke : k = n := by omega
        subst hke
        have hS := fun W => sort_any s W
        have HQ : Hid (sortB s = res) := hid (by
          rw [← HR.out]
          cases e : sortB s
          · exact (symB_no (fun h => by rw [e] at h; simp at h)).symm
          · exact (symB_iff.2 ⟨HV.out, h2, HE.out, e⟩).symm)
        go_wp2_with (go_at_call 20; refine (hS _).mono ?_; rintro e w1 ⟨rfl, rfl⟩)
        go_ret
        exact ⟨ret_bool HQ.out, bal (Below.refl _ _) _⟩
  · have HF := hid (symB_no (nm := nm) (n := n) (Z := Z) (s := s) (fun h => h2 h.2.1))
    have d2 : decide (2 < (n : Int)) = true := by simp; omega
    clear hv h2
    go_enter Try.func11, Try.ntmps11
    go_wp2_with (go_at_call 7; refine (hO _).mono ?_; rintro e w1 ⟨rfl, rfl⟩)
    go_ret
    exact ⟨ret_bool HF.out.symm, bal (Below.refl _ _) _⟩
theorem key_any (nm : ByteArray) (A : Option Addr) (n c : Nat) (s : Int) (w : World) :
    Calls Try.prog 21 #[.agg #[.string nm, .slice A n c, .int .i64 s]] w fun e w' => e = .returned (.string nm) ∧ Below w.heap.size w w' := by
  go_enter Try.func21, Try.ntmps21
  go_wp2
  go_ret
  exact ⟨rfl, bal (Below.refl _ _) _⟩
theorem byname_any (A : Option Addr) (n c : Nat) (w : World) :
    Calls Try.prog 12 #[.agg #[.slice A n c]] w fun e w' => e = .returned (.agg #[.slice A n c, .func (.func 21) #[] #[]]) ∧ Below w.heap.size w w' := by
  go_enter Try.func12, Try.ntmps12
  go_wp2
  exact bodyPost_ret (v := .agg #[.slice A n c, .func (.func 21) #[] #[]]) (by simp [results, Try.results12, go_sem]) rfl ⟨rfl, bal (bal (Below.refl _ _) _) _⟩
/-- the names ascend -/
def ascB (n : Nat) (Nm : Nat → ByteArray) : Bool := decide (∀ k, k < n → k + 1 < n → Op.bytesLess (Nm k).toList (Nm (k + 1)).toList = true)
theorem ascB_iff {n : Nat} {Nm : Nat → ByteArray} : ascB n Nm = true ↔ ∀ k, k < n → k + 1 < n → Op.bytesLess (Nm k).toList (Nm (k + 1)).toList = true := by unfold ascB; exact decide_eq_true_iff
theorem ascB_at {n k : Nat} {Nm : Nat → ByteArray} (hk : k + 1 < n) (h : Op.bytesLess (Nm k).toList (Nm (k + 1)).toList = false) : ascB n Nm = false := by
  cases e : ascB n Nm
  · rfl
  · have := ascB_iff.1 e k (by omega) hk; rw [h] at this; cases this
set_option maxRecDepth 100000 in
set_option maxHeartbeats 2000000 in
theorem asc_any (A : Option Addr) (n c : Nat) (L : Sy) (w : World) (hn : n ≤ 9223372036854775806) (hA : Syms w A n L) :
    Calls Try.prog 13 #[.agg #[.slice A n c, .func (.func 21) #[] #[]]] w fun e w' => e = .returned (.bool (ascB n L.Nm)) ∧ Below w.heap.size w w' := by
  generalize hr : ascB n L.Nm = res
  have HR := hid hr; clear hr
  obtain ⟨b0, b1⟩ := pair_new w (.slice A n c) (.func (.func 21) #[] #[]) 40
  have q0 := bal (Below.refl w.heap.size w) (.cells #[.slice A n c, .func (.func 21) #[] #[]] 40)
  have hA2 := hA.below q0
  have hs : w.heap.size < (w.alloc (.cells #[.slice A n c, .func (.func 21) #[] #[]] 40)).heap.size := by simp
  clear hA
  go_enter Try.func13, Try.ntmps13
  go_wp2
  generalize w.alloc (.cells #[.slice A n c, .func (.func 21) #[] #[]] 40) = W0 at *
  go_loopw [3] (fun i wr => ∃ k : Nat, (k + 1 ≤ n ∨ k = 0) ∧ i = .int .i64 ((k : Int) + 1) ∧ Below W0.heap.size W0 wr ∧ ∀ j, j < k → Op.bytesLess (L.Nm j).toList (L.Nm (j + 1)).toList = true) (fun i _ => n - (intOf i).toNat)
  case atStart => exact ⟨0, .inr rfl, rfl, Below.refl _ _, fun j hj => by omega⟩
  case round =>
    obtain ⟨k, hk, rfl, hb, he⟩ := hrel
    have HE := hid he; clear he
    have g0 := carry hb b0
    have g1 := carry hb b1
    have gs : w.heap.size < wr.heap.size := Nat.lt_of_lt_of_le hs hb.size
    by_cases hlt : k + 1 < n
    · rcases hA2 with h0 | ⟨g, off, rfl, hg, hcA⟩
      · omega
      obtain ⟨a, ca, a0, a1, a2, _, hNk, hI⟩ := hcA k (by omega)
      obtain ⟨b, cb, c0, c1, c2, _, _, hJ⟩ := hcA (k + 1) hlt
      have gg : g < wr.heap.size := Nat.lt_of_lt_of_le hg hb.size
      replace a0 := carry hb a0
      replace a1 := carry hb a1
      replace a2 := carry hb a2
      replace c0 := carry hb c0
      replace c1 := carry hb c1
      replace c2 := carry hb c2
      have hE := fun (X : Gro wr) (nm : ByteArray) (A : Option Addr) (n c : Nat) (s : Int) => key_any nm A n c s (gro wr X)
      have gc := @gro_cell wr
      clear hcA hI hJ b0 b1
      have k1 : (k : Int) + 1 < n := by omega
      go_upto_region 4 with fail
      refine wp_region_grow_lit (by kernel_rfl) (by kernel_rfl) ?_
      repeat (go_big_quiet_step ((go_at_call 21; exact grow_call _ (hE _ _ _ _ _ _))))
      refine wpQuiet_nil ?_
      rintro _ ⟨X, rfl⟩
      clear gc
      cases hl : Op.bytesLess (L.Nm k).toList (L.Nm (k + 1)).toList
      · have HF := hid (ascB_at hlt hl)
        go_wp2
        go_ret
        exact ⟨ret_bool (HF.out.symm.trans HR.out), btr q0 (btr hb X.h)⟩
      · have HL := hid hl
        go_wp2
        go_roundw
        case rel =>
          refine ⟨k + 1, .inl (by omega), by go_num, btr hb X.h, fun j hj => ?_⟩
          by_cases e : j = k
          · subst e; exact HL.out
          · exact HE.out j (by omega)
        case measure => simp [intOf]; omega
    · have HT := hid (show ascB n L.Nm = true from ascB_iff.2 (fun j hj hj2 => HE.out j (by omega)))
      have d : decide ((k : Int) + 1 < n) = false := by simp; omega
      clear b0 b1
      go_wp2
      go_ret
      exact ⟨ret_bool (HT.out.symm.trans HR.out), btr q0 hb⟩
/-- a vocabulary is valid -/
def sigB (n : Nat) (L : Sy) : Bool := decide (n ≤ 7 ∧ (∀ k, k < n → symB (L.Nm k) (L.N k) (L.Z k) (L.S k) = true) ∧ ascB n L.Nm = true)
theorem sigB_iff {n : Nat} {L : Sy} : sigB n L = true ↔ n ≤ 7 ∧ (∀ k, k < n → symB (L.Nm k) (L.N k) (L.Z k) (L.S k) = true) ∧ ascB n L.Nm = true := by unfold sigB; exact decide_eq_true_iff
theorem sigB_no {n : Nat} {L : Sy} (h : ¬ (n ≤ 7 ∧ (∀ k, k < n → symB (L.Nm k) (L.N k) (L.Z k) (L.S k) = true) ∧ ascB n L.Nm = true)) : sigB n L = false := by
  cases e : sigB n L
  · rfl
  · exact absurd (sigB_iff.1 e) h
theorem valid_symat {nm : ByteArray} {A : Option Addr} {n c : Nat} {Z : Nat → Int} {s : Int} {w : World} (hm : nm.size ≤ 9223372036854775807) (hn : n ≤ 9223372036854775807) (hA : Ints w A n Z) {v : Bool} (h : symB nm n Z s = v) (W : World) (hb : Below w.heap.size w W) :
    Calls Try.prog 11 #[.agg #[.string nm, .slice A n c, .int .i64 s]] W fun e w' => e = .returned (.bool v) ∧ Below W.heap.size W w' := by
  subst h; exact valid_sym nm A n c Z s W hm hn (hA.below hb)
set_option maxRecDepth 100000 in
set_option maxHeartbeats 2000000 in
theorem sigok_any (A : Option Addr) (n c : Nat) (L : Sy) (w : World) (hn : n ≤ 9223372036854775806) (hA : Syms w A n L) :
    Calls Try.prog 5 #[.agg #[.slice A n c]] w fun e w' => e = .returned (.bool (sigB n L)) ∧ Below w.heap.size w w' := by
  generalize hr : sigB n L = res
  have HR := hid hr; clear hr
  by_cases h7 : 7 < n
  · have HF := hid (sigB_no (L := L) (n := n) (fun h => by omega))
    go_enter Try.func5, Try.ntmps5
    go_wp2
    go_ret
    exact ⟨ret_bool (HF.out.symm.trans HR.out), bal (Below.refl _ _) _⟩
  have d7 : decide (7 < (n : Int)) = false := by simp; omega
  have H7 := hid h7; clear h7
  have b0 : (w.alloc (.cells #[.slice A n c] 25)).cell? ⟨w.heap.size, 0, none⟩ = some (.slice A n c) := by simp [go_sem]
  have q0 := bal (Below.refl w.heap.size w) (.cells #[.slice A n c] 25)
  have hA2 := hA.below q0
  have hs : w.heap.size < (w.alloc (.cells #[.slice A n c] 25)).heap.size := by simp
  clear hA
  go_enter Try.func5, Try.ntmps5
  go_wp2
  generalize w.alloc (.cells #[.slice A n c] 25) = W0 at *
  have hA3 := hA2
  go_loopw [12] (fun i wr => ∃ k : Nat, k ≤ n ∧ i = .int .i64 k ∧ Below W0.heap.size W0 wr ∧ ∀ j, j < k → symB (L.Nm j) (L.N j) (L.Z j) (L.S j) = true) (fun i _ => n - (intOf i).toNat)
  case atStart => exact ⟨0, Nat.zero_le _, rfl, Below.refl _ _, fun j hj => by omega⟩
  case round =>
    obtain ⟨k, hk, rfl, hb, he⟩ := hrel
    have HE := hid he; clear he
    have g0 := carry hb b0
    have gs : w.heap.size < wr.heap.size := Nat.lt_of_lt_of_le hs hb.size
    clear b0
    by_cases hlt : k < n
    · rcases hA2 with h0 | ⟨g, off, rfl, hg, hcA⟩
      · omega
      obtain ⟨a, ca, a0, a1, a2, hMk, hNk, hI⟩ := hcA k hlt
      have gg : g < wr.heap.size := Nat.lt_of_lt_of_le hg hb.size
      replace a0 := carry hb a0
      replace a1 := carry hb a1
      replace a2 := carry hb a2
      replace hI := hI.below hb
      clear hcA hA3
      cases hv : symB (L.Nm k) (L.N k) (L.Z k) (L.S k)
      · have hO := fun W h => valid_symat (c := ca) hMk hNk hI hv W h
        have HF := hid (sigB_no (L := L) (n := n) (fun h => by have := h.2.1 k hlt; rw [hv] at this; cases this)); clear hv
        go_wp2_with (go_at_call 11; refine (hO _ (bal (Below.refl _ _) _)).mono ?_; rintro e w1 ⟨rfl, hq⟩)
        go_ret
        exact ⟨ret_bool (HF.out.symm.trans HR.out), btr q0 (btr hb (btr (bal (Below.refl _ _) _) hq))⟩
      · have hO := fun W h => valid_symat (c := ca) hMk hNk hI hv W h
        have HV := hid hv; clear hv
        go_wp2_with (go_at_call 11; refine (hO _ (bal (Below.refl _ _) _)).mono ?_; rintro e w1 ⟨rfl, hq⟩)
        go_roundw
        case rel =>
          refine ⟨k + 1, by omega, by go_num, btr hb (btr (bal (Below.refl _ _) _) hq), fun j hj => ?_⟩
          by_cases e : j = k
          · subst e; exact HV.out
          · exact HE.out j (by omega)
        case measure => simp [intOf]; omega
    · have hke : k = n := by omega
      subst hke
      have hB := fun W => byname_any A k c W
      have hC := fun W (h : Below W0.heap.size W0 W) => asc_any A k c L W hn (hA3.below h)
      have HQ : Hid (ascB k L.Nm = res) := hid (by
        rw [← HR.out]
        cases e : ascB k L.Nm
        · exact (sigB_no (fun h => by rw [e] at h; simp at h)).symm
        · exact (sigB_iff.2 ⟨by have := H7.out; omega, HE.out, e⟩).symm)
      clear hA2 hA3
      go_wp2_with fail
      refine (hB _).mono ?_
      rintro e w1 ⟨rfl, hq⟩
      go_wp2_with fail
      refine (hC _ (btr hb hq)).mono ?_
      rintro e w2 ⟨rfl, hq2⟩
      clear hB hC
      go_wp2_with fail
      go_ret
      exact ⟨ret_bool HQ.out, btr q0 (btr hb (btr hq hq2))⟩
end Go.Proofs.Ytbhagobkkobgfaa

namespace Go.Proofs.Ytbhagobkkobgfaa
set_option linter.unusedVariables false
set_option linter.unusedSimpArgs false
open Go.RowKit
theorem below_of_same {w : World} {P : Program} {f : FuncId} {args : Array Value} {v : Value} (h : Calls P f args w fun e w' => e = .returned v ∧ w = w') : Calls P f args w fun e w' => e = .returned v ∧ Below w.heap.size w w' :=
  h.mono fun _ _ ⟨he, hw⟩ => ⟨he, by subst hw; exact Below.refl _ _⟩
set_option maxRecDepth 100000 in
set_option maxHeartbeats 8000000 in
theorem ssigok_any (A : Option Addr) (n c : Nat) (L : Sy) (w : World) (hn : n ≤ 9223372036854775806) (hA : Syms w A n L) (hN : SmY n L) :
    Calls Try.prog 6 #[.agg #[.slice A n c]] w fun e w' => e = .returned (.bool (sigB n L)) ∧ Below w.heap.size w w' := by
  generalize hr : sigB n L = res
  have HR := hid hr; clear hr
  have HNN := hid hN; clear hN
  have b0 : (w.alloc (.cells #[.slice A n c] 25)).cell? ⟨w.heap.size, 0, none⟩ = some (.slice A n c) := by simp [go_sem]
  have q0 := bal (Below.refl w.heap.size w) (.cells #[.slice A n c] 25)
  have hA2 := hA.below q0
  have hs : w.heap.size < (w.alloc (.cells #[.slice A n c] 25)).heap.size := by simp
  clear hA
  go_enter Try.func6, Try.ntmps6
  go_wp2
  generalize w.alloc (.cells #[.slice A n c] 25) = W0 at *
  go_loopw [3] (fun i wr => ∃ k : Nat, k ≤ n ∧ i = .int .i64 k ∧ Below W0.heap.size W0 wr ∧ (∀ j, j < k → symB (L.Nm j) (L.N j) (L.Z j) (L.S j) = true) ∧ ∀ j, j + 1 < k → Op.bytesLess (L.Nm j).toList (L.Nm (j + 1)).toList = true) (fun i _ => n - (intOf i).toNat)
  case atStart => exact ⟨0, Nat.zero_le _, rfl, Below.refl _ _, fun j hj => by omega, fun j hj => by omega⟩
  case round =>
    obtain ⟨k, hk, rfl, hb, he, hf⟩ := hrel
    have HE := hid he; clear he
    have HA := hid hf; clear hf
    have g0 := carry hb b0
    have gs : w.heap.size < wr.heap.size := Nat.lt_of_lt_of_le hs hb.size
    clear b0
    by_cases hlt : k < n
    · rcases hA2 with h0 | ⟨g, off, rfl, hg, hcA⟩
      · omega
      obtain ⟨a, ca, a0, a1, a2, hMk, hNk, hI⟩ := hcA k hlt
      have hp := fun (j : Nat) (h : k = j + 1) => carry hb (hcA j (by omega)).choose_spec.choose_spec.1
      have gg : g < wr.heap.size := Nat.lt_of_lt_of_le hg hb.size
      replace a0 := carry hb a0
      replace a1 := carry hb a1
      replace a2 := carry hb a2
      replace hI := hI.below hb
      have HP := hid hp; clear hp
      clear hcA
      go_upto_region 5 with fail
      obtain ⟨x0, x1, x2⟩ := new3 wr (.string (L.Nm k)) (.slice a (L.N k) ca) (.int .i64 (L.S k)) 31
      have al := bal (Below.refl wr.heap.size wr) (.cells #[.string (L.Nm k), .slice a (L.N k) ca, .int .i64 (L.S k)] 31)
      have hx : wr.heap.size < (wr.alloc (.cells #[.string (L.Nm k), .slice a (L.N k) ca, .int .i64 (L.S k)] 31)).heap.size := by simp
      replace g0 := carry al g0
      replace HP := hid (fun j h => carry al (HP.out j h))
      replace hb := btr hb al
      replace hI := hI.below al
      have gs2 : w.heap.size < (wr.alloc (.cells #[.string (L.Nm k), .slice a (L.N k) ca, .int .i64 (L.S k)] 31)).heap.size := by omega
      have gg2 : g < (wr.alloc (.cells #[.string (L.Nm k), .slice a (L.N k) ca, .int .i64 (L.S k)] 31)).heap.size := by omega
      clear a0 a1 a2 al
      generalize hxb : wr.heap.size = xb at x0 x1 x2 hx ⊢
      generalize wr.alloc (.cells #[.string (L.Nm k), .slice a (L.N k) ca, .int .i64 (L.S k)] 31) = W1 at *
      clear hxb gs gg
      have gc := @gro_cell W1
      cases hv : nameB (L.Nm k)
      · have hO := fun X : Gro W1 => below_of_same (sname_at hMk hv (gro W1 X))
        have HF := hid (sigB_no (L := L) (n := n) (fun h => by have := (symB_iff.1 (h.2.1 k hlt)).1; rw [hv] at this; cases this)); clear hv
        refine wp_region_grow_lit (by kernel_rfl) (by kernel_rfl) ?_
        repeat (go_big_quiet_step ((go_at_call 14; exact grow_call _ (hO _))))
        refine wpQuiet_nil ?_
        rintro _ ⟨X, rfl⟩
        clear gc
        go_wp2
        go_ret
        exact ⟨ret_bool (HF.out.symm.trans HR.out), btr q0 (btr hb X.h)⟩
      have hO := fun X : Gro W1 => below_of_same (sname_at hMk hv (gro W1 X))
      have HV := hid hv; clear hv
      by_cases h2 : L.N k ≤ 2
      · have d2 : decide (2 < (L.N k : Int)) = false := by simp; omega
        have H2 := hid h2; clear h2
        cases hs2 : sortB (L.S k)
        · have hS := fun X : Gro W1 => below_of_same (ssort_at hs2 (gro W1 X))
          have HF := hid (sigB_no (L := L) (n := n) (fun h => by have := (symB_iff.1 (h.2.1 k hlt)).2.2.2; rw [hs2] at this; cases this)); clear hs2
          refine wp_region_grow_lit (by kernel_rfl) (by kernel_rfl) ?_
          repeat (go_big_quiet_step ((first | (go_at_call 14; exact grow_call _ (hO _)) | (go_at_call 15; exact grow_call _ (hS _)))))
          refine wpQuiet_nil ?_
          rintro _ ⟨X, rfl⟩
          clear gc
          go_wp2
          go_ret
          exact ⟨ret_bool (HF.out.symm.trans HR.out), btr q0 (btr hb X.h)⟩
        have hS := fun X : Gro W1 => below_of_same (ssort_at hs2 (gro W1 X))
        have HS := hid hs2; clear hs2
        by_cases hk0 : k = 0
        · have dk : decide (0 < k) = false := by simp; omega
          have HK0 := hid hk0; clear hk0
          refine wp_region_grow_lit (by kernel_rfl) (by kernel_rfl) ?_
          repeat (go_big_quiet_step ((first | (go_at_call 14; exact grow_call _ (hO _)) | (go_at_call 15; exact grow_call _ (hS _)))))
          refine wpQuiet_nil ?_
          rintro _ ⟨X, rfl⟩
          clear gc
          have y1 : (gro W1 X).cell? ⟨xb, 1, none⟩ = some (.slice a (L.N k) ca) := carry X.h x1
          have hb3 : Below W0.heap.size W0 (gro W1 X) := btr hb X.h
          have hI3 : Ints (gro W1 X) a (L.N k) (L.Z k) := hI.below X.h
          have g3 : (gro W1 X).cell? ⟨w.heap.size, 0, none⟩ = some (.slice (some ⟨g, off, none⟩) n c) := carry X.h g0
          clear x0 x1 x2 hb hI g0 hO hS HP
          generalize gro W1 X = W2 at *
          clear X gg2 gs2 hx
          go_wp2
          go_loop [5] (fun i => ∃ m : Nat, m ≤ L.N k ∧ i = .int .i64 m ∧ ∀ j, j < m → sortB (L.Z k j) = true) (fun i => L.N k - (intOf i).toNat)
          case atStart => exact ⟨0, Nat.zero_le _, rfl, fun j hj => by omega⟩
          case round =>
            obtain ⟨m, hm, rfl, hz⟩ := hrel
            have HZ := hid hz; clear hz
            by_cases hlt2 : m < L.N k
            · rcases hI3 with h0 | ⟨g', off', rfl, hg', hc'⟩
              · omega
              have z1 := hc' m hlt2
              clear hc'
              cases hs3 : sortB (L.Z k m)
              · have HF := hid (sigB_no (L := L) (n := n) (fun h => by have := (symB_iff.1 (h.2.1 k hlt)).2.2.1 m hlt2; rw [hs3] at this; cases this))
                have hS := fun W => ssort_at hs3 W
                clear hs3
                go_wp2_with (go_at_call 15; refine (hS _).mono ?_; rintro e w1 ⟨rfl, rfl⟩)
                go_ret
                exact ⟨ret_bool (HF.out.symm.trans HR.out), btr q0 hb3⟩
              · have hS := fun W => ssort_at hs3 W
                have HS3 := hid hs3; clear hs3
                go_wp2_with (go_at_call 15; refine (hS _).mono ?_; rintro e w1 ⟨rfl, rfl⟩)
                go_round
                case rel =>
                  refine ⟨m + 1, by omega, by go_num, fun j hj => ?_⟩
                  by_cases e : j = m
                  · subst e; exact HS3.out
                  · exact HZ.out j (by omega)
                case measure => simp [intOf]; omega
            · have hme : m = L.N k := by omega
              have HM := hid hme
              have d3 : decide ((m : Int) < (L.N k : Int)) = false := by simp; omega
              have HY := hid (symB_iff.2 ⟨HV.out, H2.out, fun j hj => HZ.out j (by omega), HS.out⟩)
              clear hme
              go_wp2
              go_roundw
              case rel =>
                refine ⟨k + 1, by omega, by go_num, hb3, fun j hj => ?_, fun j hj => ?_⟩
                · by_cases e : j = k
                  · rw [e]; exact HY.out
                  · exact HE.out j (by omega)
                · exact absurd hj (by have := HK0.out; omega)
              case measure => simp [intOf]; omega
        · obtain ⟨p, hkp⟩ : ∃ p, k = p + 1 := ⟨k - 1, by omega⟩
          have hpp := HP.out p hkp
          have dk : decide (0 < k) = true := by simp; omega
          have dk2 : 0 < k := by omega
          have e1 : ((k : Int) - 1).toNat = p := by omega
          have e2 : 0 ≤ (k : Int) - 1 := by omega
          have e3 : (k : Int) - 1 < n := by omega
          have HKP := hid hkp; clear hkp hk0
          cases hl : Op.bytesLess (L.Nm p).toList (L.Nm k).toList
          · have HF := hid (sigB_no (L := L) (n := n) (fun h => by have := ascB_iff.1 h.2.2 p (by have := HKP.out; omega) (by have := HKP.out; omega); rw [← HKP.out, hl] at this; cases this))
            refine wp_region_grow_lit (by kernel_rfl) (by kernel_rfl) ?_
            repeat (go_big_quiet_step ((first | (go_at_call 14; exact grow_call _ (hO _)) | (go_at_call 15; exact grow_call _ (hS _)))))
            refine wpQuiet_nil ?_
            rintro _ ⟨X, rfl⟩
            clear gc
            go_wp2
            go_ret
            exact ⟨ret_bool (HF.out.symm.trans HR.out), btr q0 (btr hb X.h)⟩
          · have HL := hid hl
            refine wp_region_grow_lit (by kernel_rfl) (by kernel_rfl) ?_
            repeat (go_big_quiet_step ((first | (go_at_call 14; exact grow_call _ (hO _)) | (go_at_call 15; exact grow_call _ (hS _)))))
            refine wpQuiet_nil ?_
            rintro _ ⟨X, rfl⟩
            clear gc
            clear hl hpp e1 e2 e3
            have y1 : (gro W1 X).cell? ⟨xb, 1, none⟩ = some (.slice a (L.N k) ca) := carry X.h x1
            have hb3 : Below W0.heap.size W0 (gro W1 X) := btr hb X.h
            have hI3 : Ints (gro W1 X) a (L.N k) (L.Z k) := hI.below X.h
            have g3 : (gro W1 X).cell? ⟨w.heap.size, 0, none⟩ = some (.slice (some ⟨g, off, none⟩) n c) := carry X.h g0
            clear x0 x1 x2 hb hI g0 hO hS HP
            generalize gro W1 X = W2 at *
            clear X gg2 gs2 hx
            go_wp2
            go_loop [5] (fun i => ∃ m : Nat, m ≤ L.N k ∧ i = .int .i64 m ∧ ∀ j, j < m → sortB (L.Z k j) = true) (fun i => L.N k - (intOf i).toNat)
            case atStart => exact ⟨0, Nat.zero_le _, rfl, fun j hj => by omega⟩
            case round =>
              obtain ⟨m, hm, rfl, hz⟩ := hrel
              have HZ := hid hz; clear hz
              by_cases hlt2 : m < L.N k
              · rcases hI3 with h0 | ⟨g', off', rfl, hg', hc'⟩
                · omega
                have z1 := hc' m hlt2
                clear hc'
                cases hs3 : sortB (L.Z k m)
                · have HF := hid (sigB_no (L := L) (n := n) (fun h => by have := (symB_iff.1 (h.2.1 k hlt)).2.2.1 m hlt2; rw [hs3] at this; cases this))
                  have hS := fun W => ssort_at hs3 W
                  clear hs3
                  go_wp2_with (go_at_call 15; refine (hS _).mono ?_; rintro e w1 ⟨rfl, rfl⟩)
                  go_ret
                  exact ⟨ret_bool (HF.out.symm.trans HR.out), btr q0 hb3⟩
                · have hS := fun W => ssort_at hs3 W
                  have HS3 := hid hs3; clear hs3
                  go_wp2_with (go_at_call 15; refine (hS _).mono ?_; rintro e w1 ⟨rfl, rfl⟩)
                  go_round
                  case rel =>
                    refine ⟨m + 1, by omega, by go_num, fun j hj => ?_⟩
                    by_cases e : j = m
                    · subst e; exact HS3.out
                    · exact HZ.out j (by omega)
                  case measure => simp [intOf]; omega
              · have hme : m = L.N k := by omega
                have HM := hid hme
                have d3 : decide ((m : Int) < (L.N k : Int)) = false := by simp; omega
                have HY := hid (symB_iff.2 ⟨HV.out, H2.out, fun j hj => HZ.out j (by omega), HS.out⟩)
                clear hme
                go_wp2
                go_roundw
                case rel =>
                  refine ⟨k + 1, by omega, by go_num, hb3, fun j hj => ?_, fun j hj => ?_⟩
                  · by_cases e : j = k
                    · rw [e]; exact HY.out
                    · exact HE.out j (by omega)
                  · by_cases e : j = p
                    · subst e; rw [← HKP.out]; exact HL.out
                    · exact HA.out j (by have := HKP.out; omega)
                case measure => simp [intOf]; omega
      · have d2 : decide (2 < (L.N k : Int)) = true := by simp; omega
        have HF := hid (sigB_no (L := L) (n := n) (fun h => h2 (symB_iff.1 (h.2.1 k hlt)).2.1)); clear h2
        refine wp_region_grow_lit (by kernel_rfl) (by kernel_rfl) ?_
        repeat (go_big_quiet_step ((go_at_call 14; exact grow_call _ (hO _))))
        refine wpQuiet_nil ?_
        rintro _ ⟨X, rfl⟩
        clear gc
        go_wp2
        go_ret
        exact ⟨ret_bool (HF.out.symm.trans HR.out), btr q0 (btr hb X.h)⟩
    · have hke : k = n := by omega
      subst hke
      by_cases h7 : k ≤ 7
      · have HT := hid (show sigB k L = true from sigB_iff.2 ⟨h7, HE.out, ascB_iff.2 (fun j hj hj2 => HA.out j hj2)⟩)
        have d7 : decide ((k : Int) ≤ 7) = true := by simp; omega
        go_wp2
        go_ret
        exact ⟨ret_bool (HT.out.symm.trans HR.out), btr q0 hb⟩
      · have HF := hid (sigB_no (L := L) (n := k) (fun h => h7 h.1))
        have d7 : decide ((k : Int) ≤ 7) = false := by simp; omega
        go_wp2
        go_ret
        exact ⟨ret_bool (HF.out.symm.trans HR.out), btr q0 hb⟩
end Go.Proofs.Ytbhagobkkobgfaa
