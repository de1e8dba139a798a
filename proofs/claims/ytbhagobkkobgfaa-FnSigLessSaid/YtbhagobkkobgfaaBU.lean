/- Several texts in one: TermA, TermB, TermC, TermD, TermS, TermP. -/
import Derived.Test.YtbhagobkkobgfaaLinO
import Derived.Test.YtbhagobkkobgfaaNameA
import Derived.Test.YtbhagobkkobgfaaLinW
namespace Go.Proofs.Ytbhagobkkobgfaa
set_option linter.unusedVariables false
set_option linter.unusedSimpArgs false
open Go.RowKit
/-- a term: its name, how many parts, which -/
inductive Tm where
  | mk (nm : ByteArray) (n : Nat) (kid : Nat → Tm)
  | bad
def Tm.nm : Tm → ByteArray
  | .mk nm _ _ => nm
  | .bad => ⟨#[]⟩
def Tm.n : Tm → Nat
  | .mk _ n _ => n
  | .bad => 0
def Tm.kid : Tm → Nat → Tm
  | .mk _ _ kid => kid
  | .bad => fun _ => .bad
/-- the parts of a term are read at A, in blocks from B on -/
def Kids (B : Nat) (w : World) : Tm → Option Addr → Prop
  | .mk _ n kid, A => n = 0 ∨ ∃ g off, A = some ⟨g, off, none⟩ ∧ B ≤ g ∧ g < w.heap.size ∧ ∀ k, k < n → ∃ a c, w.cell? ⟨g, off + k * 2, none⟩ = some (.string (kid k).nm) ∧ w.cell? ⟨g, off + k * 2 + 1, none⟩ = some (.slice a (kid k).n c) ∧ Kids B w (kid k) a
  | .bad, _ => False
theorem Kids.below {B : Nat} {w w1 : World} (hb : Below w.heap.size w w1) : ∀ {t : Tm} {A : Option Addr}, Kids B w t A → Kids B w1 t A := by
  intro t
  induction t with
  | bad => intro A h; exact False.elim h
  | mk nm n kid ih =>
    rintro A (h | ⟨g, off, ha, hB, hg, hc⟩)
    · exact .inl h
    · refine .inr ⟨g, off, ha, hB, Nat.lt_of_lt_of_le hg hb.size, fun k hk => ?_⟩
      obtain ⟨a, c, h0, h1, h2⟩ := hc k hk
      exact ⟨a, c, carry hb h0, carry hb h1, ih k h2⟩
theorem Kids.set {B p o : Nat} {w : World} (v : Value) (hp : p < B) : ∀ {t : Tm} {A : Option Addr}, Kids B w t A → Kids B (w.setCell ⟨p, o, none⟩ v) t A := by
  intro t
  induction t with
  | bad => intro A h; exact False.elim h
  | mk nm n kid ih =>
    rintro A (h | ⟨g, off, ha, hB, hg, hc⟩)
    · exact .inl h
    · refine .inr ⟨g, off, ha, hB, by simpa [World.setCell] using hg, fun k hk => ?_⟩
      obtain ⟨a, c, h0, h1, h2⟩ := hc k hk
      exact ⟨a, c, by rw [World.cell?_setCell_other _ _ _ _ (by simp <;> omega)]; exact h0, by rw [World.cell?_setCell_other _ _ _ _ (by simp <;> omega)]; exact h1, ih k h2⟩
theorem Kids.mono {B B' : Nat} {w : World} (hB : B' ≤ B) : ∀ {t : Tm} {A : Option Addr}, Kids B w t A → Kids B' w t A := by
  intro t
  induction t with
  | bad => intro A h; exact False.elim h
  | mk nm n kid ih =>
    rintro A (h | ⟨g, off, ha, hb, hg, hc⟩)
    · exact .inl h
    · refine .inr ⟨g, off, ha, Nat.le_trans hB hb, hg, fun k hk => ?_⟩
      obtain ⟨a, c, h0, h1, h2⟩ := hc k hk
      exact ⟨a, c, h0, h1, ih k h2⟩
/-- no name and no list of parts is longer than m -/
def Fits (m : Nat) : Tm → Prop
  | .mk nm n kid => nm.size ≤ m ∧ n ≤ m ∧ ∀ k, k < n → Fits m (kid k)
  | .bad => False
theorem Fits.mono {m m' : Nat} (h : m ≤ m') : ∀ {t : Tm}, Fits m t → Fits m' t := by
  intro t
  induction t with
  | bad => intro h; exact False.elim h
  | mk nm n kid ih => rintro ⟨h1, h2, h3⟩; exact ⟨Nat.le_trans h1 h, Nat.le_trans h2 h, fun k hk => ih k (h3 k hk)⟩
theorem Fits.nm {m : Nat} {t : Tm} (h : Fits m t) : t.nm.size ≤ m := by
  cases t with
  | bad => exact False.elim h
  | mk => exact h.1
theorem Fits.n {m : Nat} {t : Tm} (h : Fits m t) : t.n ≤ m := by
  cases t with
  | bad => exact False.elim h
  | mk => exact h.2.1
/-- what the size of a term answers -/
def SzT (w : World) (t : Tm) (l : Int) (e : Ending) (w' : World) : Prop :=
  ∃ r : Int, e = .returned (.int .i64 r) ∧ (r < 0 ∨ (0 ≤ r ∧ r ≤ l ∧ Fits 1048576 t)) ∧ Below w.heap.size w w'
/-- what the size of a list of terms answers -/
def SzTs (w : World) (n : Nat) (kid : Nat → Tm) (l : Int) (e : Ending) (w' : World) : Prop :=
  ∃ r : Int, e = .returned (.int .i64 r) ∧ (r < 0 ∨ (0 ≤ r ∧ r ≤ l ∧ n ≤ 1048576 ∧ ∀ k, k < n → Fits 1048576 (kid k))) ∧ Below w.heap.size w w'
end Go.Proofs.Ytbhagobkkobgfaa

namespace Go.Proofs.Ytbhagobkkobgfaa
set_option linter.unusedVariables false
set_option linter.unusedSimpArgs false
open Go.RowKit
def termV (LA : Nat → Option Addr) (kid : Nat → Tm) (j : Nat) : Value := if j % 2 = 0 then .string (kid (j / 2)).nm else .slice (LA (j / 2)) (kid (j / 2)).n (kid (j / 2)).n
theorem termV_0 (LA : Nat → Option Addr) (kid : Nat → Tm) (k : Nat) : termV LA kid (k * 2) = .string (kid k).nm := by
  unfold termV; rw [if_pos (by omega), show k * 2 / 2 = k by omega]
theorem termV_1 (LA : Nat → Option Addr) (kid : Nat → Tm) (k : Nat) : termV LA kid (k * 2 + 1) = .slice (LA k) (kid k).n (kid k).n := by
  unfold termV; rw [if_neg (by omega), show (k * 2 + 1) / 2 = k by omega]
theorem termV_old {LA : Nat → Option Addr} {kid : Nat → Tm} {A : Option Addr} {k j : Nat} (h : j / 2 ≠ k) : termV (fun i => if i = k then A else LA i) kid j = termV LA kid j := by
  unfold termV; simp [h]
def zeroT (j : Nat) : Value := if j % 2 = 0 then .string ⟨#[]⟩ else .slice none 0 0
theorem rowIs_madeT (w : World) (n : Nat) (t : TypeId) : (w.alloc (.cells (madeCells #[.string ⟨#[]⟩, .slice none 0 0] n) t)).rowIs w.heap.size t n zeroT :=
  ⟨_, Deep.blk_alloc_new _ _, size_madeCells _ _, fun i hi => by
    have h2 : i % 2 = 0 ∨ i % 2 = 1 := by omega
    rcases h2 with h2 | h2 <;> simp [madeCells, hi, h2, zeroT]⟩
/-- a term of new memory, handed back -/
def NewT (W : World) (t : Tm) (e : Ending) (w' : World) : Prop :=
  ∃ A, e = .returned (.agg #[.string t.nm, .slice A t.n t.n]) ∧ Kids W.heap.size w' t A ∧ Below W.heap.size W w'
/-- a list of terms of new memory, handed back -/
def NewTs (W : World) (n : Nat) (kid : Nat → Tm) (e : Ending) (w' : World) : Prop :=
  ∃ A, e = .returned (.slice A n n) ∧ (∀ nm, Kids W.heap.size w' (.mk nm n kid) A) ∧ Below W.heap.size W w'
end Go.Proofs.Ytbhagobkkobgfaa

namespace Go.Proofs.Ytbhagobkkobgfaa
set_option linter.unusedVariables false
set_option linter.unusedSimpArgs false
open Go.RowKit
/-- a term is one, so deep at most -/
def shapeB : Nat → Tm → Bool
  | 0, _ => false
  | d + 1, .mk nm n kid => decide (nameB nm = true ∧ n ≤ 2 ∧ ∀ k, k < n → shapeB d (kid k) = true)
  | _ + 1, .bad => false
theorem shape_mk {d : Nat} {t : Tm} (h : shapeB (d + 1) t = true) : ∃ nm n kid, t = .mk nm n kid := by
  cases t with
  | bad => cases h
  | mk nm n kid => exact ⟨nm, n, kid, rfl⟩
theorem shape_iff {d : Nat} {nm : ByteArray} {n : Nat} {kid : Nat → Tm} : shapeB (d + 1) (.mk nm n kid) = true ↔ nameB nm = true ∧ n ≤ 2 ∧ ∀ k, k < n → shapeB d (kid k) = true := by
  rw [shapeB]; exact decide_eq_true_iff
theorem shape_no {d : Nat} {nm : ByteArray} {n : Nat} {kid : Nat → Tm} (h : ¬ (nameB nm = true ∧ n ≤ 2 ∧ ∀ k, k < n → shapeB d (kid k) = true)) : shapeB (d + 1) (.mk nm n kid) = false := by
  cases e : shapeB (d + 1) (.mk nm n kid)
  · rfl
  · exact absurd (shape_iff.1 e) h
def sumK (f : Nat → Nat) : Nat → Nat
  | 0 => 0
  | n + 1 => sumK f n + f n
/-- how many terms there are in a term, so deep at most -/
def cntN : Nat → Tm → Nat
  | 0, _ => 1
  | d + 1, .mk _ n kid => 1 + sumK (fun k => cntN d (kid k)) n
  | _ + 1, .bad => 0
theorem cnt_succ (d : Nat) (nm : ByteArray) (n : Nat) (kid : Nat → Tm) : cntN (d + 1) (.mk nm n kid) = 1 + sumK (fun k => cntN d (kid k)) n := by rw [cntN]
theorem sumK_bd {f : Nat → Nat} {m : Nat} : ∀ {n : Nat}, (∀ k, k < n → f k ≤ m) → sumK f n ≤ n * m
  | 0, _ => by simp [sumK]
  | n + 1, h => by
    have ih := sumK_bd (n := n) (fun k hk => h k (by omega))
    have := h n (by omega)
    rw [sumK, Nat.succ_mul]; omega
theorem cnt_bd : ∀ (d : Nat) (t : Tm), shapeB d t = true → cntN d t + 1 ≤ 2 ^ d := by
  intro d
  induction d with
  | zero => intro t h; cases h
  | succ d ih =>
    intro t h
    obtain ⟨nm, n, kid, rfl⟩ := shape_mk h
    obtain ⟨_, h2, h3⟩ := shape_iff.1 h
    have hp : 1 ≤ 2 ^ d := Nat.one_le_two_pow
    have hs := sumK_bd (f := fun k => cntN d (kid k)) (m := 2 ^ d - 1) (n := n) (fun k hk => by have := ih _ (h3 k hk); show cntN d (kid k) ≤ _; omega)
    rw [cnt_succ, Nat.pow_succ]
    have : n * (2 ^ d - 1) ≤ 2 * (2 ^ d - 1) := Nat.mul_le_mul_right _ h2
    omega
theorem cnt_16 {d : Nat} {t : Tm} (hd : d ≤ 4) (h : shapeB d t = true) : cntN d t ≤ 16 := by
  have h1 := cnt_bd d t h
  have h2 : 2 ^ d ≤ 2 ^ 4 := Nat.pow_le_pow_right (by omega) hd
  omega
end Go.Proofs.Ytbhagobkkobgfaa

namespace Go.Proofs.Ytbhagobkkobgfaa
set_option linter.unusedVariables false
set_option linter.unusedSimpArgs false
open Go.RowKit
theorem ret_i64 {a b : Int} (h : a = b) : Ending.returned (.int .i64 a) = .returned (.int .i64 b) := by rw [h]
/-- a term is well-formed -/
def wellB (t : Tm) : Bool := decide (shapeB 4 t = true ∧ cntN 4 t ≤ 12)
theorem wellB_iff {t : Tm} : wellB t = true ↔ shapeB 4 t = true ∧ cntN 4 t ≤ 12 := by unfold wellB; exact decide_eq_true_iff
theorem wellB_no {t : Tm} (h : shapeB 4 t = false) : wellB t = false := by
  cases e : wellB t
  · rfl
  · rw [(wellB_iff.1 e).1] at h; cases h
theorem wellB_cnt {t : Tm} (h : shapeB 4 t = true) : wellB t = decide ((cntN 4 t : Int) ≤ 12) := by
  unfold wellB; rw [h]; simp; omega
/-- what size answers of a term, so deep at most -/
def SizeP (w : World) (d : Nat) (t : Tm) (e : Ending) (w' : World) : Prop := e = .returned (.tuple #[.int .i64 ((if shapeB d t = true then cntN d t else 0 : Nat) : Int), .bool (shapeB d t)]) ∧ Below w.heap.size w w'
theorem SizeP.no {w w' : World} {d : Nat} {t : Tm} (h : shapeB d t = false) (hb : Below w.heap.size w w') : SizeP w d t (.returned (.tuple #[.int .i64 0, .bool false])) w' := ⟨by rw [h]; rfl, hb⟩
theorem SizeP.yes {w w' : World} {d : Nat} {t : Tm} {m : Nat} (h : shapeB d t = true) (hm : cntN d t = m) (hb : Below w.heap.size w w') : SizeP w d t (.returned (.tuple #[.int .i64 (m : Int), .bool true])) w' := ⟨by rw [h, if_pos rfl, hm], hb⟩
theorem SizeP.false {w w' : World} {d : Nat} {t : Tm} {e : Ending} (h : shapeB d t = false) (hp : SizeP w d t e w') : e = .returned (.tuple #[.int .i64 0, .bool false]) ∧ Below w.heap.size w w' := by
  unfold SizeP at hp; rw [h] at hp; exact hp
theorem SizeP.true {w w' : World} {d : Nat} {t : Tm} {e : Ending} (h : shapeB d t = true) (hp : SizeP w d t e w') : e = .returned (.tuple #[.int .i64 (cntN d t), .bool true]) ∧ Below w.heap.size w w' := by
  unfold SizeP at hp; rw [h, if_pos rfl] at hp; exact hp
end Go.Proofs.Ytbhagobkkobgfaa

namespace Go.Proofs.Ytbhagobkkobgfaa
set_option linter.unusedVariables false
set_option linter.unusedSimpArgs false
open Go.RowKit
def sumT : Nat → (Nat → Nat) → Nat
  | 0, _ => 0
  | k + 1, f => sumT k f + f k
/-- how many terms there are in a term -/
def tSz : Tm → Nat
  | .mk _ n kid => 1 + sumT n (fun k => tSz (kid k))
  | .bad => 1
theorem tSz_pos : ∀ t : Tm, 1 ≤ tSz t
  | .mk _ _ _ => by rw [tSz]; omega
  | .bad => by rw [tSz]; omega
/-- what the size of a term answers -/
def SzU (w : World) (t : Tm) (l : Int) (e : Ending) (w' : World) : Prop :=
  ∃ r : Int, e = .returned (.int .i64 r) ∧ (r < 0 ∨ (0 ≤ r ∧ r + tSz t ≤ l + 1 ∧ Fits 1048576 t)) ∧ Below w.heap.size w w'
/-- what the size of a list of terms answers -/
def SzUs (w : World) (n : Nat) (kid : Nat → Tm) (l : Int) (e : Ending) (w' : World) : Prop :=
  ∃ r : Int, e = .returned (.int .i64 r) ∧ (r < 0 ∨ (0 ≤ r ∧ r + sumT n (fun k => tSz (kid k)) ≤ l ∧ n ≤ 1048576 ∧ ∀ k, k < n → Fits 1048576 (kid k))) ∧ Below w.heap.size w w'
end Go.Proofs.Ytbhagobkkobgfaa

namespace Go.Proofs.Ytbhagobkkobgfaa
set_option linter.unusedVariables false
set_option linter.unusedSimpArgs false
open Go.RowKit
end Go.Proofs.Ytbhagobkkobgfaa
