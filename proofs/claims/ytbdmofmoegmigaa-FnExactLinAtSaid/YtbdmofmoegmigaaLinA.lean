/- Rows of integers that are read; contracts of the laws' helpers over them: the size, the copy, the comparison. -/
import Derived.Test.YtbdmofmoegmigaaBase
import Derived.Test.YtbdmofmoegmigaaLinM
import Derived.Deep.OwnRows
namespace Go.Proofs.Ytbdmofmoegmigaa
set_option linter.unusedVariables false
set_option linter.unusedSimpArgs false
open Go.RowKit
/-- the slice of n elements at A reads as the numbers Z -/
def Ints (w : World) (A : Option Addr) (n : Nat) (Z : Nat → Int) : Prop :=
  n = 0 ∨ ∃ g off, A = some ⟨g, off, none⟩ ∧ g < w.heap.size ∧ ∀ k, k < n → w.cell? ⟨g, off + k, none⟩ = some (.int .i64 (Z k))
theorem Ints.below {w w1 : World} {A : Option Addr} {n : Nat} {Z : Nat → Int} (h : Ints w A n Z) (hb : Below w.heap.size w w1) : Ints w1 A n Z := by
  rcases h with h | ⟨g, off, ha, hg, hc⟩
  · exact .inl h
  · exact .inr ⟨g, off, ha, Nat.lt_of_lt_of_le hg hb.size, fun k hk => (hb.cell (p := ⟨g, off + k, none⟩) hg).trans (hc k hk)⟩
theorem Ints.of_row {w : World} {g n : Nat} {t : TypeId} {Z : Nat → Int} (h : w.rowIs g t n (fun k => .int .i64 (Z k))) : Ints w (some ⟨g, 0, none⟩) n Z :=
  .inr ⟨g, 0, rfl, h.lt, fun k hk => by rw [Nat.zero_add]; exact h.cell hk⟩
theorem Ints.congr {w : World} {A : Option Addr} {n : Nat} {Z Y : Nat → Int} (h : Ints w A n Z) (e : ∀ k, k < n → Z k = Y k) : Ints w A n Y := by
  rcases h with h | ⟨g, off, ha, hg, hc⟩
  · exact .inl h
  · exact .inr ⟨g, off, ha, hg, fun k hk => by rw [hc k hk, e k hk]⟩
theorem row_below {w w1 : World} {g n : Nat} {t : TypeId} {f : Nat → Value} (h : w.rowIs g t n f) (hb : Below w.heap.size w w1) : w1.rowIs g t n f := h.of_block (hb.block g h.lt)
/-- a new row of n numbers Z -/
def NewI (t : TypeId) (w : World) (n : Nat) (Z : Nat → Int) (e : Ending) (w' : World) : Prop :=
  ∃ g, e = .returned (.slice (some ⟨g, 0, none⟩) n n) ∧ w.heap.size ≤ g ∧ w'.rowIs g t n (fun k => .int .i64 (Z k)) ∧ Below w.heap.size w w'
theorem infoI : (Try.prog.info? 3).map (fun i => (i.zero, i.size, i.bytes)) = some (some (.int .i64 0), 1, 8) := by kernel_rfl

theorem szints_any (A : Option Addr) (n c : Nat) (l : Int) (w : World) (hn : n ≤ 9223372036854775807) (hl : 0 ≤ l ∧ l ≤ 1048576) :
    Calls Try.prog 119 #[.slice A n c, .int .i64 l] w fun e w' => e = .returned (.int .i64 (if l < n then -1 else l - n)) ∧ w = w' := by
  obtain ⟨l1, l2⟩ := hl
  by_cases h : l < n
  · rw [if_pos h]
    go_enter Try.func119, Try.ntmps119
    go_wp2
    go_ret
    exact ⟨rfl, rfl⟩
  · rw [if_neg h]
    go_enter Try.func119, Try.ntmps119
    go_wp2
    go_ret
    exact ⟨rfl, rfl⟩

set_option maxHeartbeats 1000000 in
theorem toints_any (A : Option Addr) (n c : Nat) (Z : Nat → Int) (w : World) (hn : n ≤ 1048576) (h : Ints w A n Z) :
    Calls Try.prog 70 #[.slice A n c] w (NewI 3 w n Z) := by
  have hmk := run_make_row' (P := Try.prog) 23 3 (.int .i64 0) 8 Try.underlying23 infoI rfl .i64 .i64 n (by omega) (by omega)
  have hrow := World.rowIs_made w (.int .i64 0) n 3
  have hb0 : Below w.heap.size w (w.alloc (.cells (madeCells #[.int .i64 0] n) 3)) := bal (Below.refl _ _) _
  go_enter Try.func70, Try.ntmps70
  go_wp2
  clear hmk
  go_loopw [4] (fun i wr => ∃ k : Nat, k ≤ n ∧ i = .int .i64 k ∧ Below w.heap.size w wr ∧ wr.rowIs w.heap.size 3 n (fun j => if j < k then .int .i64 (Z j) else .int .i64 0)) (fun i _ => n - (intOf i).toNat)
  case atStart => exact ⟨0, Nat.zero_le _, rfl, hb0, hrow.congr fun i hi => by simp⟩
  case round =>
    obtain ⟨k, hk, rfl, hb, hr⟩ := hrel
    clear hrow hb0
    by_cases hlt : k < n
    · rcases h with h0 | ⟨g, off, rfl, hg, hcell⟩
      · omega
      · have c1 : wr.cell? ⟨g, off + k, none⟩ = some (.int .i64 (Z k)) := (hb.cell (p := ⟨g, off + k, none⟩) hg).trans (hcell k hlt)
        have c2 : wr.cell? ⟨w.heap.size, k, none⟩ = some (.int .i64 0) := by rw [hr.cell hlt]; simp
        have c3 : wr.frozen? ⟨w.heap.size, k, none⟩ = false := hr.frozen k
        clear hcell
        go_wp2
        go_roundw
        case rel =>
          refine ⟨k + 1, by omega, by go_num, bst hb (Nat.le_refl _) _, (hr.set k _).congr fun j hj => ?_⟩
          by_cases e : j = k
          · subst e; simp
          · simp only [if_neg e]
            by_cases e2 : j < k
            · rw [if_pos e2, if_pos (by omega)]
            · rw [if_neg e2, if_neg (by omega)]
        case measure => simp [intOf]; omega
    · have hke : k = n := by omega
      subst hke
      go_wp2
      go_ret
      exact ⟨_, rfl, Nat.le_refl _, hr.congr (fun j hj => by rw [if_pos hj]), hb⟩

set_option maxHeartbeats 1000000 in
theorem eqints_any (A B : Option Addr) (n m c d : Nat) (Z Y : Nat → Int) (w : World) (hn : n ≤ 9223372036854775807) (hm : m ≤ 9223372036854775807) (hA : Ints w A n Z) (hB : Ints w B m Y) :
    Calls Try.prog 72 #[.slice A n c, .slice B m d] w fun e w' => e = .returned (.bool (eqI n Z m Y)) ∧ Below w.heap.size w w' := by
  by_cases hnm : n = m
  · subst hnm
    generalize hr : eqI n Z n Y = res
    have HR := hid hr; clear hr
    go_enter Try.func72, Try.ntmps72
    go_wp2
    go_loopw [5] (fun i wr => ∃ k : Nat, k ≤ n ∧ i = .int .i64 k ∧ Below w.heap.size w wr ∧ ∀ j, j < k → Z j = Y j) (fun i _ => n - (intOf i).toNat)
    case atStart => exact ⟨0, Nat.zero_le _, rfl, Below.refl _ _, fun j hj => by omega⟩
    case round =>
      obtain ⟨k, hk, rfl, hb, he⟩ := hrel
      have HE := hid he; clear he
      by_cases hlt : k < n
      · rcases hA with h0 | ⟨g, off, rfl, hg, hcA⟩
        · omega
        rcases hB with h0 | ⟨g2, off2, rfl, hg2, hcB⟩
        · omega
        have c1 : wr.cell? ⟨g, off + k, none⟩ = some (.int .i64 (Z k)) := (hb.cell (p := ⟨g, off + k, none⟩) hg).trans (hcA k hlt)
        have c2 : wr.cell? ⟨g2, off2 + k, none⟩ = some (.int .i64 (Y k)) := (hb.cell (p := ⟨g2, off2 + k, none⟩) hg2).trans (hcB k hlt)
        clear hcA hcB
        by_cases heq : Z k = Y k
        · have e1 : (Z k == Y k) = true := by simpa using heq
          have e2 : (Z k != Y k) = false := by simpa using heq
          have HQ := hid heq; clear heq
          go_wp2
          go_region
          all_goals
            go_wp2
            go_roundw
            case rel =>
              refine ⟨k + 1, by omega, by go_num, hb.drew, fun j hj => ?_⟩
              by_cases e : j = k
              · subst e; exact HQ.out
              · exact HE.out j (by omega)
            case measure => simp [intOf]; omega
        · have e1 : (Z k == Y k) = false := by simpa using heq
          have e2 : (Z k != Y k) = true := by simpa using heq
          have HF := hid (eqI_at (m := n) hlt heq); clear heq
          go_wp2
          go_region
          all_goals
            go_wp2
            go_ret
            exact ⟨ret_bool (by rw [← HR.out, HF.out]), hb.drew⟩
      · have hke : k = n := by omega
        subst hke
        have HT := hid (eqI_iff.2 ⟨rfl, HE.out⟩)
        go_wp2
        go_ret
        exact ⟨ret_bool (by rw [← HR.out, HT.out]), hb⟩
  · rw [eqI_len hnm]
    have e1 : ((n : Int) == m) = false := by simp; omega
    have e2 : ((n : Int) != m) = true := by simp; omega
    go_enter Try.func72, Try.ntmps72
    go_wp2
    go_ret
    exact ⟨rfl, Below.refl _ _⟩
end Go.Proofs.Ytbdmofmoegmigaa
