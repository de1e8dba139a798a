/- Contract of the laws' copy of a list of constraints. -/
import Derived.Test.YtppbapgjpfgmaaaFarC
import Derived.Test.YtppbapgjpfgmaaaPlanB
namespace Go.Proofs.Ytppbapgjpfgmaaa
set_option linter.unusedVariables false
set_option linter.unusedSimpArgs false
open Go.RowKit
/-- a list of n constraints in blocks of [lo, hi): the rows stand apart -/
def LsB (lo hi : Nat) (w : World) (A : Option Addr) (n : Nat) (L : Lst) : Prop :=
  ∃ g LA LC, A = some ⟨g, 0, none⟩ ∧ lo ≤ g ∧ g < hi ∧ w.rowIs g 48 (n * 3) (linV LA LC L) ∧ (∀ k, k < n → L.N k ≤ LC k ∧ LC k ≤ 9223372036854775807 ∧ OwnB lo hi w (LA k) (L.N k) (L.Z k)) ∧
    (∀ k, k < n → L.N k = 0 ∨ LA k ≠ some ⟨g, 0, none⟩) ∧ (∀ i j, i < j → j < n → L.N i = 0 ∨ L.N j = 0 ∨ LA i ≠ LA j)
theorem LsB.below {lo hi : Nat} {w w' : World} {A : Option Addr} {n : Nat} {L : Lst} (h : LsB lo hi w A n L) (hb : Below w.heap.size w w') : LsB lo hi w' A n L := by
  obtain ⟨g, LA, LC, ha, h1, h2, hr, hc, hd⟩ := h
  exact ⟨g, LA, LC, ha, h1, h2, row_below hr hb, fun k hk => ⟨(hc k hk).1, (hc k hk).2.1, (hc k hk).2.2.below hb⟩, hd⟩
theorem LsB.lins {lo hi : Nat} {w : World} {A : Option Addr} {n : Nat} {L : Lst} (h : LsB lo hi w A n L) (hN : ∀ k, k < n → L.N k ≤ 1048576) : Lins w A n L := by
  obtain ⟨g, LA, LC, ha, _, _, hr, hc, _⟩ := h
  refine .inr ⟨g, 0, ha, hr.lt, fun k hk => ⟨LA k, LC k, ?_, ?_, ?_, by have := hN k hk; omega, (hc k hk).2.2.ints⟩⟩
  · rw [Nat.zero_add]; exact (hr.cell (by omega)).trans (by rw [linV_0])
  · rw [Nat.zero_add]; exact (hr.cell (by omega)).trans (by rw [linV_1])
  · rw [Nat.zero_add]; exact (hr.cell (by omega)).trans (by rw [linV_2])
/-- a list of n constraints of new memory, handed back -/
def NewLs (w : World) (n : Nat) (L : Lst) (e : Ending) (w' : World) : Prop :=
  ∃ A, e = .returned (.slice A n n) ∧ LsB w.heap.size w'.heap.size w' A n L ∧ Below w.heap.size w w'
theorem apart_new {W W1 w w1 : World} {A B : Option Addr} {n m : Nat} {Z Y : Nat → Int} (h : OwnI W w A n Z) (k : OwnI W1 w1 B m Y) (hs : w.heap.size ≤ W1.heap.size) : n = 0 ∨ m = 0 ∨ A ≠ B := by
  rcases h with h | ⟨g, rfl, _, hg, _⟩
  · exact .inl h
  · rcases k with k | ⟨g', rfl, hg', _⟩
    · exact .inr (.inl k)
    · refine .inr (.inr fun e => ?_)
      have := congrArg (fun x => (x.getD ⟨0, 0, none⟩).block) e
      simp at this
      omega
theorem linV_old {LA : Nat → Option Addr} {LC : Nat → Nat} {L : Lst} {A : Option Addr} {c k j : Nat} (h : j / 3 ≠ k) : linV (fun i => if i = k then A else LA i) (fun i => if i = k then c else LC i) L j = linV LA LC L j := by
  unfold linV; simp [h]
set_option maxRecDepth 100000 in
set_option maxHeartbeats 4000000 in
theorem tolins_any (A : Option Addr) (n c : Nat) (L : Lst) (w : World) (hn : n ≤ 1048576) (hA : Lins w A n L) (hN : ∀ k, k < n → L.N k ≤ 1048576) :
    Calls Try.prog 7 #[.slice A n c] w (NewLs w n L) := by
  have hmk := run_make_lins n hn
  have hrow := rowIs_made3 w (n * 3) 48
  have hb0 : Below w.heap.size w (w.alloc (.cells (madeCells #[.slice none 0 0, .int .i64 0, .bool false] (n * 3)) 48)) := bal (Below.refl _ _) _
  have HNN := hid hN; clear hN
  go_enter Try.func7, Try.ntmps7
  go_wp2
  clear hmk
  go_loopw [4] (fun i wr => ∃ (k : Nat) (LA : Nat → Option Addr) (LC : Nat → Nat), k ≤ n ∧ i = .int .i64 k ∧ Below w.heap.size w wr ∧ wr.rowIs w.heap.size 48 (n * 3) (fun j => if j < k * 3 then linV LA LC L j else zeroV j) ∧ ∀ i, i < k → L.N i ≤ LC i ∧ LC i ≤ 9223372036854775807 ∧ (OwnI (w.alloc (.cells #[] 48)) wr (LA i) (L.N i) (L.Z i)) ∧ ∀ j, j < i → L.N j = 0 ∨ L.N i = 0 ∨ LA j ≠ LA i) (fun i _ => n - (intOf i).toNat)
  case atStart => exact ⟨0, fun _ => none, fun _ => 0, Nat.zero_le _, rfl, hb0, hrow.congr fun i hi => by simp, fun i hi => by omega⟩
  case round =>
    obtain ⟨k, LA, LC, hk, rfl, hb, hr, ho⟩ := hrel
    have HO := hid ho; clear ho
    clear hrow hb0
    by_cases hlt : k < n
    · rcases hA with h0 | ⟨g, off, rfl, hg, hcA⟩
      · omega
      obtain ⟨a, ca, a0, a1, a2, _, hI⟩ := hcA k hlt
      have hNk := HNN.out k hlt
      have gg : g < wr.heap.size := Nat.lt_of_lt_of_le hg hb.size
      replace a0 := carry hb a0
      replace a1 := carry hb a1
      replace a2 := carry hb a2
      replace hI := hI.below hb
      have hS : w.heap.size < wr.heap.size := hr.lt
      clear hcA
      go_wp2_with (go_at_call 24; refine (tolin_any a (L.N k) ca (L.Z k) (L.B k) (L.S k) _ hNk hI).mono ?_; rintro e w1 ⟨v, rfl, ⟨A3, c3, rfl, hc3, hc4, O3⟩, hq⟩; have hr1 := row_below hr hq; have d0 : w1.cell? ⟨w.heap.size, k * 3, none⟩ = some (.slice none 0 0) := ((hr1.cell (by omega)).trans (by rw [if_neg (by omega)]; unfold zeroV; rw [if_pos (by omega)])); have d1 : w1.cell? ⟨w.heap.size, k * 3 + 1, none⟩ = some (.int .i64 0) := ((hr1.cell (by omega)).trans (by rw [if_neg (by omega)]; unfold zeroV; rw [if_neg (by omega), if_pos (by omega)])); have d2 : w1.cell? ⟨w.heap.size, k * 3 + 2, none⟩ = some (.bool false) := ((hr1.cell (by omega)).trans (by rw [if_neg (by omega)]; unfold zeroV; rw [if_neg (by omega), if_neg (by omega)])); have e0 : w1.frozen? ⟨w.heap.size, k * 3, none⟩ = false := hr1.frozen _; have e1 : w1.frozen? ⟨w.heap.size, k * 3 + 1, none⟩ = false := hr1.frozen _; have e2 : w1.frozen? ⟨w.heap.size, k * 3 + 2, none⟩ = false := hr1.frozen _)
      go_roundw
      case rel =>
        refine ⟨k + 1, fun i => if i = k then A3 else LA i, fun i => if i = k then c3 else LC i, by omega, by go_num, bst (bst (bst (btr hb hq) (Nat.le_refl _) _) (Nat.le_refl _) _) (Nat.le_refl _) _, (((hr1.set (k * 3) _).set (k * 3 + 1) _).set (k * 3 + 2) _).congr fun j hj => ?_, fun i hi => ?_⟩
        · by_cases ec : j = k * 3 + 2
          · subst ec; rw [if_pos rfl, if_pos (by omega), linV_2]
          · rw [if_neg ec]
            by_cases eb : j = k * 3 + 1
            · subst eb; rw [if_pos rfl, if_pos (by omega), linV_1]
            · rw [if_neg eb]
              by_cases ea : j = k * 3
              · subst ea; rw [if_pos rfl, if_pos (by omega), linV_0]; simp
              · rw [if_neg ea]
                by_cases e2 : j < k * 3
                · rw [if_pos e2, if_pos (by omega), linV_old (by omega)]
                · rw [if_neg e2, if_neg (by omega)]
        · by_cases e : i = k
          · subst e
            simp only [if_true]
            refine ⟨hc3, hc4, (((O3.old (by simp; omega)).set _ (by simp)).set _ (by simp)).set _ (by simp), fun j hj => ?_⟩
            rw [if_neg (by omega)]
            exact apart_new (HO.out j hj).2.2.1 O3 (Nat.le_refl _)
          · simp only [if_neg e]
            obtain ⟨h1, h2, h3, h4⟩ := HO.out i (by omega)
            refine ⟨h1, h2, (((h3.below hq).set _ (by simp)).set _ (by simp)).set _ (by simp), fun j hj => ?_⟩
            rw [if_neg (by omega)]
            exact h4 j hj
      case measure => simp [intOf]; omega
    · have hke : k = n := by omega
      subst hke
      go_wp2
      go_ret
      exact ⟨_, rfl, ⟨w.heap.size, LA, LC, rfl, Nat.le_refl _, hr.lt, hr.congr (fun j hj => by rw [if_pos hj]), fun i hi => ⟨(HO.out i hi).1, (HO.out i hi).2.1, (HO.out i hi).2.2.1.ownB.wider (by simp) (Nat.le_refl _)⟩, fun i hi => by
        rcases (HO.out i hi).2.2.1 with h0 | ⟨g, e, hg, _⟩
        · exact .inl h0
        · refine .inr fun e2 => ?_
          rw [e] at e2
          have := congrArg (fun x => (x.getD ⟨0, 0, none⟩).block) e2
          simp at this hg
          omega, fun i j hi hj => (HO.out j hj).2.2.2 i hi⟩, hb⟩
end Go.Proofs.Ytppbapgjpfgmaaa
