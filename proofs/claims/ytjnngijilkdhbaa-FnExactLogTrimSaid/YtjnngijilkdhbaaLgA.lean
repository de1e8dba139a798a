/- LogTrim: a log without one of its clauses. -/
import Derived.Test.YtjnngijilkdhbaaLfC
namespace Go.Proofs.Ytjnngijilkdhbaa
set_option linter.unusedVariables false
set_option linter.unusedSimpArgs false
open Go.RowKit
def EqLl (n : Nat) (L L' : Lls) : Prop := ∀ k, k < n → L'.N k = L.N k ∧ L'.Z k = L.Z k
theorem EqLl.symm {n : Nat} {L L' : Lls} (h : EqLl n L L') : EqLl n L' L := fun k hk => ⟨(h k hk).1.symm, (h k hk).2.symm⟩
theorem Ur.congr {n : Nat} {L L' : Lls} {T T' : List Int} {r : Bool} (h : Ur n L T T' r) (he : EqLl n L L') : Ur n L' T T' r := by
  induction h with
  | stop T h => exact .stop T fun i hi => by rw [(he i hi).1, (he i hi).2]; exact h i hi
  | bad T i hi hf h => exact .bad T i hi (by rw [(he i hi).1, (he i hi).2]; exact hf) (fun j hj => by rw [(he j (by omega)).1, (he j (by omega)).2]; exact h j hj)
  | step T i x T' r hi hu h hr ih => exact .step T i x T' r hi (by rw [(he i hi).1, (he i hi).2]; exact hu) (fun j hj => by rw [(he j (by omega)).1, (he j (by omega)).2]; exact h j hj) ih
theorem cnB_congr {n : Nat} {L L' : Lls} {m : Int} (he : EqLl n L L') : cnB n L m = cnB n L' m := by
  have e : ∀ {L L' : Lls}, EqLl n L L' → cnB n L m = true → cnB n L' m = true := fun {L L'} he h => by
    obtain ⟨h1, h2, h3, h4⟩ := cnB_iff.1 h
    exact cnB_iff.2 ⟨h1, h2, h3, fun k hk => by rw [(he k hk).1, (he k hk).2]; exact h4 k hk⟩
  rw [Bool.eq_iff_iff]
  exact ⟨e he, e he.symm⟩
theorem UnR.congr {n : Nat} {L L' : Lls} {m : Int} {T l : List Int} {r : Bool} (he : EqLl n L L') (h : UnR n L m T l r) : UnR n L' m T l r := by
  rcases h with ⟨a, b, c⟩ | ⟨a, b, c⟩
  · exact .inl ⟨by rw [← cnB_congr he]; exact a, b, c.congr he⟩
  · exact .inr ⟨by rw [← cnB_congr he]; exact a, b, c⟩
theorem rupB_congr {n : Nat} {L L' : Lls} {m : Int} {N : Nat} {Z : Nat → Int} (he : EqLl n L L') : rupB n L m N Z = rupB n L' m N Z := by
  have e : (okC N Z m = true ∧ ∃ l, UnR n L m (putL N (negZ Z)) l true) ↔ (okC N Z m = true ∧ ∃ l, UnR n L' m (putL N (negZ Z)) l true) :=
    ⟨fun ⟨a, l, h⟩ => ⟨a, l, h.congr he⟩, fun ⟨a, l, h⟩ => ⟨a, l, h.congr he.symm⟩⟩
  unfold rupB
  congr 1
  exact propext e
/-- without the i-th -/
def shM (i : Nat) (M : Lls) : Lls := ⟨fun k => M.N (i + k), fun k => M.Z (i + k)⟩
def dropM (i : Nat) (M : Lls) : Lls := catL i M (shM (i + 1) M)
theorem logB_at {first n : Nat} {L : Lls} {m : Int} {N : Nat} {M : Lls} (h : logB first n L m N M = true) : ∀ i, first ≤ i → i < N → rupB (n + i) (catL n L M) m (M.N i) (M.Z i) = true := fun i hf hi => by
  unfold logB at h
  rw [List.all_eq_true] at h
  have := h i (List.mem_range.2 hi)
  simp only [Bool.or_eq_true, decide_eq_true_eq] at this
  rcases this with h | h
  · omega
  · exact h
theorem lokB_parts {n : Nat} {L : Lls} {m : Int} {N : Nat} {M : Lls} (h : lokB n L m N M = true) : cnB n L m = true ∧ N ≤ 130 ∧ n + N ≤ 400 ∧ logB 0 n L m N M = true := by
  simp only [lokB, Bool.and_eq_true, decide_eq_true_eq] at h
  exact ⟨h.1, h.2.1, h.2.2.1, h.2.2.2⟩
/-- the clauses ahead of the one that is left out do not turn -/
theorem lokB_drop {n : Nat} {L : Lls} {m : Int} {N i : Nat} {M : Lls} (h : lokB n L m N M = true) (hi : i < N) : lokB n L m (N - 1) (dropM i M) = logB i n L m (N - 1) (dropM i M) := by
  obtain ⟨h1, h2, h3, h4⟩ := lokB_parts h
  have e1 : lokB n L m (N - 1) (dropM i M) = logB 0 n L m (N - 1) (dropM i M) := by
    simp [lokB, h1, show N - 1 ≤ 130 by omega, show n + (N - 1) ≤ 400 by omega]
  rw [e1, Bool.eq_iff_iff]
  constructor
  · intro h
    exact logB_yes fun j hj hjN => logB_at h j (Nat.zero_le _) hjN
  · intro h
    refine logB_yes fun j _ hjN => ?_
    by_cases hji : j < i
    · have h5 := logB_at h4 j (Nat.zero_le _) (by omega)
      have eN : (dropM i M).N j = M.N j := if_pos hji
      have eZ : (dropM i M).Z j = M.Z j := if_pos hji
      rw [eN, eZ, ← h5]
      refine rupB_congr fun k hk => ?_
      simp only [catL, dropM]
      by_cases hkn : k < n
      · simp [hkn]
      · simp [hkn, show k - n < i by omega]
    · exact logB_at h j (by omega) hjN
/-- one step, and all -/
noncomputable def stepM (n : Nat) (L : Lls) (m : Int) (i : Nat) (s : Nat × Lls) : Nat × Lls := if lokB n L m (s.1 - 1) (dropM i s.2) = true then (s.1 - 1, dropM i s.2) else s
noncomputable def trimM (n : Nat) (L : Lls) (m : Int) : Nat → Nat × Lls → Nat × Lls
  | 0, s => s
  | i + 1, s => trimM n L m i (stepM n L m i s)
end Go.Proofs.Ytjnngijilkdhbaa
