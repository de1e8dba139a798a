/- Rows of truth values that are read; the laws' helpers over them; contracts of ClauseIs, of the program and of the model. -/
import Derived.Test.YtoechhdahokoiaaCaA
import Derived.BigQuiet
namespace Go.Proofs.Ytoechhdahokoiaa
set_option linter.unusedVariables false
set_option linter.unusedSimpArgs false
open Go.RowKit
/-- the slice of n truth values at A reads as V -/
def Bools (w : World) (A : Option Addr) (n : Nat) (V : Nat → Bool) : Prop :=
  n = 0 ∨ ∃ g off, A = some ⟨g, off, none⟩ ∧ g < w.heap.size ∧ ∀ k, k < n → w.cell? ⟨g, off + k, none⟩ = some (.bool (V k))
theorem Bools.below {w w1 : World} {A : Option Addr} {n : Nat} {V : Nat → Bool} (h : Bools w A n V) (hb : Below w.heap.size w w1) : Bools w1 A n V := by
  rcases h with h | ⟨g, off, ha, hg, hc⟩
  · exact .inl h
  · exact .inr ⟨g, off, ha, Nat.lt_of_lt_of_le hg hb.size, fun k hk => (hb.cell (p := ⟨g, off + k, none⟩) hg).trans (hc k hk)⟩
theorem Bools.of_row {w : World} {g n : Nat} {t : TypeId} {V : Nat → Bool} (h : w.rowIs g t n (fun k => .bool (V k))) : Bools w (some ⟨g, 0, none⟩) n V :=
  .inr ⟨g, 0, rfl, h.lt, fun k hk => by rw [Nat.zero_add]; exact h.cell hk⟩
/-- a new row of n truth values V -/
def NewB (t : TypeId) (w : World) (n : Nat) (V : Nat → Bool) (e : Ending) (w' : World) : Prop :=
  ∃ g, e = .returned (.slice (some ⟨g, 0, none⟩) n n) ∧ w.heap.size ≤ g ∧ w'.rowIs g t n (fun k => .bool (V k)) ∧ Below w.heap.size w w'
theorem infoBl : (Try.prog.info? 4).map (fun i => (i.zero, i.size, i.bytes)) = some (some (.bool false), 1, 1) := by kernel_rfl
/-- a literal that is true by the truth values V -/
def isC (x : Int) (N : Nat) (V : Nat → Bool) : Bool := ofC x N && (V (vrC x - 1).toNat == decide (0 < x))
theorem isC_no {x : Int} {N : Nat} {V : Nat → Bool} (h : ofC x N = false) : isC x N V = false := by unfold isC; rw [h]; rfl
theorem isC_pos {N k : Nat} {V : Nat → Bool} (h : k < N) : isC ((k : Int) + 1) N V = V k := by
  have h1 : ofC ((k : Int) + 1) N = true := ofC_iff.2 ⟨by omega, by omega, by omega⟩
  have h2 : vrC ((k : Int) + 1) = k + 1 := if_neg (by omega)
  unfold isC
  rw [h1, h2, show ((k : Int) + 1 - 1).toNat = k by omega, decide_eq_true (by omega)]
  simp
theorem isC_neg {N k : Nat} {V : Nat → Bool} (h : k < N) : isC (-((k : Int) + 1)) N V = !V k := by
  have h1 : ofC (-((k : Int) + 1)) N = true := ofC_iff.2 ⟨by omega, by omega, by omega⟩
  have h2 : vrC (-((k : Int) + 1)) = k + 1 := by unfold vrC; rw [if_pos (by omega)]; omega
  unfold isC
  rw [h1, h2, show ((k : Int) + 1 - 1).toNat = k by omega, decide_eq_false (by omega)]
  simp
theorem ofC_cases {x : Int} {N : Nat} (h : ofC x N = true) : ∃ k, k < N ∧ (x = (k : Int) + 1 ∨ x = -((k : Int) + 1)) := by
  obtain ⟨h0, h1, h2⟩ := ofC_iff.1 h
  by_cases hx : 0 < x
  · exact ⟨(x - 1).toNat, by omega, .inl (by omega)⟩
  · exact ⟨(-x - 1).toNat, by omega, .inr (by omega)⟩
set_option maxHeartbeats 2000000 in
theorem is_any (x : Int) (B : Option Addr) (N c : Nat) (V : Nat → Bool) (w : World) (hN : N ≤ 9223372036854775807) (hB : Bools w B N V) :
    Calls Try.prog 36 #[.int .i64 x, .slice B N c] w fun e w' => e = .returned (.bool (isC x N V)) ∧ w = w' := by
  have hO := fun W => of_lit x N W ⟨by omega, by omega⟩
  cases ho : ofC x N
  · rw [ho] at hO
    rw [isC_no ho]
    clear ho
    go_enter Try.func36, Try.ntmps36
    go_wp2_with (go_at_call 44; refine (hO _).mono ?_; rintro e w1 ⟨rfl, rfl⟩)
    go_ret
    exact ⟨rfl, rfl⟩
  · rw [ho] at hO
    obtain ⟨k, hk, hx⟩ := ofC_cases ho
    clear ho
    rcases hB with h0 | ⟨g, off, rfl, hg, hc⟩
    · omega
    have c1 := hc k hk
    clear hc
    rcases hx with rfl | rfl
    · have hV := fun W => variable_any ((k : Int) + 1) W ⟨by omega, by omega⟩
      have hv : vrC ((k : Int) + 1) = k + 1 := if_neg (by omega)
      rw [hv] at hV
      rw [isC_pos hk]
      have d1 : decide (0 < (k : Int) + 1) = true := decide_eq_true (by omega)
      have d2 : (V k == true) = V k := by simp
      clear hv
      go_enter Try.func36, Try.ntmps36
      go_wp2_with (first | (go_at_call 44; refine (hO _).mono ?_; rintro e w1 ⟨rfl, rfl⟩) | (go_at_call 52; refine (hV _).mono ?_; rintro e w1 ⟨rfl, rfl⟩))
      go_ret
      exact ⟨rfl, rfl⟩
    · have hV := fun W => variable_any (-((k : Int) + 1)) W ⟨by omega, by omega⟩
      have hv : vrC (-((k : Int) + 1)) = k + 1 := by unfold vrC; rw [if_pos (by omega)]; omega
      rw [hv] at hV
      rw [isC_neg hk]
      have d2 : (V k == false) = !V k := by simp
      have HD := hid (show decide ((k : Int) + 1 < 0) = false from decide_eq_false (by omega))
      clear hv
      go_enter Try.func36, Try.ntmps36
      go_wp2_with (first | (go_at_call 44; refine (hO _).mono ?_; rintro e w1 ⟨rfl, rfl⟩) | (go_at_call 52; refine (hV _).mono ?_; rintro e w1 ⟨rfl, rfl⟩))
      go_ret
      exact ⟨ret_bool (by rw [HD.out]; simp), rfl⟩
set_option maxHeartbeats 2000000 in
theorem sis_any (x : Int) (B : Option Addr) (N c : Nat) (V : Nat → Bool) (w : World) (hN : N ≤ 9223372036854775807) (hB : Bools w B N V) :
    Calls Try.prog 55 #[.int .i64 x, .slice B N c] w fun e w' => e = .returned (.bool (isC x N V)) ∧ w = w' := by
  by_cases h0 : x = 0
  · rw [isC_no (ofC_no (fun h => h.1 h0))]
    have d1 : (x == 0) = true := by simpa using h0
    clear h0
    go_enter Try.func55, Try.ntmps55
    go_wp2
    go_ret
    exact ⟨rfl, rfl⟩
  · have d1 : (x == 0) = false := by simpa using h0
    by_cases h1 : (N : Int) < x
    · rw [isC_no (ofC_no (fun h => by have := h.2.2; omega))]
      have d2 : decide ((N : Int) < x) = true := by simpa using h1
      clear h0 h1
      go_enter Try.func55, Try.ntmps55
      go_wp2
      go_ret
      exact ⟨rfl, rfl⟩
    · have d2 : decide ((N : Int) < x) = false := by simpa using h1
      by_cases h2 : x < -(N : Int)
      · rw [isC_no (ofC_no (fun h => by have := h.2.1; omega))]
        have d3 : decide (x < -(N : Int)) = true := by simpa using h2
        clear h0 h1 h2
        go_enter Try.func55, Try.ntmps55
        go_wp2
        go_ret
        exact ⟨rfl, rfl⟩
      · have d3 : decide (x < -(N : Int)) = false := by simpa using h2
        obtain ⟨k, hk, hx⟩ := ofC_cases (x := x) (N := N) (ofC_iff.2 ⟨h0, by omega, by omega⟩)
        rcases hB with h0 | ⟨g, off, rfl, hg, hc⟩
        · omega
        have c1 := hc k hk
        clear hc h0 h1 h2
        rcases hx with rfl | rfl
        · rw [isC_pos hk]
          have d4 : decide ((k : Int) + 1 < 0) = false := decide_eq_false (by omega)
          go_enter Try.func55, Try.ntmps55
          go_wp2
          go_ret
          exact ⟨rfl, rfl⟩
        · rw [isC_neg hk]
          have d4 : decide (-((k : Int) + 1) < 0) = true := decide_eq_true (by omega)
          have e1 : (-1 : Int) - -((k : Int) + 1) = k := by omega
          go_enter Try.func55, Try.ntmps55
          go_wp2
          go_ret
          exact ⟨rfl, rfl⟩
end Go.Proofs.Ytoechhdahokoiaa
