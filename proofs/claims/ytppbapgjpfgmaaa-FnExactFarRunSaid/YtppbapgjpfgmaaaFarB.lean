/- Contracts of the laws' helpers over lists of constraints: the size, the comparison. -/
import Derived.Test.YtppbapgjpfgmaaaFarA
import Derived.Test.YtppbapgjpfgmaaaLinO
namespace Go.Proofs.Ytppbapgjpfgmaaa
set_option linter.unusedVariables false
set_option linter.unusedSimpArgs false
open Go.RowKit
/-- what the size of a list answers: too great, or all rows are at most so long -/
def SzP (w : World) (n : Nat) (L : Lst) (l : Int) (e : Ending) (w' : World) : Prop :=
  ∃ r : Int, e = .returned (.int .i64 r) ∧ (r < 0 ∨ (0 ≤ r ∧ r ≤ l ∧ (n : Int) ≤ l ∧ ∀ k, k < n → (L.N k : Int) ≤ l)) ∧ Below w.heap.size w w'
set_option maxRecDepth 100000 in
set_option maxHeartbeats 1000000 in
theorem szlins_any (A : Option Addr) (n c : Nat) (L : Lst) (l : Int) (w : World) (hn : n ≤ 9223372036854775807) (hl : 0 ≤ l ∧ l ≤ 1048576) (hA : Lins w A n L) :
    Calls Try.prog 5 #[.slice A n c, .int .i64 l] w (SzP w n L l) := by
  obtain ⟨l1, l2⟩ := hl
  by_cases h : l < n
  · go_enter Try.func5, Try.ntmps5
    go_wp2
    go_ret
    exact ⟨-1, rfl, .inl (by omega), Below.refl _ _⟩
  · have hsub : 0 ≤ l - (n : Int) := by omega
    have H := hid h; clear h
    go_enter Try.func5, Try.ntmps5
    go_wp2
    go_loopw [1, 5] (fun q i wr => ∃ (k : Nat) (r : Int), k ≤ n ∧ i = .int .i64 k ∧ q = .int .i64 r ∧ 0 ≤ r ∧ r ≤ l ∧ Below w.heap.size w wr ∧ ∀ j, j < k → (L.N j : Int) ≤ l) (fun _ i _ => n - (intOf i).toNat)
    case atStart => exact ⟨0, l - n, Nat.zero_le _, rfl, rfl, by omega, by omega, Below.refl _ _, fun j hj => by omega⟩
    case round =>
      obtain ⟨k, r, hk, rfl, rfl, r1, r2, hb, hN⟩ := hrel
      have HN := hid hN; clear hN
      by_cases hlt : k < n
      · rcases hA with h0 | ⟨g, off, rfl, hg, hcA⟩
        · omega
        obtain ⟨a, cc, a0, a1, a2, hNk, hI⟩ := hcA k hlt
        have gg : g < wr.heap.size := Nat.lt_of_lt_of_le hg hb.size
        replace a0 := carry hb a0
        replace a1 := carry hb a1
        replace a2 := carry hb a2
        clear hcA hI
        have hS := fun W => szlin_any a (L.N k) cc (L.B k) r (L.S k) W (by omega) ⟨r1, by omega⟩
        by_cases hb2 : r < (L.N k : Int)
        · rw [if_pos hb2] at hS
          clear hb2
          go_wp2_with (go_at_call 20; refine (hS _).mono ?_; rintro e w1 ⟨rfl, hq⟩)
          go_ret
          exact ⟨-1, rfl, .inl (by omega), btr hb hq⟩
        · rw [if_neg hb2] at hS
          have h3 : 0 ≤ r - (L.N k : Int) := by omega
          have H2 := hid hb2; clear hb2
          go_wp2_with (go_at_call 20; refine (hS _).mono ?_; rintro e w1 ⟨rfl, hq⟩)
          go_roundw
          case rel =>
            refine ⟨k + 1, r - L.N k, by omega, by go_num, rfl, h3, by omega, btr hb hq, fun j hj => ?_⟩
            by_cases e : j = k
            · subst e; have := H2.out; omega
            · exact HN.out j (by omega)
          case measure => simp [intOf]; omega
      · have hke : k = n := by omega
        subst hke
        go_wp2
        go_ret
        exact ⟨r, rfl, .inr ⟨r1, r2, by have := H.out; omega, HN.out⟩, hb⟩
end Go.Proofs.Ytppbapgjpfgmaaa
