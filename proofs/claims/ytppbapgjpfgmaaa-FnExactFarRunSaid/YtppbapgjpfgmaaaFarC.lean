/- Contracts of the laws' helpers over lists of constraints: the comparison, the copy. -/
import Derived.Test.YtppbapgjpfgmaaaFarB
namespace Go.Proofs.Ytppbapgjpfgmaaa
set_option linter.unusedVariables false
set_option linter.unusedSimpArgs false
open Go.RowKit
set_option maxHeartbeats 1000000 in
theorem eqlins_same (A B : Option Addr) (n c d : Nat) (L : Lst) (w : World) (hn : n ≤ 9223372036854775807) (hA : Lins w A n L) (hB : Lins w B n L) :
    Calls Try.prog 9 #[.slice A n c, .slice B n d] w fun e w' => e = .returned (.bool true) ∧ Below w.heap.size w w' := by
  go_enter Try.func9, Try.ntmps9
  go_wp2
  go_loopw [5] (fun i wr => ∃ k : Nat, k ≤ n ∧ i = .int .i64 k ∧ Below w.heap.size w wr) (fun i _ => n - (intOf i).toNat)
  case atStart => exact ⟨0, Nat.zero_le _, rfl, Below.refl _ _⟩
  case round =>
    obtain ⟨k, hk, rfl, hb⟩ := hrel
    by_cases hlt : k < n
    · rcases hA with h0 | ⟨g, off, rfl, hg, hcA⟩
      · omega
      rcases hB with h0 | ⟨g2, off2, rfl, hg2, hcB⟩
      · omega
      obtain ⟨a, ca, a0, a1, a2, hNk, hI⟩ := hcA k hlt
      obtain ⟨b, cb, b0, b1, b2, _, hJ⟩ := hcB k hlt
      have gg : g < wr.heap.size := Nat.lt_of_lt_of_le hg hb.size
      have gg2 : g2 < wr.heap.size := Nat.lt_of_lt_of_le hg2 hb.size
      replace a0 := carry hb a0
      replace a1 := carry hb a1
      replace a2 := carry hb a2
      replace b0 := carry hb b0
      replace b1 := carry hb b1
      replace b2 := carry hb b2
      have hE := fun X : Gro wr => eqlin_same (c := ca) (d := cb) (b := L.B k) (s := L.S k) (w := gro wr X) (by omega) ((hI.below hb).below X.h) ((hJ.below hb).below X.h)
      clear hcA hcB hI hJ
      have gc := @gro_cell wr
      go_upto_region 6 with fail
      refine wp_region_grow_lit (by kernel_rfl) (by kernel_rfl) ?_
      repeat (go_big_quiet_step ((go_at_call 28; exact grow_call _ (hE _))))
      refine wpQuiet_nil ?_
      rintro _ ⟨X, rfl⟩
      clear gc
      go_wp2
      go_roundw
      case rel => exact ⟨k + 1, by omega, by go_num, btr hb X.h⟩
      case measure => simp [intOf]; omega
    · have hke : k = n := by omega
      subst hke
      go_wp2
      go_ret
      exact ⟨rfl, hb⟩
end Go.Proofs.Ytppbapgjpfgmaaa
