/- The text of a vocabulary: contract of the program's SigText. -/
import Derived.Test.YtlojneoadibigaaDoorSigU
namespace Go.Proofs.YtlojneoadibigaaDoor
set_option linter.unusedVariables false
set_option linter.unusedSimpArgs false
open Go.Shelf Go.RowKit
set_option maxRecDepth 100000 in
set_option maxHeartbeats 4000000 in
theorem sigtext_any (A : Option Addr) (n c : Nat) (L : Sy) (w : World) (hn : n ≤ 1048576) (hA : Syms w A n L) :
    Calls Tryd.prog 18 #[.agg #[.slice A n c]] w fun e w' => e = .returned (.string ⟨(sigT n L).toArray⟩) ∧ Below w.heap.size w w' := by
  have hO := fun W (hb : Below w.heap.size w W) => sigok_any A n c L W (by omega) (hA.below hb)
  have q0 := bal (Below.refl w.heap.size w) (.cells #[.slice A n c] 41)
  have b0 : (w.alloc (.cells #[.slice A n c] 41)).cell? ⟨w.heap.size, 0, none⟩ = some (.slice A n c) := by simp [go_sem]
  cases hs : sigB n L
  · rw [hs] at hO
    have e : sigT n L = [] := by unfold sigT; rw [hs]; rfl
    rw [e]
    clear hs e hA
    go_enter Tryd.func18, Tryd.ntmps18
    go_wp2_with fail
    refine (hO _ q0).mono ?_
    rintro e w1 ⟨rfl, hq⟩
    clear hO
    go_wp2
    go_ret
    exact ⟨rfl, btr q0 hq⟩
  · rw [hs] at hO
    obtain ⟨h7, hsy, _⟩ := sigB_iff.1 hs
    have e : sigT n L = sigL L n := by unfold sigT; rw [hs]; rfl
    rw [e]
    have HS := hid hsy
    clear hs e hsy
    go_enter Tryd.func18, Tryd.ntmps18
    go_wp2_with fail
    refine (hO _ q0).mono ?_
    rintro e w1 ⟨rfl, hq⟩
    clear hO
    have hW1 := btr q0 hq
    have c0 := carryA (.cells #[.pointer none, .slice none 0 0] 61) (carry hq b0)
    have hB := bld_new w1
    have hW2 := bal (Below.refl w1.heap.size w1) (.cells #[.pointer none, .slice none 0 0] 61)
    have HB := hid hB; clear hB b0 hq
    go_wp2_with fail
    clear c0
    go_loopw [12] (fun i wr => ∃ k : Nat, k ≤ n ∧ i = .int .i64 k ∧ ISB w1.heap.size w1.heap.size (sigL L k) wr ∧ Below w1.heap.size w1 wr) (fun i _ => n - (intOf i).toNat)
    case atStart => exact ⟨0, Nat.zero_le _, rfl, .inl HB.out, hW2⟩
    case round =>
      clear HB hW2
      obtain ⟨k, hk, rfl, hI, hW⟩ := hrel
      have HI := hid hI
      have hbk := isb_lt hI
      have hlen := sigL_len (L := L) (k := k) (fun j hj => HS.out j (by omega))
      clear hI
      by_cases hlt : k < n
      · rcases hA with h0 | ⟨g, off, rfl, hg, hcA⟩
        · omega
        obtain ⟨a, ca, a0, a1, a2, _, hNk, hJ⟩ := hcA k hlt
        have hwr := hW1.trans (hW.mono hW1.size)
        have gg : g < wr.heap.size := Nat.lt_of_lt_of_le hg hwr.size
        replace a0 := carry hwr a0
        replace a1 := carry hwr a1
        replace a2 := carry hwr a2
        have hJ1 := hJ.below hW1
        clear hcA hJ hwr
        have al := bal (Below.refl wr.heap.size wr) (.cells #[.string (L.Nm k), .slice a (L.N k) ca, .int .i64 (L.S k)] 73)
        have hC := wsym_any w1 w1.heap.size (L.Nm k) a (L.N k) ca (L.Z k) (L.S k) (sigL L k) (wr.alloc (.cells #[.string (L.Nm k), .slice a (L.N k) ca, .int .i64 (L.S k)] 73)) (HS.out k hlt) hJ1 (bal hW _) (isb_below HI.out al) (by omega)
        clear hJ1 al
        go_wp2_with fail
        refine hC.mono ?_
        rintro e w3 ⟨rfl, hB3, hb3, _⟩
        have HB := hid hB3; clear hB3 hC
        go_wp2
        go_roundw
        case rel => exact ⟨k + 1, by omega, by go_num, .inr HB.out, hb3⟩
        case measure => simp [intOf]; omega
      · have hke : k = n := by omega
        subst hke
        have d0 : decide ((k : Int) < (k : Int)) = false := by simp
        go_wp2_with fail
        refine (Tryd.Builder_String_any w1.heap.size w1.heap.size (sigL L k) wr HI.out hW.size).mono ?_
        rintro e w4 ⟨rfl, hb4⟩
        go_wp2
        go_ret
        exact ⟨rfl, hW1.trans ((hW.trans hb4).mono hW1.size)⟩
end Go.Proofs.YtlojneoadibigaaDoor
