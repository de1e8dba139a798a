/- The sort of a term: mathematics, contract of the model's l4Of. -/
import Derived.Test.YtmeglflbjedndaaFindB
import Derived.Test.YtmeglflbjedndaaTermD
namespace Go.Proofs.Ytmeglflbjedndaa
set_option linter.unusedVariables false
set_option linter.unusedSimpArgs false
open Go.RowKit
/-- the sort of a term, or -1 -/
def sortT (n : Nat) (L : Sy) : Tm → Int
  | .mk nm m kid => if fnd L.Nm nm n < n ∧ L.N (fnd L.Nm nm n) = m ∧ ∀ i, i < m → sortT n L (kid i) = L.Z (fnd L.Nm nm n) i then L.S (fnd L.Nm nm n) else -1
  | .bad => -1
theorem sortT_yes {n m k : Nat} {L : Sy} {nm : ByteArray} {kid : Nat → Tm} (h1 : fnd L.Nm nm n = k) (h2 : k < n) (h3 : L.N k = m) (h4 : ∀ i, i < m → sortT n L (kid i) = L.Z k i) : sortT n L (.mk nm m kid) = L.S k := by
  rw [sortT, h1, if_pos ⟨h2, h3, h4⟩]
theorem sortT_no {n m k : Nat} {L : Sy} {nm : ByteArray} {kid : Nat → Tm} (h1 : fnd L.Nm nm n = k) (h : ¬ (k < n ∧ L.N k = m ∧ ∀ i, i < m → sortT n L (kid i) = L.Z k i)) : sortT n L (.mk nm m kid) = -1 := by
  rw [sortT, h1, if_neg h]
/-- FndP in one shape -/
theorem FndP.uni {n : Nat} {L : Sy} {x : ByteArray} {w0 w w' : World} {e : Ending} (h : FndP w0 n L x w e w') :
    ∃ nm a N c S ok, e = .returned (.tuple #[.agg #[.string nm, .slice a N c, .int .i64 S], .bool ok]) ∧ Below w.heap.size w w' ∧ N ≤ 9223372036854775807 ∧
      (ok = true → fnd L.Nm x n < n ∧ N = L.N (fnd L.Nm x n) ∧ S = L.S (fnd L.Nm x n) ∧ Ints w0 a N (L.Z (fnd L.Nm x n))) ∧ (ok = false → fnd L.Nm x n = n) := by
  obtain ⟨hb, ⟨k, h1, h2, a, c, e, hN, hI⟩ | ⟨h1, e⟩⟩ := h
  · exact ⟨_, a, _, c, _, true, e, hb, hN, fun _ => by rw [h1]; exact ⟨h2, rfl, rfl, hI⟩, fun h => by cases h⟩
  · exact ⟨_, none, 0, 0, _, false, e, hb, by omega, (fun h => by cases h), fun _ => h1⟩
set_option maxRecDepth 100000 in
set_option maxHeartbeats 4000000 in
theorem of_any (n : Nat) (L : Sy) (hn : n ≤ 1048576) : ∀ (t : Tm), Fits 1048576 t → ∀ (A B : Option Addr) (c d : Nat) (w : World), Syms w A n L → Kids 0 w t B →
    Calls Try.prog 99 #[.agg #[.slice A n c], .agg #[.string t.nm, .slice B t.n d]] w fun e w' => e = .returned (.int .i64 (sortT n L t)) ∧ Below w.heap.size w w' := by
  intro t
  induction t with
  | bad => intro h; exact False.elim h
  | mk nm m kid ih =>
    rintro ⟨hm, hmn, hf⟩ A B c d w hA hB
    show Calls _ _ #[.agg #[.slice A n c], .agg #[.string nm, .slice B m d]] w _
    have HI := hid (fun k hk A B c d W h1 h2 => ih k (hf k hk) A B c d W h1 h2)
    clear ih hf
    generalize hr : sortT n L (.mk nm m kid) = res
    have HR := hid hr; clear hr
    have q0 := bal (bal (Below.refl w.heap.size w) (.cells #[.slice A n c] 39)) (.cells #[.string nm, .slice B m d] 53)
    have b0 : ((w.alloc (.cells #[.slice A n c] 39)).alloc (.cells #[.string nm, .slice B m d] 53)).cell? ⟨w.heap.size, 0, none⟩ = some (.slice A n c) := by simp [go_sem]
    have b1 : ((w.alloc (.cells #[.slice A n c] 39)).alloc (.cells #[.string nm, .slice B m d] 53)).cell? ⟨w.heap.size + 1, 1, none⟩ = some (.slice B m d) := by simp [go_sem]
    have hFn := fun W (hb : Below w.heap.size w W) => lfind_any A n c L nm w W hn hA hb
    go_enter Try.func99, Try.ntmps99
    go_wp2_with fail
    refine (hFn _ q0).mono ?_
    rintro e w1 hP
    obtain ⟨nm1, a, N, ca, S, ok, rfl, hq, hN, hY, hZ⟩ := hP.uni
    clear hFn hP
    replace b0 := carry hq b0
    replace b1 := carry hq b1
    have lw : w.heap.size + 1 < w1.heap.size := cell_lt b1
    have lw0 : w.heap.size < w1.heap.size := cell_lt b0
    have hq1 := btr q0 hq
    clear hq q0
    cases ok
    · have HF := hid (sortT_no (m := m) (kid := kid) (hZ rfl) (fun h => Nat.lt_irrefl _ h.1))
      clear hY hZ hA hB
      go_wp2
      go_ret
      exact ⟨ret_i64 (HF.out.symm.trans HR.out), bal hq1 _⟩
    · obtain ⟨h1, h2, h3, hJ⟩ := hY rfl
      clear hY hZ
      have b0' := carryA (.cells #[.string nm1, .slice a N ca, .int .i64 S] 105) b0
      have b1' := carryA (.cells #[.string nm1, .slice a N ca, .int .i64 S] 105) b1
      obtain ⟨n0, n1, n2⟩ := new3 w1 (.string nm1) (.slice a N ca) (.int .i64 S) 105
      have hq2 := bal hq1 (.cells #[.string nm1, .slice a N ca, .int .i64 S] 105)
      generalize hk : fnd L.Nm nm n = k at *
      have H1 := hid h1; have H2 := hid h2; have H3 := hid h3; have HK := hid hk
      clear h1 h2 h3 hk
      by_cases hNm : N = m
      · have hmN : m = N := hNm.symm
        clear hNm
        subst hmN
        have d1 : ((m : Int) != (m : Int)) = false := by simp
        go_wp2_with fail
        have hA2 := hA.below hq2
        have hB2 := hB.below hq2
        have hJ2 := hJ.below hq2
        have l1 : w1.heap.size < (w1.alloc (.cells #[.string nm1, .slice a m ca, .int .i64 S] 105)).heap.size := by simp
        generalize w1.alloc (.cells #[.string nm1, .slice a m ca, .int .i64 S] 105) = W0 at *
        clear hA hB hJ b0 b1 n0 hq1 d1
        go_loopw [7] (fun i wr => ∃ j : Nat, j ≤ m ∧ i = .int .i64 j ∧ Below W0.heap.size W0 wr ∧ ∀ i, i < j → sortT n L (kid i) = L.Z k i) (fun i _ => m - (intOf i).toNat)
        case atStart => exact ⟨0, Nat.zero_le _, rfl, Below.refl _ _, fun j hj => by omega⟩
        case round =>
          obtain ⟨j, hj, rfl, hb, he⟩ := hrel
          have HE := hid he; clear he
          have g0 := carry hb b0'
          have g1 := carry hb b1'
          have x1 := carry hb n1
          have x2 := carry hb n2
          clear b0' b1' n1 n2
          by_cases hlt : j < m
          · rcases hB2 with h0 | ⟨g, off, rfl, _, hg, hcB⟩
            · omega
            obtain ⟨a2, ca2, a0, a1, hK⟩ := hcB j hlt
            rcases hJ2 with h0 | ⟨gz, oz, rfl, hgz, hcZ⟩
            · omega
            have z0 := carry hb (hcZ j (by omega))
            have gg : g < wr.heap.size := Nat.lt_of_lt_of_le hg hb.size
            have ggz : gz < wr.heap.size := Nat.lt_of_lt_of_le hgz hb.size
            replace a0 := carry hb a0
            replace a1 := carry hb a1
            have hKr := hK.below hb
            have hAr := hA2.below hb
            clear hcB hcZ
            have lg0 := cell_lt g0
            have lg1 := cell_lt g1
            have lx1 := cell_lt x1
            have hC := fun (X : Gro wr) => HI.out j hlt A a2 c ca2 (gro wr X) (hAr.below X.h) (hKr.below X.h)
            have gc := @gro_cell wr
            clear hK hA2 hKr hAr
            go_upto_region 7 with fail
            refine wp_region_grow_lit (by kernel_rfl) (by kernel_rfl) ?_
            repeat (go_big_quiet_step ((go_at_call 99; exact grow_call _ (hC _))))
            refine wpQuiet_nil ?_
            rintro _ ⟨X, rfl⟩
            clear gc hC
            by_cases hs : sortT n L (kid j) = L.Z k j
            · have HS := hid hs
              have d2 : (sortT n L (kid j) != L.Z k j) = false := by simpa using hs
              clear hs
              go_wp2
              go_roundw
              case rel =>
                refine ⟨j + 1, by omega, by go_num, btr hb X.h, fun i hi => ?_⟩
                by_cases e : i = j
                · subst e; exact HS.out
                · exact HE.out i (by omega)
              case measure => simp [intOf]; omega
            · have HF := hid (sortT_no (m := m) (kid := kid) HK.out (fun h => hs (h.2.2 j hlt)))
              have d2 : (sortT n L (kid j) != L.Z k j) = true := by simpa using hs
              clear hs
              go_wp2
              go_ret
              exact ⟨ret_i64 (HF.out.symm.trans HR.out), btr hq2 (btr hb X.h)⟩
          · have HT := hid (sortT_yes (m := m) (kid := kid) HK.out H1.out H2.out.symm (fun i hi => HE.out i (by omega)))
            have d3 : decide ((j : Int) < (m : Int)) = false := by simp; omega
            go_wp2
            go_ret
            exact ⟨ret_i64 (H3.out.trans (HT.out.symm.trans HR.out)), btr hq2 hb⟩
      · have HF := hid (sortT_no (m := m) (kid := kid) HK.out (fun h => hNm (H2.out.trans h.2.1)))
        have d1 : ((N : Int) != (m : Int)) = true := by simp; omega
        clear hA hB hJ
        go_wp2
        go_ret
        exact ⟨ret_i64 (HF.out.symm.trans HR.out), hq2⟩
end Go.Proofs.Ytmeglflbjedndaa
