/- Contracts of the model's l7Less and l7Right. -/
import Derived.Test.YtmeglflbjedndaaMoH
namespace Go.Proofs.Ytmeglflbjedndaa
set_option linter.unusedVariables false
set_option linter.unusedSimpArgs false
open Go.RowKit
theorem sless_v {a b c d : Int} {v : Bool} (h : lessB a b c d = v) (w : World) :
    Calls Try.prog 194 #[.agg #[.int .i64 a, .int .i64 b], .agg #[.int .i64 c, .int .i64 d]] w fun e w' => e = .returned (.bool v) ∧ Below w.heap.size w w' := by
  subst h; exact sless_any a b c d w
set_option maxRecDepth 100000 in
set_option maxHeartbeats 4000000 in
theorem l7less_any (b : Bool) (nm nm2 : ByteArray) (A B : Option Addr) (n m c d : Nat) (P Q P' Q' : Nat → Int) (u v u2 v2 : Int) (hb : b = true ↔ RLess nm nm2 n P Q m P' Q') (w : World) (hn : n ≤ 9223372036854775806) (hm : m ≤ 9223372036854775806) (hA : Rats w A n P Q) (hB : Rats w B m P' Q') :
    Calls Try.prog 151 #[.agg #[.string nm, .slice A n c, .int .i64 u, .int .i64 v], .agg #[.string nm2, .slice B m d, .int .i64 u2, .int .i64 v2]] w fun e w' => e = .returned (.bool b) ∧ Below w.heap.size w w' := by
  have HB := hid hb; clear hb
  have H : KcL [(w.heap.size, 0, .string nm), (w.heap.size, 1, .slice A n c), (w.heap.size + 1, 0, .string nm2), (w.heap.size + 1, 1, .slice B m d)] ((w.alloc (.cells #[.string nm, .slice A n c, .int .i64 u, .int .i64 v] 122)).alloc (.cells #[.string nm2, .slice B m d, .int .i64 u2, .int .i64 v2] 122)) := by
    refine ⟨?_, ?_, ?_, ?_, trivial⟩ <;> simp [go_sem]
  have q0 := bal (bal (Below.refl w.heap.size w) (.cells #[.string nm, .slice A n c, .int .i64 u, .int .i64 v] 122)) (.cells #[.string nm2, .slice B m d, .int .i64 u2, .int .i64 v2] 122)
  have hA2 := hA.below q0
  have hB2 := hB.below q0
  clear hA hB
  by_cases h1 : nm.toList = nm2.toList
  rotate_left
  · have d1 : (nm.toList != nm2.toList) = true := by simpa using h1
    have d0 : (nm.toList == nm2.toList) = false := by simpa using h1
    have HF := hid (show Op.bytesLess nm.toList nm2.toList = b by
      cases e : Op.bytesLess nm.toList nm2.toList
      · exact (b_no HB.out (fun h => by
          rcases h with h | h
          · rw [h] at e; cases e
          · exact h1 h.1)).symm
      · exact (b_yes HB.out (.inl e)).symm)
    clear h1 H hA2 hB2
    go_enter Try.func151, Try.ntmps151
    go_wp2
    go_ret
    exact ⟨ret_bool HF.out, q0⟩
  have d1 : (nm.toList != nm2.toList) = false := by simpa using h1
  have d0 : (nm.toList == nm2.toList) = true := by simpa using h1
  have H1 := hid h1; clear h1
  by_cases h2 : n = m
  rotate_left
  · have d2 : ((n : Int) != (m : Int)) = true := by simp; omega
    have d2' : (n != m) = true := by simpa using h2
    have HF := hid (show decide (n < m) = b by
      by_cases e : n < m
      · rw [b_yes HB.out (.inr ⟨H1.out, .inl e⟩)]; simpa using e
      · rw [b_no HB.out (fun h => by
          rcases h with h | ⟨_, h | ⟨h, _⟩⟩
          · rw [H1.out, bl_irr] at h; cases h
          · exact e h
          · exact h2 h)]
        simpa using e)
    clear h2 H hA2 hB2
    go_enter Try.func151, Try.ntmps151
    go_wp2
    go_ret
    exact ⟨ret_bool HF.out, q0⟩
  subst h2
  have d2 : ((n : Int) != (n : Int)) = false := by simp
  go_enter Try.func151, Try.ntmps151
  go_wp2
  generalize (w.alloc (.cells #[.string nm, .slice A n c, .int .i64 u, .int .i64 v] 122)).alloc (.cells #[.string nm2, .slice B n d, .int .i64 u2, .int .i64 v2] 122) = W0 at *
  go_loopw [5] (fun i wr => ∃ k : Nat, k ≤ n ∧ i = .int .i64 k ∧ Below W0.heap.size W0 wr ∧ ∀ j, j < k → P j = P' j ∧ Q j = Q' j) (fun i _ => n - (intOf i).toNat)
  case atStart => exact ⟨0, Nat.zero_le _, rfl, Below.refl _ _, fun j hj => by omega⟩
  case round =>
    obtain ⟨k, hk, rfl, hb, he⟩ := hrel
    have HE := hid he; clear he
    have H2 := H.below hb
    have HH_ := H2; obtain ⟨c0, c1, c2, c3, _⟩ := HH_
    have l0 := cell_lt c0
    have l1 := cell_lt c2
    by_cases hlt : k < n
    · rcases hA2 with h0 | ⟨g, off, rfl, hg, hcA⟩
      · omega
      rcases hB2 with h0 | ⟨g2, off2, rfl, hg2, hcB⟩
      · omega
      have a0 := carry hb (hcA k hlt).1
      have a1 := carry hb (hcA k hlt).2
      have e0 := carry hb (hcB k hlt).1
      have e1 := carry hb (hcB k hlt).2
      have gg : g < wr.heap.size := Nat.lt_of_lt_of_le hg hb.size
      have gg2 : g2 < wr.heap.size := Nat.lt_of_lt_of_le hg2 hb.size
      clear hcA hcB
      have gc := @gro_cell wr
      by_cases heq : P k = P' k ∧ Q k = Q' k
      · have z1 := eqrat_yes heq
        have HQ := hid heq; clear heq
        go_upto_region 8 with fail
        refine wp_region_grow_lit (by kernel_rfl) (by kernel_rfl) ?_
        repeat (go_big_quiet_step (fail))
        refine wpQuiet_nil ?_
        rintro _ ⟨X, rfl⟩
        clear gc
        go_wp2
        go_roundw
        case rel =>
          refine ⟨k + 1, by omega, by go_num, btr hb X.h, fun j hj => ?_⟩
          by_cases e : j = k
          · subst e; exact HQ.out
          · exact HE.out j (by omega)
        case measure => simp [intOf]; omega
      · have z1 := eqrat_no heq
        have HF := hid (show lessB (P k) (Q k) (P' k) (Q' k) = b by
          cases e : lessB (P k) (Q k) (P' k) (Q' k)
          · refine (b_no HB.out (fun h => ?_)).symm
            rcases h with h | ⟨_, h | ⟨_, k', hk', hbe, hl⟩⟩
            · rw [H1.out, bl_irr] at h; cases h
            · omega
            · rcases Nat.lt_trichotomy k k' with x | x | x
              · exact heq (hbe k x)
              · subst x; rw [hl] at e; cases e
              · have := HE.out k' x
                rw [this.1, this.2, less_irr] at hl; cases hl
          · exact (b_yes HB.out (.inr ⟨H1.out, .inr ⟨rfl, k, hlt, HE.out, e⟩⟩)).symm)
        clear heq
        go_upto_region 8 with fail
        refine wp_region_grow_lit (by kernel_rfl) (by kernel_rfl) ?_
        repeat (go_big_quiet_step (fail))
        refine wpQuiet_nil ?_
        rintro _ ⟨X, rfl⟩
        clear gc z1
        have hX : Below wr.heap.size wr (gro wr X) := X.h
        replace c0 := carry hX c0
        replace c1 := carry hX c1
        replace c2 := carry hX c2
        replace c3 := carry hX c3
        replace a0 := carry hX a0
        replace a1 := carry hX a1
        replace e0 := carry hX e0
        replace e1 := carry hX e1
        have hbx := btr hb hX
        have hsz := hX.size
        have l0' := cell_lt c0
        have l1' := cell_lt c2
        have gg' : g < (gro wr X).heap.size := Nat.lt_of_lt_of_le gg hsz
        have gg2' : g2 < (gro wr X).heap.size := Nat.lt_of_lt_of_le gg2 hsz
        generalize gro wr X = W1 at *
        have hL := fun Y : Gro W1 => sless_v HF.out (gro W1 Y)
        have gc := @gro_cell W1
        clear l0 l1 gg gg2
        go_upto_region 9 with fail
        refine wp_region_grow_lit (by kernel_rfl) (by kernel_rfl) ?_
        repeat (go_big_quiet_step ((go_at_call 194; exact grow_call _ (hL _))))
        refine wpQuiet_nil ?_
        rintro _ ⟨Y, rfl⟩
        clear gc
        go_wp2
        go_ret
        exact ⟨rfl, btr q0 (btr hbx Y.h)⟩
    · have hke : k = n := by omega
      subst hke
      have HF := hid (b_no HB.out (fun h => by
        rcases h with h | ⟨_, h | ⟨_, k', hk', hbe, hl⟩⟩
        · rw [H1.out, bl_irr] at h; cases h
        · omega
        · have := HE.out k' hk'
          rw [this.1, this.2, less_irr] at hl; cases hl))
      go_wp2
      go_ret
      exact ⟨ret_bool HF.out.symm, btr q0 hb⟩
theorem l7less_at {nm nm2 : ByteArray} {A B : Option Addr} {n m c d : Nat} {P Q P' Q' : Nat → Int} {u v u2 v2 : Int} {b : Bool} (hb : b = true ↔ RLess nm nm2 n P Q m P' Q') {w : World} (hn : n ≤ 1048576) (hm : m ≤ 1048576) (hA : Rats w A n P Q) (hB : Rats w B m P' Q') (W : World) (h : Below w.heap.size w W) :
    Calls Try.prog 151 #[.agg #[.string nm, .slice A n c, .int .i64 u, .int .i64 v], .agg #[.string nm2, .slice B m d, .int .i64 u2, .int .i64 v2]] W fun e w' => e = .returned (.bool b) ∧ Below W.heap.size W w' :=
  l7less_any b nm nm2 A B n m c d P Q P' Q' u v u2 v2 hb W (by omega) (by omega) (hA.below h) (hB.below h)
set_option maxRecDepth 100000 in
set_option maxHeartbeats 8000000 in
theorem l7right_any (b : Bool) (A : Option Addr) (m c : Nat) (M : Mo) (hb : b = true ↔ WellM m M) (w : World) (hm : m ≤ 1048576) (hA : MRows w A m M) (hN : SmM m M) :
    Calls Try.prog 83 #[.agg #[.slice A m c]] w fun e w' => e = .returned (.bool b) ∧ Below w.heap.size w w' := by
  have HB := hid hb; have HN := hid hN; clear hb hN
  have q0 := bal (Below.refl w.heap.size w) (.cells #[.slice A m c] 29)
  have b0 : (w.alloc (.cells #[.slice A m c] 29)).cell? ⟨w.heap.size, 0, none⟩ = some (.slice A m c) := by simp [go_sem]
  have hA2 := hA.below q0
  clear hA
  go_enter Try.func83, Try.ntmps83
  go_wp2
  generalize w.alloc (.cells #[.slice A m c] 29) = W0 at *
  go_loopw [3] (fun i wr => ∃ k : Nat, k ≤ m ∧ i = .int .i64 k ∧ Below W0.heap.size W0 wr ∧ RowsP k M) (fun i _ => m - (intOf i).toNat)
  case atStart => exact ⟨0, Nat.zero_le _, rfl, Below.refl _ _, ⟨fun k h => absurd h (Nat.not_lt_zero _), fun k h => absurd h (Nat.not_lt_zero _)⟩⟩
  case round =>
    obtain ⟨k, hk, rfl, hb, he⟩ := hrel
    have HE := hid he; clear he
    have g0 := carry hb b0
    have l0 := cell_lt g0
    by_cases hlt : k < m
    · rcases hA2 with h0 | ⟨g, off, rfl, hg, hcA⟩
      · omega
      obtain ⟨a, ca, a0, a1, a2, a3, hMk, hNk, hI⟩ := hcA k hlt
      have hp := fun (j : Nat) (h : j < m) => hcA j h
      have HP := hid hp; clear hp hcA
      have gg : g < wr.heap.size := Nat.lt_of_lt_of_le hg hb.size
      replace a0 := carry hb a0
      replace a1 := carry hb a1
      replace a2 := carry hb a2
      replace a3 := carry hb a3
      replace hI := hI.below hb
      have gc := @gro_cell wr
      cases hv : rowB (M.Nm k) (M.N k) (M.P k) (M.Q k) (M.U k) (M.V k)
      · have hO := fun X : Gro wr => srow_at (c := ca) hMk hNk hI hv (gro wr X) X.h
        have HF := hid (b_no HB.out (fun h => by have := h.2.1 k hlt; rw [hv] at this; cases this))
        clear hv
        go_upto_region 4 with fail
        refine wp_region_grow_lit (by kernel_rfl) (by kernel_rfl) ?_
        repeat (go_big_quiet_step ((go_at_call 150; exact grow_call _ (hO _))))
        refine wpQuiet_nil ?_
        rintro _ ⟨X, rfl⟩
        clear gc
        go_wp2
        go_ret
        exact ⟨ret_bool HF.out.symm, btr q0 (btr hb X.h)⟩
      · have hO := fun X : Gro wr => srow_at (c := ca) hMk hNk hI hv (gro wr X) X.h
        have HV := hid hv; clear hv
        by_cases hk0 : k = 0
        · subst hk0
          simp only [Nat.zero_mul, Nat.add_zero] at a0 a1 a2 a3
          go_upto_region 4 with fail
          refine wp_region_grow_lit (by kernel_rfl) (by kernel_rfl) ?_
          repeat (go_big_quiet_step ((go_at_call 150; exact grow_call _ (hO _))))
          refine wpQuiet_nil ?_
          rintro _ ⟨X, rfl⟩
          clear gc
          go_wp2
          go_roundw
          case rel =>
            refine ⟨1, by omega, by go_num, btr hb X.h, ⟨fun j hj => ?_, fun j hj => by omega⟩⟩
            have e : j = 0 := by omega
            subst e; exact HV.out
          case measure => simp [intOf]; omega
        · obtain ⟨p, rfl⟩ : ∃ p, k = p + 1 := ⟨k - 1, by omega⟩
          obtain ⟨a', ca', p0, p1, p2, p3, hMp, hNp, hJ⟩ := HP.out p (by omega)
          replace p0 := carry hb p0
          replace p1 := carry hb p1
          replace p2 := carry hb p2
          replace p3 := carry hb p3
          replace hJ := hJ.below hb
          have dk : decide ((0 : Int) < ((p + 1 : Nat) : Int)) = true := by simp
          have hsub : (((p + 1 : Nat) : Int)) - 1 = (p : Int) := by omega
          obtain ⟨x, hx⟩ := bool_of (RLess (M.Nm p) (M.Nm (p + 1)) (M.N p) (M.P p) (M.Q p) (M.N (p + 1)) (M.P (p + 1)) (M.Q (p + 1)))
          have hC := fun X : Gro wr => l7less_at (c := ca') (d := ca) (u := M.U p) (v := M.V p) (u2 := M.U (p + 1)) (v2 := M.V (p + 1)) hx (HN.out p (by omega)).1 (HN.out (p + 1) (by omega)).1 hJ hI (gro wr X) X.h
          have HX := hid hx; clear hx
          cases x
          · have HF := hid (b_no HB.out (fun h => by have := HX.out.2 (h.2.2 p hlt); cases this))
            go_upto_region 4 with fail
            refine wp_region_grow_lit (by kernel_rfl) (by kernel_rfl) ?_
            repeat (go_big_quiet_step (first | (go_at_call 150; exact grow_call _ (hO _)) | (go_at_call 151; exact grow_call _ (hC _))))
            refine wpQuiet_nil ?_
            rintro _ ⟨X, rfl⟩
            clear gc
            go_wp2
            go_ret
            exact ⟨ret_bool HF.out.symm, btr q0 (btr hb X.h)⟩
          · go_upto_region 4 with fail
            refine wp_region_grow_lit (by kernel_rfl) (by kernel_rfl) ?_
            repeat (go_big_quiet_step (first | (go_at_call 150; exact grow_call _ (hO _)) | (go_at_call 151; exact grow_call _ (hC _))))
            refine wpQuiet_nil ?_
            rintro _ ⟨X, rfl⟩
            clear gc
            go_wp2
            go_roundw
            case rel =>
              refine ⟨p + 1 + 1, by omega, by go_num, btr hb X.h, ⟨fun j hj => ?_, fun j hj => ?_⟩⟩
              · by_cases e : j = p + 1
                · subst e; exact HV.out
                · exact HE.out.1 j (by omega)
              · by_cases e : j = p
                · subst e; exact HX.out.1 (by trivial)
                · exact HE.out.2 j (by omega)
            case measure => simp [intOf]; omega
    · have hke : k = m := by omega
      subst hke
      have HF := hid (show decide ((k : Int) ≤ 40) = b by
        by_cases e : k ≤ 40
        · rw [b_yes HB.out ⟨e, HE.out⟩]; simp; omega
        · rw [b_no HB.out (fun h => e h.1)]; simp; omega)
      go_wp2
      go_ret
      exact ⟨ret_bool HF.out, btr q0 hb⟩
end Go.Proofs.Ytmeglflbjedndaa
