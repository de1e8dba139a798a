/- The order of rows; a model whose rows are right: contract of the program's wellFormed. -/
import Derived.Test.YtmeglflbjedndaaMoG
import Derived.Test.YtmeglflbjedndaaBoo
namespace Go.Proofs.Ytmeglflbjedndaa
set_option linter.unusedVariables false
set_option linter.unusedSimpArgs false
open Go.RowKit
/-- a row comes ahead of another one -/
def RLess (nm nm2 : ByteArray) (n : Nat) (P Q : Nat → Int) (m : Nat) (P' Q' : Nat → Int) : Prop :=
  Op.bytesLess nm.toList nm2.toList = true ∨ (nm.toList = nm2.toList ∧ (n < m ∨ (n = m ∧ ∃ k, k < n ∧ (∀ j, j < k → P j = P' j ∧ Q j = Q' j) ∧ lessB (P k) (Q k) (P' k) (Q' k) = true)))
theorem less_irr {a b : Int} : lessB a b a b = false := by
  unfold lessB
  simp
theorem ratC_zero {a b c d : Int} (h1 : okB a b = true) (h2 : okB c d = true) : ratC a b c d = 0 ↔ a = c ∧ b = d := by
  constructor
  · intro h
    unfold ratC at h
    by_cases l1 : lessB a b c d = true
    · rw [if_pos l1] at h; omega
    · rw [if_neg l1] at h
      by_cases l2 : lessB c d a b = true
      · rw [if_pos l2] at h; omega
      · rw [less_eq h1 h2] at l1
        rw [less_eq h2 h1] at l2
        refine ok_unique h1 h2 ?_
        simp only [decide_eq_true_eq] at l1 l2
        omega
  · rintro ⟨rfl, rfl⟩
    unfold ratC
    rw [less_irr]; rfl
theorem ratC_neg {a b c d : Int} : ratC a b c d < 0 ↔ lessB a b c d = true := by
  unfold ratC
  by_cases l1 : lessB a b c d = true
  · rw [if_pos l1]; exact ⟨fun _ => l1, fun _ => by omega⟩
  · rw [if_neg l1]
    by_cases l2 : lessB c d a b = true
    · rw [if_pos l2]; exact ⟨fun h => by omega, fun h => absurd h l1⟩
    · rw [if_neg l2]; exact ⟨fun h => by omega, fun h => absurd h l1⟩
theorem orI_less {nm nm2 : ByteArray} {n m : Nat} {P Q P' Q' : Nat → Int} {r : Int} (hr : CmpL n P Q m P' Q' r) (h1 : ∀ k, k < n → okB (P k) (Q k) = true) (h2 : ∀ k, k < m → okB (P' k) (Q' k) = true) :
    orI (cmpI nm nm2) (cmpN n m) r < 0 ↔ RLess nm nm2 n P Q m P' Q' := by
  have key : n = m → (r < 0 ↔ ∃ k, k < n ∧ (∀ j, j < k → P j = P' j ∧ Q j = Q' j) ∧ lessB (P k) (Q k) (P' k) (Q' k) = true) := by
    rintro rfl
    have hz : ∀ j, j < n → (ratC (P j) (Q j) (P' j) (Q' j) = 0 ↔ P j = P' j ∧ Q j = Q' j) := fun j hj => ratC_zero (h1 j hj) (h2 j hj)
    rcases hr with ⟨k, hk, _, hb, hc, hn⟩ | ⟨ha, hc⟩
    · constructor
      · intro h
        exact ⟨k, hk, fun j hj => (hz j (by omega)).1 (hb j hj), ratC_neg.1 (by omega)⟩
      · rintro ⟨k', hk', hb', hl⟩
        rcases Nat.lt_trichotomy k k' with h | h | h
        · exact absurd (hc ▸ (hz k hk).2 (hb' k h)) hn
        · subst h; rw [← hc]; exact ratC_neg.2 hl
        · have := (hz k' hk').1 (hb k' h)
          rw [this.1, this.2, less_irr] at hl; cases hl
    · rw [if_neg (by omega), if_neg (by omega)] at hc
      constructor
      · intro h; omega
      · rintro ⟨k', hk', hb', hl⟩
        have := (hz k' hk').1 (ha k' hk' hk')
        rw [this.1, this.2, less_irr] at hl; cases hl
  unfold orI RLess
  by_cases c1 : cmpI nm nm2 ≠ 0
  · rw [if_pos c1, cmpI_neg]
    constructor
    · exact .inl
    · rintro (h | ⟨h, _⟩)
      · exact h
      · exact absurd (cmpI_zero.2 h) c1
  · rw [if_neg c1]
    have hnm : nm.toList = nm2.toList := cmpI_zero.1 (by simpa using c1)
    have hno : ¬ Op.bytesLess nm.toList nm2.toList = true := by rw [hnm, bl_irr]; simp
    have hcn : cmpN (n : Int) (m : Int) = if n < m then -1 else if m < n then 1 else 0 := by
      unfold cmpN
      by_cases a1 : n < m
      · rw [if_pos (by omega), if_pos a1]
      · rw [if_neg (by omega), if_neg a1]
        by_cases a2 : m < n
        · rw [if_pos (by omega), if_pos a2]
        · rw [if_neg (by omega), if_neg a2]
    rw [hcn]
    rcases Nat.lt_trichotomy n m with h | h | h
    · rw [if_pos h, if_pos (by omega)]
      exact ⟨fun _ => .inr ⟨hnm, .inl h⟩, fun _ => by omega⟩
    · have e0 : (if n < m then (-1 : Int) else if m < n then 1 else 0) = 0 := by rw [if_neg (by omega), if_neg (by omega)]
      rw [e0, if_neg (by simp), key h]
      exact ⟨fun x => .inr ⟨hnm, .inr ⟨h, x⟩⟩, fun x => by
        rcases x with x | ⟨_, x | ⟨_, x⟩⟩
        · exact absurd x hno
        · omega
        · exact x⟩
    · have e0 : (if n < m then (-1 : Int) else if m < n then 1 else 0) = 1 := by rw [if_neg (by omega), if_pos h]
      rw [e0, if_pos (by simp)]
      exact ⟨fun x => by omega, fun x => by
        rcases x with x | ⟨_, x | ⟨x, _⟩⟩
        · exact absurd x hno
        · omega
        · omega⟩
theorem first_ne (f : Nat → Int) : ∀ N, (∀ j, j < N → f j = 0) ∨ ∃ k, k < N ∧ (∀ j, j < k → f j = 0) ∧ f k ≠ 0
  | 0 => .inl fun j h => absurd h (Nat.not_lt_zero _)
  | N + 1 => by
    rcases first_ne f N with h | ⟨k, h1, h2, h3⟩
    · by_cases e : f N = 0
      · exact .inl fun j hj => by
          by_cases ej : j = N
          · rw [ej]; exact e
          · exact h j (by omega)
      · exact .inr ⟨N, by omega, h, e⟩
    · exact .inr ⟨k, by omega, h2, h3⟩
theorem cmpL_ex (n : Nat) (P Q : Nat → Int) (m : Nat) (P' Q' : Nat → Int) : ∃ r, CmpL n P Q m P' Q' r := by
  rcases first_ne (fun j => ratC (P j) (Q j) (P' j) (Q' j)) (min n m) with h | ⟨k, h1, h2, h3⟩
  · exact ⟨_, .inr ⟨fun j a b => h j (by omega), rfl⟩⟩
  · exact ⟨_, .inl ⟨k, by omega, by omega, h2, rfl, h3⟩⟩
theorem cmpL_fun {n : Nat} {P Q : Nat → Int} {m : Nat} {P' Q' : Nat → Int} {r r' : Int} (h : CmpL n P Q m P' Q' r) (h' : CmpL n P Q m P' Q' r') : r = r' := by
  rcases h with ⟨k, a1, a2, a3, a4, a5⟩ | ⟨a1, a2⟩
  · rcases h' with ⟨k', b1, b2, b3, b4, b5⟩ | ⟨b1, b2⟩
    · rcases Nat.lt_trichotomy k k' with e | e | e
      · exact absurd (a4 ▸ b3 k e) a5
      · subst e; rw [← a4, ← b4]
      · exact absurd (b4 ▸ a3 k' e) b5
    · exact absurd (a4 ▸ b1 k a1 a2) a5
  · rcases h' with ⟨k', b1, b2, b3, b4, b5⟩ | ⟨b1, b2⟩
    · exact absurd (b4 ▸ a1 k' b1 b2) b5
    · rw [a2, b2]
/-- how two rows compare, at a value -/
theorem rowcmp_at {nm nm2 : ByteArray} {A B : Option Addr} {n m c d : Nat} {P Q P' Q' : Nat → Int} {u v u2 v2 : Int} {w : World} (hn : n ≤ 1048576) (hm : m ≤ 1048576) (hA : Rats w A n P Q) (hB : Rats w B m P' Q') {r : Int} (hr : CmpL n P Q m P' Q' r) {x : Int} (hx : orI (cmpI nm nm2) (cmpN n m) r = x) (W : World) (hb : Below w.heap.size w W) :
    Calls Try.prog 155 #[.agg #[.string nm, .slice A n c, .int .i64 u, .int .i64 v], .agg #[.string nm2, .slice B m d, .int .i64 u2, .int .i64 v2]] W fun e w' => e = .returned (.int .i64 x) ∧ Below W.heap.size W w' :=
  (rowcmp_any nm nm2 A B n m c d P Q P' Q' u v u2 v2 W (by omega) (by omega) (hA.below hb) (hB.below hb)).mono fun _ _ ⟨r', h1, h2, h3⟩ => ⟨by rw [h1, cmpL_fun h2 hr, hx], h3⟩
/-- the rows of a model are right -/
def RowsP (m : Nat) (M : Mo) : Prop :=
  (∀ k, k < m → rowB (M.Nm k) (M.N k) (M.P k) (M.Q k) (M.U k) (M.V k) = true) ∧ ∀ k, k + 1 < m → RLess (M.Nm k) (M.Nm (k + 1)) (M.N k) (M.P k) (M.Q k) (M.N (k + 1)) (M.P (k + 1)) (M.Q (k + 1))
def WellM (m : Nat) (M : Mo) : Prop := m ≤ 40 ∧ RowsP m M
set_option maxRecDepth 100000 in
set_option maxHeartbeats 8000000 in
theorem wellm_any (b : Bool) (A : Option Addr) (m c : Nat) (M : Mo) (hb : b = true ↔ WellM m M) (w : World) (hm : m ≤ 1048576) (hA : MRows w A m M) (hN : SmM m M) :
    Calls Try.prog 87 #[.agg #[.slice A m c]] w fun e w' => e = .returned (.bool b) ∧ Below w.heap.size w w' := by
  have HB := hid hb; have HN := hid hN; clear hb hN
  have q0 := bal (Below.refl w.heap.size w) (.cells #[.slice A m c] 29)
  have b0 : (w.alloc (.cells #[.slice A m c] 29)).cell? ⟨w.heap.size, 0, none⟩ = some (.slice A m c) := by simp [go_sem]
  have hA2 := hA.below q0
  clear hA
  by_cases h40 : m ≤ 40
  rotate_left
  · have HF := hid (b_no HB.out (fun h => h40 h.1))
    have d1 : decide (40 < (m : Int)) = true := by simp; omega
    clear hA2 b0
    go_enter Try.func87, Try.ntmps87
    go_wp2
    go_ret
    exact ⟨ret_bool HF.out.symm, q0⟩
  have d1 : decide (40 < (m : Int)) = false := by simp; omega
  have H40 := hid h40; clear h40
  go_enter Try.func87, Try.ntmps87
  go_wp2
  generalize w.alloc (.cells #[.slice A m c] 29) = W0 at *
  go_loopw [12] (fun i wr => ∃ k : Nat, k ≤ m ∧ i = .int .i64 k ∧ Below W0.heap.size W0 wr ∧ RowsP k M) (fun i _ => m - (intOf i).toNat)
  case atStart => exact ⟨0, Nat.zero_le _, rfl, Below.refl _ _, ⟨fun k h => absurd h (Nat.not_lt_zero _), fun k h => absurd h (Nat.not_lt_zero _)⟩⟩
  case round =>
    obtain ⟨k, hk, rfl, hb, he⟩ := hrel
    have HE := hid he; clear he
    have g0 := carry hb b0
    have l0 := cell_lt g0
    by_cases hlt : k < m
    · rcases hA2 with h0 | ⟨g, off, rfl, hg, hcA⟩
      · omega
      obtain ⟨a, ca, a0, a1, a2, a3, hMk, hNk, hI⟩ := hcA k hlt
      have hp := fun (j : Nat) (h : j < m) => hcA j h
      have HP := hid hp; clear hp hcA
      have gg : g < wr.heap.size := Nat.lt_of_lt_of_le hg hb.size
      replace a0 := carry hb a0
      replace a1 := carry hb a1
      replace a2 := carry hb a2
      replace a3 := carry hb a3
      have hr4 := row_newQ wr #[.string (M.Nm k), .slice a (M.N k) ca, .int .i64 (M.U k), .int .i64 (M.V k)] 122
      have al := bal (Below.refl wr.heap.size wr) (.cells #[.string (M.Nm k), .slice a (M.N k) ca, .int .i64 (M.U k), .int .i64 (M.V k)] 122)
      go_upto_region 6 with fail
      clear a0 a1 a2 a3 g0
      have hb2 := btr hb al
      generalize wr.alloc (.cells #[.string (M.Nm k), .slice a (M.N k) ca, .int .i64 (M.U k), .int .i64 (M.V k)] 122) = W1 at *
      have r0 : W1.cell? ⟨wr.heap.size, 0, none⟩ = some (.string (M.Nm k)) := hr4.cell (i := 0) (by simp)
      have r1 : W1.cell? ⟨wr.heap.size, 1, none⟩ = some (.slice a (M.N k) ca) := hr4.cell (i := 1) (by simp)
      have r2 : W1.cell? ⟨wr.heap.size, 2, none⟩ = some (.int .i64 (M.U k)) := hr4.cell (i := 2) (by simp)
      have r3 : W1.cell? ⟨wr.heap.size, 3, none⟩ = some (.int .i64 (M.V k)) := hr4.cell (i := 3) (by simp)
      have g1 := carry hb2 b0
      have lr := cell_lt r0
      have lg := cell_lt g1
      have hI1 := hI.below hb2
      cases hv : rowB (M.Nm k) (M.N k) (M.P k) (M.Q k) (M.U k) (M.V k)
      · have hO := fun X : Gro W1 => valid_rowat (c := ca) hMk hNk hI1 hv (gro W1 X) X.h
        have HF := hid (b_no HB.out (fun h => by have := h.2.1 k hlt; rw [hv] at this; cases this))
        clear hv
        have gc := @gro_cell W1
        refine wp_region_grow_lit (by kernel_rfl) (by kernel_rfl) ?_
        repeat (go_big_quiet_step ((go_at_call 154; exact grow_call _ (hO _))))
        refine wpQuiet_nil ?_
        rintro _ ⟨X, rfl⟩
        clear gc
        go_wp2
        go_ret
        exact ⟨ret_bool HF.out.symm, btr q0 (btr hb2 X.h)⟩
      · have hO := fun X : Gro W1 => valid_rowat (c := ca) hMk hNk hI1 hv (gro W1 X) X.h
        have HV := hid hv; clear hv
        by_cases hk0 : k = 0
        · subst hk0
          have gc := @gro_cell W1
          refine wp_region_grow_lit (by kernel_rfl) (by kernel_rfl) ?_
          repeat (go_big_quiet_step ((go_at_call 154; exact grow_call _ (hO _))))
          refine wpQuiet_nil ?_
          rintro _ ⟨X, rfl⟩
          clear gc
          go_wp2
          go_roundw
          case rel =>
            refine ⟨1, by omega, by go_num, btr hb2 X.h, ⟨fun j hj => ?_, fun j hj => by omega⟩⟩
            have e : j = 0 := by omega
            subst e; exact HV.out
          case measure => simp [intOf]; omega
        · obtain ⟨p, rfl⟩ : ∃ p, k = p + 1 := ⟨k - 1, by omega⟩
          obtain ⟨a', ca', p0, p1, p2, p3, hMp, hNp, hJ⟩ := HP.out p (by omega)
          replace p0 := carry hb2 p0
          replace p1 := carry hb2 p1
          replace p2 := carry hb2 p2
          replace p3 := carry hb2 p3
          have hJ1 := hJ.below hb2
          have gg1 : g < W1.heap.size := Nat.lt_of_lt_of_le hg hb2.size
          have dk : decide ((0 : Int) < ((p + 1 : Nat) : Int)) = true := by simp
          have hsub : (((p + 1 : Nat) : Int)) - 1 = (p : Int) := by omega
          obtain ⟨r, hr⟩ := cmpL_ex (M.N p) (M.P p) (M.Q p) (M.N (p + 1)) (M.P (p + 1)) (M.Q (p + 1))
          have hless := orI_less (nm := M.Nm p) (nm2 := M.Nm (p + 1)) hr (rowB_iff.1 (HE.out.1 p (by omega))).2.2.1 (rowB_iff.1 HV.out).2.2.1
          obtain ⟨x, hx⟩ : ∃ x, orI (cmpI (M.Nm p) (M.Nm (p + 1))) (cmpN (M.N p) (M.N (p + 1))) r = x := ⟨_, rfl⟩
          have hC := fun X : Gro W1 => rowcmp_at (c := ca') (d := ca) (u := M.U p) (v := M.V p) (u2 := M.U (p + 1)) (v2 := M.V (p + 1)) (HN.out p (by omega)).1 (HN.out (p + 1) (by omega)).1 hJ1 hI1 hr hx (gro W1 X) X.h
          rw [hx] at hless
          have HL := hid hless
          clear hr hx hless
          have gc := @gro_cell W1
          by_cases hx0 : x < 0
          · have dx : decide ((0 : Int) ≤ x) = false := by simp; omega
            have HX := hid (HL.out.1 hx0)
            refine wp_region_grow_lit (by kernel_rfl) (by kernel_rfl) ?_
            repeat (go_big_quiet_step (first | (go_at_call 154; exact grow_call _ (hO _)) | (go_at_call 155; exact grow_call _ (hC _))))
            refine wpQuiet_nil ?_
            rintro _ ⟨X, rfl⟩
            clear gc
            go_wp2
            go_roundw
            case rel =>
              refine ⟨p + 1 + 1, by omega, by go_num, btr hb2 X.h, ⟨fun j hj => ?_, fun j hj => ?_⟩⟩
              · by_cases e : j = p + 1
                · subst e; exact HV.out
                · exact HE.out.1 j (by omega)
              · by_cases e : j = p
                · subst e; exact HX.out
                · exact HE.out.2 j (by omega)
            case measure => simp [intOf]; omega
          · have dx : decide ((0 : Int) ≤ x) = true := by simp; omega
            have HF := hid (b_no HB.out (fun h => hx0 (HL.out.2 (h.2.2 p hlt))))
            refine wp_region_grow_lit (by kernel_rfl) (by kernel_rfl) ?_
            repeat (go_big_quiet_step (first | (go_at_call 154; exact grow_call _ (hO _)) | (go_at_call 155; exact grow_call _ (hC _))))
            refine wpQuiet_nil ?_
            rintro _ ⟨X, rfl⟩
            clear gc
            go_wp2
            go_ret
            exact ⟨ret_bool HF.out.symm, btr q0 (btr hb2 X.h)⟩
    · have hke : k = m := by omega
      subst hke
      have HF := hid (b_yes HB.out ⟨H40.out, HE.out⟩)
      go_wp2
      go_ret
      exact ⟨ret_bool HF.out.symm, btr q0 hb⟩
end Go.Proofs.Ytmeglflbjedndaa
