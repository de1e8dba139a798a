/- How two rows compare: contracts of the program's Row.compare and what it calls. -/
import Derived.Test.YtmeglflbjedndaaMoF
import Derived.Test.YtmeglflbjedndaaFindA
import Derived.Test.YtmeglflbjedndaaPlanB
namespace Go.Proofs.Ytmeglflbjedndaa
set_option linter.unusedVariables false
set_option linter.unusedSimpArgs false
open Go.RowKit
/-- how two fractions compare -/
def ratC (a b c d : Int) : Int := if lessB a b c d = true then -1 else if lessB c d a b = true then 1 else 0
theorem rless_v {a b c d : Int} {v : Bool} (h : lessB a b c d = v) (w : World) :
    Calls Try.prog 227 #[.agg #[.int .i64 a, .int .i64 b], .agg #[.int .i64 c, .int .i64 d]] w fun e w' => e = .returned (.bool v) ∧ Below w.heap.size w w' := by
  subst h; exact rless_any a b c d w
set_option maxHeartbeats 1000000 in
theorem ratcmp_any (a b c d : Int) (w : World) :
    Calls Try.prog 202 #[.agg #[.int .i64 a, .int .i64 b], .agg #[.int .i64 c, .int .i64 d]] w fun e w' => e = .returned (.int .i64 (ratC a b c d)) ∧ Below w.heap.size w w' := by
  generalize hr : ratC a b c d = res
  have HR := hid hr; clear hr
  have H : KcL [(w.heap.size, 0, .int .i64 a), (w.heap.size, 1, .int .i64 b), (w.heap.size + 1, 0, .int .i64 c), (w.heap.size + 1, 1, .int .i64 d)] ((w.alloc (.cells #[.int .i64 a, .int .i64 b] 48)).alloc (.cells #[.int .i64 c, .int .i64 d] 48)) := by
    refine ⟨?_, ?_, ?_, ?_, trivial⟩ <;> simp [go_sem]
  have q0 := bal (bal (Below.refl w.heap.size w) (.cells #[.int .i64 a, .int .i64 b] 48)) (.cells #[.int .i64 c, .int .i64 d] 48)
  cases h1 : lessB a b c d
  · have h1' := fun W => rless_v h1 W
    cases h2 : lessB c d a b
    · have h2' := fun W => rless_v h2 W
      have HF := hid (show ratC a b c d = 0 by unfold ratC; rw [h1, h2]; rfl)
      clear h1 h2
      go_enter Try.func202, Try.ntmps202
      go_wp2_with fail
      refine (h1' _).mono ?_
      rintro e w1 ⟨rfl, hq⟩
      replace H := H.below hq
      replace q0 := btr q0 hq
      clear h1' hq
      have HH_ := H; obtain ⟨c0, c1, c2, c3, _⟩ := HH_
      have l0 := cell_lt c0
      have l1 := cell_lt c2
      go_wp2_with fail
      refine (h2' _).mono ?_
      rintro e w2 ⟨rfl, hq⟩
      clear c0 c1 c2 c3 l0 l1 H
      go_wp2
      go_ret
      exact ⟨ret_i64 (HF.out.symm.trans HR.out), btr q0 hq⟩
    · have h2' := fun W => rless_v h2 W
      have HF := hid (show ratC a b c d = 1 by unfold ratC; rw [h1, h2]; rfl)
      clear h1 h2
      go_enter Try.func202, Try.ntmps202
      go_wp2_with fail
      refine (h1' _).mono ?_
      rintro e w1 ⟨rfl, hq⟩
      replace H := H.below hq
      replace q0 := btr q0 hq
      clear h1' hq
      have HH_ := H; obtain ⟨c0, c1, c2, c3, _⟩ := HH_
      have l0 := cell_lt c0
      have l1 := cell_lt c2
      go_wp2_with fail
      refine (h2' _).mono ?_
      rintro e w2 ⟨rfl, hq⟩
      clear c0 c1 c2 c3 l0 l1 H
      go_wp2
      go_ret
      exact ⟨ret_i64 (HF.out.symm.trans HR.out), btr q0 hq⟩
  · have h1' := fun W => rless_v h1 W
    have HF := hid (show ratC a b c d = -1 by unfold ratC; rw [h1]; rfl)
    clear h1 H
    go_enter Try.func202, Try.ntmps202
    go_wp2_with fail
    refine (h1' _).mono ?_
    rintro e w1 ⟨rfl, hq⟩
    go_wp2
    go_ret
    exact ⟨ret_i64 (HF.out.symm.trans HR.out), btr q0 hq⟩
theorem ratcmp_at {a b c d v : Int} (h : ratC a b c d = v) (w : World) :
    Calls Try.prog 202 #[.agg #[.int .i64 a, .int .i64 b], .agg #[.int .i64 c, .int .i64 d]] w fun e w' => e = .returned (.int .i64 v) ∧ Below w.heap.size w w' := by
  subst h; exact ratcmp_any a b c d w
/-- how two lists of fractions compare -/
def CmpL (n : Nat) (P Q : Nat → Int) (m : Nat) (P' Q' : Nat → Int) (c : Int) : Prop :=
  (∃ k, k < n ∧ k < m ∧ (∀ j, j < k → ratC (P j) (Q j) (P' j) (Q' j) = 0) ∧ ratC (P k) (Q k) (P' k) (Q' k) = c ∧ c ≠ 0) ∨
    ((∀ j, j < n → j < m → ratC (P j) (Q j) (P' j) (Q' j) = 0) ∧ c = if n < m then -1 else if m < n then 1 else 0)
set_option maxRecDepth 100000 in
set_option maxHeartbeats 2000000 in
theorem cmpfunc_any (A B : Option Addr) (n m c d : Nat) (P Q P' Q' : Nat → Int) (w : World) (hn : n ≤ 9223372036854775806) (hm : m ≤ 9223372036854775806) (hA : Rats w A n P Q) (hB : Rats w B m P' Q') :
    Calls Try.prog 201 #[.slice A n c, .slice B m d, .func (.func 202) #[] #[]] w fun e w' => ∃ r, e = .returned (.int .i64 r) ∧ CmpL n P Q m P' Q' r ∧ Below w.heap.size w w' := by
  go_enter Try.func201, Try.ntmps201
  go_wp2
  go_loopw [13] (fun i wr => ∃ k : Nat, k ≤ n ∧ k ≤ m ∧ i = .int .i64 k ∧ Below w.heap.size w wr ∧ ∀ j, j < k → ratC (P j) (Q j) (P' j) (Q' j) = 0) (fun i _ => n - (intOf i).toNat)
  case atStart => exact ⟨0, Nat.zero_le _, Nat.zero_le _, rfl, Below.refl _ _, fun j hj => by omega⟩
  case round =>
    obtain ⟨k, hk, hkm, rfl, hb, he⟩ := hrel
    have HE := hid he; clear he
    by_cases hlt : k < n
    · rcases hA with h0 | ⟨g, off, rfl, hg, hcA⟩
      · omega
      have a0 := carry hb (hcA k hlt).1
      have a1 := carry hb (hcA k hlt).2
      have gg : g < wr.heap.size := Nat.lt_of_lt_of_le hg hb.size
      clear hcA
      by_cases hlm : k < m
      · rcases hB with h0 | ⟨g2, off2, rfl, hg2, hcB⟩
        · omega
        have b0 := carryA (.cells #[.int .i64 (P k), .int .i64 (Q k)] 48) (carry hb (hcB k hlm).1)
        have b1 := carryA (.cells #[.int .i64 (P k), .int .i64 (Q k)] 48) (carry hb (hcB k hlm).2)
        have gg2 : g2 < wr.heap.size + 1 := by have := hb.size; omega
        clear hcB
        obtain ⟨v, hv⟩ : ∃ v, ratC (P k) (Q k) (P' k) (Q' k) = v := ⟨_, rfl⟩
        have hC := fun W => ratcmp_at hv W
        have HV := hid hv; clear hv
        have d1 : decide ((m : Int) ≤ (k : Int)) = false := by simp; omega
        have hne : wr.heap.size ≠ wr.heap.size + 1 := by omega
        by_cases hz : v = 0
        · subst hz
          go_wp2_with fail
          refine (hC _).mono ?_
          rintro e w1 ⟨rfl, hq⟩
          clear hC
          go_wp2
          go_roundw
          case rel =>
            refine ⟨k + 1, by omega, by omega, by go_num, btr hb (btr (bal (bal (Below.refl _ _) _) _) hq), fun j hj => ?_⟩
            by_cases e : j = k
            · subst e; exact HV.out
            · exact HE.out j (by omega)
          case measure => simp [intOf]; omega
        · have d2 : (v != 0) = true := by simpa using hz
          go_wp2_with fail
          refine (hC _).mono ?_
          rintro e w1 ⟨rfl, hq⟩
          clear hC
          go_wp2
          go_ret
          exact ⟨v, rfl, .inl ⟨k, hlt, hlm, HE.out, HV.out, hz⟩, btr hb (btr (bal (bal (Below.refl _ _) _) _) hq)⟩
      · have hkm' : k = m := by omega
        subst hkm'
        have d1 : decide ((k : Int) ≤ (k : Int)) = true := by simp
        go_wp2
        go_ret
        exact ⟨1, rfl, .inr ⟨fun j _ h2 => HE.out j h2, by rw [if_neg (by omega), if_pos hlt]⟩, btr hb (bal (Below.refl _ _) _)⟩
    · have hke : k = n := by omega
      subst hke
      by_cases h1 : k < m
      · have d1 : decide ((k : Int) < (m : Int)) = true := by simp; omega
        go_wp2
        go_ret
        exact ⟨-1, rfl, .inr ⟨fun j h2 _ => HE.out j h2, by rw [if_pos h1]⟩, hb⟩
      · have d1 : decide ((k : Int) < (m : Int)) = false := by simp; omega
        go_wp2
        go_ret
        exact ⟨0, rfl, .inr ⟨fun j h2 _ => HE.out j h2, by rw [if_neg h1, if_neg (by omega)]⟩, hb⟩
/-- how two counts compare -/
def cmpN (a b : Int) : Int := if a < b then -1 else if b < a then 1 else 0
theorem nanI_any (x : Int) (w : World) : Calls Try.prog 226 #[.int .i64 x] w fun e w' => e = .returned (.bool false) ∧ w = w' := by
  have dk : (x != x) = false := by simp
  go_enter Try.func226, Try.ntmps226
  go_wp2
  go_ret
  exact ⟨rfl, rfl⟩
theorem cmpN_any (a b : Int) (w : World) : Calls Try.prog 200 #[.int .i64 a, .int .i64 b] w fun e w' => e = .returned (.int .i64 (cmpN a b)) ∧ w = w' := by
  have hN := fun x => nanI_any x w
  by_cases h1 : a < b
  · have hv := hid (show (-1 : Int) = cmpN a b by unfold cmpN; rw [if_pos h1])
    go_enter Try.func200, Try.ntmps200
    go_wp2_with (go_at_call 226; refine (hN _).mono ?_; rintro e w1 ⟨rfl, rfl⟩)
    go_ret
    exact ⟨ret_i64 hv.out, rfl⟩
  · by_cases h2 : b < a
    · have hv := hid (show (1 : Int) = cmpN a b by unfold cmpN; rw [if_neg h1, if_pos h2])
      go_enter Try.func200, Try.ntmps200
      go_wp2_with (go_at_call 226; refine (hN _).mono ?_; rintro e w1 ⟨rfl, rfl⟩)
      go_ret
      exact ⟨ret_i64 hv.out, rfl⟩
    · have hv := hid (show (0 : Int) = cmpN a b by unfold cmpN; rw [if_neg h1, if_neg h2])
      go_enter Try.func200, Try.ntmps200
      go_wp2_with (go_at_call 226; refine (hN _).mono ?_; rintro e w1 ⟨rfl, rfl⟩)
      go_ret
      exact ⟨ret_i64 hv.out, rfl⟩
/-- the first that is not 0 -/
def orI (a b c : Int) : Int := if a ≠ 0 then a else if b ≠ 0 then b else c
set_option maxHeartbeats 1000000 in
theorem or3_any (a b c : Int) (g : Nat) (w : World) (h0 : w.cell? ⟨g, 0, none⟩ = some (.int .i64 a)) (h1 : w.cell? ⟨g, 1, none⟩ = some (.int .i64 b)) (h2 : w.cell? ⟨g, 2, none⟩ = some (.int .i64 c)) :
    Calls Try.prog 198 #[.slice (some ⟨g, 0, none⟩) 3 3] w fun e w' => e = .returned (.int .i64 (orI a b c)) ∧ w = w' := by
  have lg := cell_lt h0
  have HR := hid (rfl : orI a b c = orI a b c)
  generalize hr : orI a b c = res at HR ⊢
  have HR2 := hid hr; clear hr HR
  go_enter Try.func198, Try.ntmps198
  go_wp2
  go_loop [8] (fun i => (i = .int .i64 0) ∨ (i = .int .i64 1 ∧ a = 0) ∨ (i = .int .i64 2 ∧ a = 0 ∧ b = 0) ∨ (i = .int .i64 3 ∧ a = 0 ∧ b = 0 ∧ c = 0)) (fun i => 3 - (intOf i).toNat)
  case atStart => exact .inl rfl
  case round =>
    rcases hrel with rfl | ⟨rfl, hz⟩ | ⟨rfl, hz, hz2⟩ | ⟨rfl, hz, hz2, hz3⟩
    · by_cases hz : a = 0
      · subst hz
        go_wp2
        go_round
        case rel => exact .inr (.inl ⟨by go_num, by trivial⟩)
        case measure => simp [intOf]
      · have d : (a != 0) = true := by simpa using hz
        go_wp2
        go_ret
        exact ⟨ret_i64 (by rw [← HR2.out]; unfold orI; rw [if_pos hz]), rfl⟩
    · subst hz
      by_cases hz : b = 0
      · subst hz
        go_wp2
        go_round
        case rel => exact .inr (.inr (.inl ⟨by go_num, by trivial, by trivial⟩))
        case measure => simp [intOf]
      · have d : (b != 0) = true := by simpa using hz
        go_wp2
        go_ret
        exact ⟨ret_i64 (by rw [← HR2.out]; unfold orI; rw [if_neg (by simp), if_pos hz]), rfl⟩
    · subst hz; subst hz2
      by_cases hz : c = 0
      · subst hz
        go_wp2
        go_round
        case rel => exact .inr (.inr (.inr ⟨by go_num, by trivial, by trivial, by trivial⟩))
        case measure => simp [intOf]
      · have d : (c != 0) = true := by simpa using hz
        go_wp2
        go_ret
        exact ⟨ret_i64 (by rw [← HR2.out]; unfold orI; rw [if_neg (by simp), if_neg (by simp)]), rfl⟩
    · subst hz; subst hz2; subst hz3
      go_wp2
      go_ret
      exact ⟨ret_i64 (by rw [← HR2.out]; unfold orI; rw [if_neg (by simp), if_neg (by simp)]), rfl⟩
set_option maxRecDepth 100000 in
set_option maxHeartbeats 4000000 in
theorem rowcmp_any (nm nm2 : ByteArray) (A B : Option Addr) (n m c d : Nat) (P Q P' Q' : Nat → Int) (u v u2 v2 : Int) (w : World) (hn : n ≤ 9223372036854775806) (hm : m ≤ 9223372036854775806) (hA : Rats w A n P Q) (hB : Rats w B m P' Q') :
    Calls Try.prog 155 #[.agg #[.string nm, .slice A n c, .int .i64 u, .int .i64 v], .agg #[.string nm2, .slice B m d, .int .i64 u2, .int .i64 v2]] w fun e w' => ∃ r, e = .returned (.int .i64 (orI (cmpI nm nm2) (cmpN n m) r)) ∧ CmpL n P Q m P' Q' r ∧ Below w.heap.size w w' := by
  have H : KcL [(w.heap.size, 0, .string nm), (w.heap.size, 1, .slice A n c), (w.heap.size + 1, 0, .string nm2), (w.heap.size + 1, 1, .slice B m d)] ((w.alloc (.cells #[.string nm, .slice A n c, .int .i64 u, .int .i64 v] 122)).alloc (.cells #[.string nm2, .slice B m d, .int .i64 u2, .int .i64 v2] 122)) := by
    refine ⟨?_, ?_, ?_, ?_, trivial⟩ <;> simp [go_sem]
  have q0 := bal (bal (Below.refl w.heap.size w) (.cells #[.string nm, .slice A n c, .int .i64 u, .int .i64 v] 122)) (.cells #[.string nm2, .slice B m d, .int .i64 u2, .int .i64 v2] 122)
  have hF := hid (fun W (h : Below w.heap.size w W) => cmpfunc_any A B n m c d P Q P' Q' W hn hm (hA.below h) (hB.below h))
  obtain ⟨x, hx⟩ : ∃ x, cmpI nm nm2 = x := ⟨_, rfl⟩
  rw [hx]
  have hX := hid (fun W => cmp_at hx W)
  obtain ⟨y, hy⟩ : ∃ y, cmpN (n : Int) (m : Int) = y := ⟨_, rfl⟩
  have hY0 := fun W => cmpN_any (n : Int) (m : Int) W
  rw [hy] at hY0 ⊢
  have hY := hid hY0
  clear hY0 hx hy hA hB
  go_enter Try.func155, Try.ntmps155
  go_upto_region 1 with fail
  generalize (w.alloc (.cells #[.string nm, .slice A n c, .int .i64 u, .int .i64 v] 122)).alloc (.cells #[.string nm2, .slice B m d, .int .i64 u2, .int .i64 v2] 122) = W0 at *
  have HH_ := H; obtain ⟨c0, c1, c2, c3, _⟩ := HH_
  have l0 := cell_lt c0
  have l1 := cell_lt c2
  have gc := @gro_cell W0
  refine region_plan (.takes [0, 1, 2, 3, 5, 6, 7, 8, 9, 10, 12, 13, 14, 15] (.make 4 (.make 11 (.make 16 (.make 17 (.make 18 .fin)))))) 19 rfl (by kernel_rfl) ?_
  refine plan_takes ?_; simp only [pickOps, List.getElem?_cons_zero, List.getElem?_cons_succ]; (repeat (go_big_quiet_step (fail))); refine wpQuiet_nil ?_
  clear gc l0 l1 c0 c1 c2 c3
  have hB := (Below.refl W0.heap.size W0).drew
  refine plan_call rfl rfl 199 #[.string nm, .string nm2] (by kernel_rfl) ?_
  refine (hX.out _).mono ?_
  rintro e u1 ⟨rfl, rfl⟩
  refine ⟨_, rfl, hB, ?_⟩
  refine plan_call rfl rfl 200 #[.int .i64 n, .int .i64 m] (by kernel_rfl) ?_
  refine (hY.out _).mono ?_
  rintro e u2 ⟨rfl, rfl⟩
  refine ⟨_, rfl, hB, ?_⟩
  refine plan_call rfl rfl 201 #[.slice A n c, .slice B m d, .func (.func 202) #[] #[]] (by kernel_rfl) ?_
  refine (hF.out _ (btr q0 hB)).mono ?_
  rintro e u3 ⟨r, rfl, hr, hq⟩
  refine ⟨_, rfl, btr hB hq, ?_⟩
  replace hB := btr hB hq; clear hq
  have al := bal (Below.refl u3.heap.size u3) (.cells #[.int .i64 x, .int .i64 y, .int .i64 r] 3)
  refine plan_val rfl rfl (.slice (some ⟨u3.heap.size, 0, none⟩) 3 3) (w'' := u3.alloc (.cells #[.int .i64 x, .int .i64 y, .int .i64 r] 3)) (by kernel_rfl) (btr hB al) ?_
  replace hB := btr hB al
  refine plan_call rfl rfl 198 #[.slice (some ⟨u3.heap.size, 0, none⟩) 3 3] (by kernel_rfl) ?_
  refine (or3_any x y r u3.heap.size _ (by simp [go_sem]) (by simp [go_sem]) (by simp [go_sem])).mono ?_
  rintro e u4 ⟨rfl, rfl⟩
  refine ⟨_, rfl, hB, ?_⟩
  refine plan_fin ?_
  simp only [List.drop_succ_cons, List.drop_zero, Act.put, List.setIfInBounds_toArray, List.set_cons_succ, List.set_cons_zero]
  have HR := hid hr
  go_wp2
  go_ret
  exact ⟨r, rfl, HR.out, btr q0 hB⟩
end Go.Proofs.Ytmeglflbjedndaa
