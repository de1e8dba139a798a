/- LogTrim of the program. -/
import Derived.Test.YtjnngijilkdhbaaLgC
namespace Go.Proofs.Ytjnngijilkdhbaa
set_option linter.unusedVariables false
set_option linter.unusedSimpArgs false
open Go.RowKit
theorem IntSS.drop {w : World} {g off n i : Nat} {L : Lls} (h : IntSS w (some ⟨g, off, none⟩) n L) (hi : i < n) : IntSS w (some ⟨g, off + i, none⟩) (n - i) (shM i L) := by
  rcases h with h | ⟨g', off', ha, hg, hc⟩
  · omega
  · injection ha with ha
    injection ha with h1 h2 _
    subst h1 h2
    refine .inr ⟨g, off + i, rfl, hg, fun j hj => ?_⟩
    have := hc (i + j) (by omega)
    rw [← Nat.add_assoc] at this
    exact this
theorem RS.slice2 {w0 W : World} {base n : Nat} {v : Value} {L : Lls} (h : RS w0 W base v n L) : ∃ a c, v = .slice a n c ∧ n ≤ c ∧ c ≤ 9223372036854775807 := by
  obtain ⟨xs, h1, _⟩ := h
  rcases h1.2 with ⟨rfl, h0⟩ | ⟨g, cap, cur, rfl, _, _, h3, h4, _⟩
  · exact ⟨none, 0, by rw [h0], by omega, by omega⟩
  · exact ⟨_, cap, rfl, h3, by unfold maxLen at h4; omega⟩
set_option maxHeartbeats 16000000 in
set_option maxRecDepth 100000 in
theorem logtrim_any (A : Option Addr) (n c : Nat) (L : Lls) (m : Int) (G : Option Addr) (N cG : Nat) (M : Lls) (w : World) (hn : n ≤ 9223372036854775807) (hN : N ≤ 9223372036854775807) (hcG : N ≤ cG ∧ cG ≤ 9223372036854775807) (hA : IntSS w A n L) (hG : IntSS w G N M) (hM : ∀ k, k < N → M.N k ≤ 1048576) :
    Calls Try.prog 19 #[.agg #[.int .i64 m, .slice A n c], .slice G N cG] w fun e w' => TrP w n L m N M e w' ∧ Below w.heap.size w w' := by
  have q0 := bal (Below.refl w.heap.size w) (.cells #[.int .i64 m, .slice A n c] 31)
  obtain ⟨c0, c1⟩ := pair_new w (.int .i64 m) (.slice A n c) 31
  have hK := fun W (h : Below w.heap.size w W) => logok_any A n c L m G N cG M W hn hN (hA.below h) (hG.below h)
  have hE := fun W (h : Below w.heap.size w W) => logends_any G N cG M W hN (hG.below h)
  have hF := fun (i : Nat) (G' : Option Addr) (N' c' : Nat) (M' : Lls) W (h : Below w.heap.size w W) (h1 : n ≤ 1000) (h2 : N' ≤ 1000) (h3 : i ≤ N') (hG' : IntSS W G' N' M') => followfrom_any i A n c L m G' N' c' M' W h1 h2 h3 (hA.below h) hG'
  have hlk : lokB n L m N M = true → n ≤ 400 ∧ N ≤ 130 := fun h => ⟨by have := (lokB_parts h).2.2.1; omega, (lokB_parts h).2.1⟩
  go_enter Try.func19, Try.ntmps19
  go_upto_region 1 with fail
  generalize w.alloc (.cells #[.int .i64 m, .slice A n c] 31) = w1 at *
  have y0 := cell_lt c0
  rcases hb : lokB n L m N M with _ | _ <;> rw [hb] at hK
  · go_wp2_with fail
    refine (hK w1 q0).mono ?_
    rintro e w2 ⟨rfl, hq⟩
    go_wp2
    go_ret2
    exact ⟨⟨_, by rw [hb]; rfl, by rw [show trimS n L m N M = (0, M) by simp [trimS, hb]]; exact RN.nil _ _ _⟩, btr q0 hq⟩
  · obtain ⟨hn4, hN1⟩ := hlk hb
    rcases hle : leB N M with _ | _ <;> rw [hle] at hE
    · go_wp2_with fail
      refine (hK w1 q0).mono ?_
      rintro e w2 ⟨rfl, hq⟩
      go_wp2_with fail
      refine (hE w2 (btr q0 hq)).mono ?_
      rintro e w3 ⟨rfl, rfl⟩
      go_wp2
      go_ret2
      exact ⟨⟨_, by rw [hb, hle]; rfl, by rw [show trimS n L m N M = (0, M) by simp [trimS, hle]]; exact RN.nil _ _ _⟩, btr q0 hq⟩
    · go_wp2_with fail
      refine (hK w1 q0).mono ?_
      rintro e w2 ⟨rfl, hq⟩
      replace q0 := btr q0 hq
      replace c0 := carry hq c0
      replace c1 := carry hq c1
      go_wp2_with fail
      refine (hE w2 q0).mono ?_
      rintro e w3 ⟨rfl, rfl⟩
      have hN0 : 0 < N := by simp [leB] at hle; omega
      have HG0 := hid (hG.below q0)
      clear hK hE hlk hG
      go_wp2
      go_loopw [6, 7] (fun v i wr => ∃ (A' : Option Addr) (N' c' : Nat) (M' : Lls) (j : Nat), v = .slice A' N' c' ∧ N' ≤ c' ∧ c' ≤ 9223372036854775807 ∧ i = .int .i64 ((j : Int) - 1) ∧ j + 1 ≤ N' ∧ N' ≤ 130 ∧ IntSS wr A' N' M' ∧ (∀ k, k < N' → M'.N k ≤ 1048576) ∧ lokB n L m N' M' = true ∧ trimM n L m j (N', M') = trimM n L m (N - 1) (N, M) ∧ Below w2.heap.size w2 wr) (fun _ i _ => (intOf i + 1).toNat)
      case atStart => exact ⟨G, N, cG, M, N - 1, rfl, hcG.1, hcG.2, (by congr 1; omega), by omega, by omega, HG0.out, hM, hb, rfl, Below.refl _ _⟩
      case round =>
        obtain ⟨A', N', c', M', j, rfl, hc1, hc2, rfl, hj, hN', hG', hM', hlk, htr, hbw⟩ := hrel
        replace c0 := carry hbw c0
        replace c1 := carry hbw c1
        have y1 := cell_lt c0
        cases j with
        | zero =>
          have hq5 := btr q0 hbw
          have HT : Hid (trimS n L m N M = (N', M')) := hid (by rw [trimS, if_pos (by rw [hb, hle]; rfl), ← htr]; rfl)
          have hb2 : (lokB n L m N M && leB N M) = true := by rw [hb, hle]; rfl
          clear htr hlk hF c0 c1 y1
          have hw5 := hq5.size
          obtain ⟨w5, rfl⟩ : ∃ w5, w5 = wr := ⟨_, rfl⟩
          rw [show ((0 : Nat) : Int) - 1 = -1 from rfl]
          go_wp2
          go_loopw [9, 45] (fun v i wr => ∃ k : Nat, k ≤ N' ∧ i = .int .i64 (k : Int) ∧ RN w wr v k M' ∧ (∀ r, v.ownBlock = some r → w5.heap.size ≤ r) ∧ Below w5.heap.size w5 wr) (fun _ i _ => N' - (intOf i).toNat)
          case atStart => exact ⟨0, Nat.zero_le _, rfl, RN.nil _ _ _, (fun r e => by cases e), Below.refl _ _⟩
          case round =>
            obtain ⟨k, hk, rfl, hR, hvb, hbx⟩ := hrel
            by_cases hlt : k < N'
            · rcases hG' with h0 | ⟨g, off, rfl, hg, hcG'⟩
              · omega
              obtain ⟨a, ca, g0, hNk, hZ⟩ := hcG' k hlt
              replace g0 := carry hbx g0
              replace hZ := hZ.below hbx
              have y2 := cell_lt g0
              have hCl := clone_any a (M'.N k) ca (M'.Z k) wr (hM' k hlt) hZ
              clear hcG'
              go_wp2_with fail
              refine hCl.mono ?_
              rintro e w6 ⟨⟨A6, c6, rfl, hO6⟩, hq6⟩
              have al := bal (Below.refl w6.heap.size w6) (.cells #[.slice A6 (M'.N k) c6] 38)
              have hnews := news_one w6 (.slice A6 (M'.N k) c6) 38
              obtain ⟨xs, LA, LC, h1, h2, h3⟩ := hR
              have hw6 := btr hq6 al
              have h1' := own_belowU hw6 h1
              have hwx : w.heap.size ≤ wr.heap.size := Nat.le_trans hw5 hbx.size
              have hwz := hw6.size
              obtain ⟨i0, hi, hz0, hz1, hz2⟩ := info_parts infoIS
              obtain ⟨v', w8, hr8, hown8, hg8, hf8⟩ := run_append_freshU (P := Try.prog) (w6.alloc (.cells #[.slice A6 (M'.N k) c6] 38)) w.heap.size 22 22 38 i0 (.slice none 0 0) 1 24 Try.underlying22 hi hz0 hz1 hz2 rfl (by decide) _ k xs h1' ⟨w6.heap.size, 0, none⟩ 1 1 [.slice A6 (M'.N k) c6] (by simp) hnews (fun u hu => by simp at hu; subst hu; rfl) (by unfold maxLen; omega) (by omega) (by omega)
              have hR8 := RN.push h1 h2 h3 hO6 hq6 al hg8 hown8 hwx
              have hb8 : Below w5.heap.size w5 w8 := (btr hbx hw6).grown hg8 (btr hbx hw6).size hvb
              have hvb8 : ∀ r, v'.ownBlock = some r → w5.heap.size ≤ r := fun r e => by
                rcases hf8 r e with h | h
                · exact hvb r h
                · have := (btr hbx hw6).size; omega
              clear hi hz0 hz1 hz2 hf8
              go_wp2_with (at_builtin; refine Lib.wpList_append_run _ rfl _ _ _ _ rfl _ _ rfl rfl _ _ hr8 ?_)
              go_roundw
              case rel => exact ⟨k + 1, by omega, by go_num, hR8, hvb8, hb8⟩
              case measure => simp [intOf]; omega
            · obtain rfl : k = N' := by omega
              go_wp2
              go_ret2
              exact ⟨⟨_, by rw [hb2]; rfl, by rw [HT.out]; exact hR⟩, btr hq5 hbx⟩
        | succ i =>
          rw [show ((i + 1 : Nat) : Int) - 1 = (i : Int) by omega]
          rcases hG' with h0 | ⟨g, off, rfl, hg, hc⟩
          · omega
          have hG2 : IntSS wr (some ⟨g, off, none⟩) N' M' := .inr ⟨g, off, rfl, hg, hc⟩
          clear hc
          go_upto_region 7 with fail
          have qd := (Below.refl wr.heap.size wr).drew
          refine region_planC (fun _ => True) (.takes [0, 1, 2, 3, 4, 5, 6] (.make 7 .fin)) 8 rfl (by kernel_rfl) trivial ?_
          refine plan_takes ?_; simp only [pickOps, List.getElem?_cons_zero, List.getElem?_cons_succ]
          refine quiet_doC rfl (.slice (some ⟨g, off, none⟩) N' c') (fun W hW => by simp [execOp, go_sem]) ?_
          refine quiet_doC rfl (.int .i64 (i : Int)) (fun W hW => by simp [execOp, go_sem]) ?_
          refine quiet_doC rfl (.slice (some ⟨g, off, none⟩) i c') (fun W hW => by simp [execOp, go_sem]; intro h; omega) ?_
          refine quiet_doC rfl (.slice (some ⟨g, off, none⟩) N' c') (fun W hW => by simp [execOp, go_sem]) ?_
          refine quiet_doC rfl (.int .i64 (i : Int)) (fun W hW => by simp [execOp, go_sem]) ?_
          refine quiet_doC rfl (.int .i64 ((i : Int) + 1)) (fun W hW => by simp [execOp, go_sem]; rw [IntKind.wrap_i64]; omega) ?_
          refine quiet_doC rfl (.slice (some ⟨g, off + (i + 1), none⟩) (N' - (i + 1)) (c' - (i + 1))) (fun W hW => by simp [execOp, go_sem]; rw [if_pos (by omega), if_neg (by omega)]) ?_
          refine wpQuiet_nil ?_
          simp only [Act.put, List.setIfInBounds_toArray, List.set_cons_succ, List.set_cons_zero]
          generalize wr.drew = x0 at *
          have al := bal (Below.refl x0.heap.size x0) (.cells #[.slice (some ⟨g, off, none⟩) i c', .slice (some ⟨g, off + (i + 1), none⟩) (N' - (i + 1)) (c' - (i + 1))] 22)
          obtain ⟨p0, p1⟩ := pair_new x0 (.slice (some ⟨g, off, none⟩) i c') (.slice (some ⟨g, off + (i + 1), none⟩) (N' - (i + 1)) (c' - (i + 1))) 22
          have hx := btr qd al
          have hC := concat_any p0 p1 ((hG2.pre (k := i) (by omega)).below hx) ((hG2.drop (by omega)).below hx) (by omega) (by omega)
          refine planC_val rfl rfl (.slice (some ⟨x0.heap.size, 0, none⟩) 2 2) (w'' := x0.alloc (.cells #[.slice (some ⟨g, off, none⟩) i c', .slice (some ⟨g, off + (i + 1), none⟩) (N' - (i + 1)) (c' - (i + 1))] 22)) (by simp [execOp, go_sem]) trivial ?_
          simp only [Act.put, List.setIfInBounds_toArray, List.set_cons_succ, List.set_cons_zero]
          refine plan_fin ?_
          simp only [List.drop_succ_cons, List.drop_zero, Act.put, List.setIfInBounds_toArray, List.set_cons_succ, List.set_cons_zero]
          go_wp2_with fail
          refine hC.mono ?_
          rintro e w4 ⟨v4, rfl, hRS, q4⟩
          rw [show i + (N' - (i + 1)) = N' - 1 by omega] at hRS
          obtain ⟨A8, c8, rfl, hc8, hc9⟩ := hRS.slice2
          have I8 : IntSS w4 A8 (N' - 1) (dropM i M') := hRS.intss q4
          replace hx := btr hx q4
          have hM8 : ∀ k, k < N' - 1 → (dropM i M').N k ≤ 1048576 := fun k hk => by
            by_cases e : k < i
            · simp only [dropM, catL, if_pos e]; exact hM' k (by omega)
            · simp only [dropM, catL, if_neg e, shM]; exact hM' _ (by omega)
          clear hC hRS p0 p1 al qd q4
          have hb4 := btr hbw hx
          replace c0 := carry hx c0
          replace c1 := carry hx c1
          replace hG2 := hG2.below hx
          have y4 := cell_lt c0
          have hFF := hF i A8 (N' - 1) c8 (dropM i M') w4 (btr q0 hb4) (by omega) (by omega) (by omega) I8
          rw [← lokB_drop hlk (show i < N' by omega)] at hFF
          have HT := hid htr
          have HL := hid hlk
          clear htr hlk hF
          rcases hlb : lokB n L m (N' - 1) (dropM i M') with _ | _ <;> rw [hlb] at hFF
          · go_wp2_with fail
            refine hFF.mono ?_
            rintro e w5 ⟨rfl, hq5⟩
            go_wp2
            go_roundw
            case rel => exact ⟨_, N', c', M', i, rfl, hc1, hc2, by go_num, by omega, hN', hG2.below hq5, hM', HL.out, by rw [← HT.out, trimM, stepM, if_neg (by rw [hlb]; decide)], btr hb4 hq5⟩
            case measure => simp [intOf]
          · go_wp2_with fail
            refine hFF.mono ?_
            rintro e w5 ⟨rfl, hq5⟩
            go_wp2
            go_roundw
            case rel => exact ⟨A8, N' - 1, c8, dropM i M', i, rfl, hc8, hc9, by go_num, by omega, by omega, I8.below hq5, hM8, hlb, by rw [← HT.out, trimM, stepM, if_pos hlb], btr hb4 hq5⟩
            case measure => simp [intOf]
end Go.Proofs.Ytjnngijilkdhbaa
