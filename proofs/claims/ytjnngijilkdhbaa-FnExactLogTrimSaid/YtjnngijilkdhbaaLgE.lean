/- LogTrim of the model. -/
import Derived.Test.YtjnngijilkdhbaaLgD
namespace Go.Proofs.Ytjnngijilkdhbaa
set_option linter.unusedVariables false
set_option linter.unusedSimpArgs false
open Go.RowKit
theorem RS.empty (w0 w : World) (base : Nat) (L : Lls) (h : base ≤ w.heap.size) : RS w0 (w.alloc (.cells #[] 38)) base (.slice (some ⟨w.heap.size, 0, none⟩) 0 0) 0 L :=
  ⟨[], own_empU w 38 _ h, fun k hk => by omega⟩
theorem RS.app0 {w0 W : World} {base c m : Nat} {v : Value} {A : Option Addr} {L M : Lls} (ty : TypeId) (h : RS w0 W base v 0 L) (hA : IntSS w0 A m M) (hb : Below w0.heap.size w0 W) (hm : m ≤ 100000) (hbase : base ≤ W.heap.size) :
    ∃ v' w', (Builtin.append_ #[22, 22] ty #[v, .slice A m c]).run Try.prog W = .ok v' w' ∧ RS w0 w' base v' m M ∧ W.grownBy w' v.ownBlock := by
  obtain ⟨v', w', h1, h2, h3⟩ := RS.app (c := c) ty h hA hb (by omega) hbase
  rw [Nat.zero_add] at h2
  exact ⟨v', w', h1, h2.congr (fun k hk => by simp [catL]) (fun k hk => by simp [catL]), h3⟩
set_option maxHeartbeats 16000000 in
set_option maxRecDepth 100000 in
theorem slogtrim_any (A : Option Addr) (n c : Nat) (L : Lls) (m : Int) (G : Option Addr) (N cG : Nat) (M : Lls) (w : World) (hn : n ≤ 9223372036854775807) (hN : N ≤ 9223372036854775807) (hcG : N ≤ cG ∧ cG ≤ 9223372036854775807) (hA : IntSS w A n L) (hG : IntSS w G N M) (hM : ∀ k, k < N → M.N k ≤ 1048576) :
    Calls Try.prog 18 #[.agg #[.int .i64 m, .slice A n c], .slice G N cG] w fun e w' => TrP w n L m N M e w' ∧ Below w.heap.size w w' := by
  have q0 := bal (Below.refl w.heap.size w) (.cells #[.int .i64 m, .slice A n c] 31)
  obtain ⟨c0, c1⟩ := pair_new w (.int .i64 m) (.slice A n c) 31
  have hK := fun W (h : Below w.heap.size w W) => slogok_any A n c L m G N cG M W hn hN (hA.below h) (hG.below h)
  have hE := fun W (h : Below w.heap.size w W) => slogends_any G N cG M W hN (hG.below h)
  have hF := fun (G' : Option Addr) (N' c' : Nat) (M' : Lls) W (h : Below w.heap.size w W) (h2 : N' ≤ 1000) (hG' : IntSS W G' N' M') => slogok_any A n c L m G' N' c' M' W hn (by omega) (hA.below h) hG'
  have hlk : lokB n L m N M = true → n ≤ 400 ∧ N ≤ 130 := fun h => ⟨by have := (lokB_parts h).2.2.1; omega, (lokB_parts h).2.1⟩
  go_enter Try.func18, Try.ntmps18
  go_upto_region 1 with fail
  generalize w.alloc (.cells #[.int .i64 m, .slice A n c] 31) = w1 at *
  have y0 := cell_lt c0
  rcases hb : lokB n L m N M with _ | _ <;> rw [hb] at hK
  · go_wp2_with fail
    refine (hK w1 q0).mono ?_
    rintro e w2 ⟨rfl, hq⟩
    go_wp2
    go_ret2
    exact ⟨⟨_, by rw [hb]; rfl, by rw [show trimS n L m N M = (0, M) by simp [trimS, hb]]; exact RN.empty _ _ _ (btr q0 hq).size⟩, bal (btr q0 hq) _⟩
  · obtain ⟨hn4, hN1⟩ := hlk hb
    rcases hle : leB N M with _ | _ <;> rw [hle] at hE
    · go_wp2_with fail
      refine (hK w1 q0).mono ?_
      rintro e w2 ⟨rfl, hq⟩
      go_wp2_with fail
      refine (hE w2 (btr q0 hq)).mono ?_
      rintro e w3 ⟨rfl, rfl⟩
      go_wp2
      go_ret2
      exact ⟨⟨_, by rw [hb, hle]; rfl, by rw [show trimS n L m N M = (0, M) by simp [trimS, hle]]; exact RN.empty _ _ _ (btr q0 hq).size⟩, bal (btr q0 hq) _⟩
    · go_wp2_with fail
      refine (hK w1 q0).mono ?_
      rintro e w2 ⟨rfl, hq⟩
      replace q0 := btr q0 hq
      replace c0 := carry hq c0
      replace c1 := carry hq c1
      go_wp2_with fail
      refine (hE w2 q0).mono ?_
      rintro e w3 ⟨rfl, rfl⟩
      have hN0 : 0 < N := by simp [leB] at hle; omega
      have HG0 := hid (hG.below q0)
      clear hK hE hlk hG
      have al3 := bal (Below.refl w2.heap.size w2) (.cells #[] 38)
      obtain ⟨v3, w3, hr3, hRS3, hg3⟩ := RS.app0 (c := cG) 22 (W := w2.alloc (.cells #[] 38)) (base := w2.heap.size) (RS.empty w2 w2 w2.heap.size M (Nat.le_refl _)) HG0.out al3 (by omega) al3.size
      have hq3 : Below w2.heap.size w2 w3 := al3.grown hg3 al3.size (fun r e => by cases e; exact Nat.le_refl _)
      obtain ⟨A3, c3, rfl, hc31, hc32⟩ := hRS3.slice2
      have I3 := hRS3.intss hq3
      replace q0 := btr q0 hq3
      replace c0 := carry hq3 c0
      replace c1 := carry hq3 c1
      clear hRS3 hg3 hq3 al3
      go_wp2_with (at_builtin; refine Lib.wpList_append_run _ rfl _ _ _ _ rfl _ _ rfl rfl _ _ hr3 ?_)
      clear hr3
      go_loopw [6, 7] (fun v i wr => ∃ (A' : Option Addr) (N' c' : Nat) (M' : Lls) (j : Nat), v = .slice A' N' c' ∧ N' ≤ c' ∧ c' ≤ 9223372036854775807 ∧ i = .int .i64 ((j : Int) - 1) ∧ j + 1 ≤ N' ∧ N' ≤ 130 ∧ IntSS wr A' N' M' ∧ (∀ k, k < N' → M'.N k ≤ 1048576) ∧ lokB n L m N' M' = true ∧ trimM n L m j (N', M') = trimM n L m (N - 1) (N, M) ∧ Below w3.heap.size w3 wr) (fun _ i _ => (intOf i + 1).toNat)
      case atStart => exact ⟨A3, N, c3, M, N - 1, rfl, hc31, hc32, (by congr 1; omega), by omega, by omega, I3, hM, hb, rfl, Below.refl _ _⟩
      case round =>
        obtain ⟨A', N', c', M', j, rfl, hc1, hc2, rfl, hj, hN', hG', hM', hlk, htr, hbw⟩ := hrel
        replace c0 := carry hbw c0
        replace c1 := carry hbw c1
        have y1 := cell_lt c0
        cases j with
        | zero =>
          have hq5 := btr q0 hbw
          have HT : Hid (trimS n L m N M = (N', M')) := hid (by rw [trimS, if_pos (by rw [hb, hle]; rfl), ← htr]; rfl)
          have hb2 : (lokB n L m N M && leB N M) = true := by rw [hb, hle]; rfl
          clear htr hlk hF c0 c1 y1
          have hw5 := hq5.size
          have hcp := scopy11_any A' N' c' M' w wr hw5 (by omega) hG' hM'
          go_wp2_with fail
          refine hcp.mono ?_
          rintro e w6 ⟨⟨v6, rfl, hR6⟩, hq6⟩
          go_wp2
          go_ret2
          exact ⟨⟨_, by rw [hb2]; rfl, by rw [HT.out]; exact hR6⟩, btr hq5 hq6⟩
        | succ i =>
          rw [show ((i + 1 : Nat) : Int) - 1 = (i : Int) by omega]
          rcases hG' with h0 | ⟨g, off, rfl, hg, hc⟩
          · omega
          have hG2 : IntSS wr (some ⟨g, off, none⟩) N' M' := .inr ⟨g, off, rfl, hg, hc⟩
          clear hc
          go_upto_region 7 with fail
          have qd := (Below.refl wr.heap.size wr).drew
          refine region_planC (fun _ => True) (.takes [1, 2, 3, 5, 6, 7, 8] (.make 0 (.make 4 (.make 9 .fin)))) 10 rfl (by kernel_rfl) trivial ?_
          refine plan_takes ?_; simp only [pickOps, List.getElem?_cons_zero, List.getElem?_cons_succ]
          refine quiet_doC rfl (.slice (some ⟨g, off, none⟩) N' c') (fun W hW => by simp [execOp, go_sem]) ?_
          refine quiet_doC rfl (.int .i64 (i : Int)) (fun W hW => by simp [execOp, go_sem]) ?_
          refine quiet_doC rfl (.slice (some ⟨g, off, none⟩) i c') (fun W hW => by simp [execOp, go_sem]; intro h; omega) ?_
          refine quiet_doC rfl (.slice (some ⟨g, off, none⟩) N' c') (fun W hW => by simp [execOp, go_sem]) ?_
          refine quiet_doC rfl (.int .i64 (i : Int)) (fun W hW => by simp [execOp, go_sem]) ?_
          refine quiet_doC rfl (.int .i64 ((i : Int) + 1)) (fun W hW => by simp [execOp, go_sem]; rw [IntKind.wrap_i64]; omega) ?_
          refine quiet_doC rfl (.slice (some ⟨g, off + (i + 1), none⟩) (N' - (i + 1)) (c' - (i + 1))) (fun W hW => by simp [execOp, go_sem]; rw [if_pos (by omega), if_neg (by omega)]) ?_
          refine wpQuiet_nil ?_
          simp only [Act.put, List.setIfInBounds_toArray, List.set_cons_succ, List.set_cons_zero]
          generalize wr.drew = x0 at *
          have al := bal (Below.refl x0.heap.size x0) (.cells #[] 38)
          have hx1 := btr qd al
          obtain ⟨v4, w4, hr4, hRS4, hg4⟩ := RS.app0 (c := c') 22 (RS.empty wr x0 wr.heap.size (dropM i M') qd.size) (hG2.pre (k := i) (by omega)) hx1 (by omega) hx1.size
          have hx4 : Below wr.heap.size wr w4 := hx1.grown hg4 hx1.size (fun r e => by cases e; exact qd.size)
          obtain ⟨v5, w5, hr5, hRS5, hg5⟩ := RS.app (c := c' - (i + 1)) 22 hRS4 (hG2.drop (i := i + 1) (by omega)) hx4 (by omega) hx4.size
          have hx5 : Below wr.heap.size wr w5 := hx4.grown hg5 hx4.size hRS4.ge
          rw [show i + (N' - (i + 1)) = N' - 1 by omega] at hRS5
          refine planC_val rfl rfl (.slice (some ⟨x0.heap.size, 0, none⟩) 0 0) (w'' := x0.alloc (.cells #[] 38)) (by simp [execOp, go_sem]) trivial ?_
          simp only [Act.put, List.setIfInBounds_toArray, List.set_cons_succ, List.set_cons_zero]
          refine planC_val rfl rfl v4 (w'' := w4) (exec_append_run rfl rfl rfl hr4) trivial ?_
          simp only [Act.put, List.setIfInBounds_toArray, List.set_cons_succ, List.set_cons_zero]
          refine planC_val rfl rfl v5 (w'' := w5) (exec_append_run rfl rfl rfl hr5) trivial ?_
          simp only [Act.put, List.setIfInBounds_toArray, List.set_cons_succ, List.set_cons_zero]
          obtain ⟨A8, c8, rfl, hc8, hc9⟩ := hRS5.slice2
          have I8 : IntSS w5 A8 (N' - 1) (dropM i M') := hRS5.intss hx5
          have hx := hx5
          clear hr4 hRS4 hg4 hx4 hr5 hRS5 hg5 hx5 hx1 al qd
          generalize w5 = w4' at *
          refine plan_fin ?_
          simp only [List.drop_succ_cons, List.drop_zero, Act.put, List.setIfInBounds_toArray, List.set_cons_succ, List.set_cons_zero]
          have hM8 : ∀ k, k < N' - 1 → (dropM i M').N k ≤ 1048576 := fun k hk => by
            by_cases e : k < i
            · simp only [dropM, catL, if_pos e]; exact hM' k (by omega)
            · simp only [dropM, catL, if_neg e, shM]; exact hM' _ (by omega)
          have hb4 := btr hbw hx
          replace c0 := carry hx c0
          replace c1 := carry hx c1
          replace hG2 := hG2.below hx
          have y4 := cell_lt c0
          have hFF := hF A8 (N' - 1) c8 (dropM i M') w4' (btr q0 hb4) (by omega) I8
          have HT := hid htr
          have HL := hid hlk
          clear htr hlk hF
          rcases hlb : lokB n L m (N' - 1) (dropM i M') with _ | _ <;> rw [hlb] at hFF
          · go_wp2_with fail
            refine hFF.mono ?_
            rintro e w5 ⟨rfl, hq5⟩
            go_wp2
            go_roundw
            case rel => exact ⟨_, N', c', M', i, rfl, hc1, hc2, by go_num, by omega, hN', hG2.below hq5, hM', HL.out, by rw [← HT.out, trimM, stepM, if_neg (by rw [hlb]; decide)], btr hb4 hq5⟩
            case measure => simp [intOf]
          · go_wp2_with fail
            refine hFF.mono ?_
            rintro e w5 ⟨rfl, hq5⟩
            go_wp2
            go_roundw
            case rel => exact ⟨A8, N' - 1, c8, dropM i M', i, rfl, hc8, hc9, by go_num, by omega, by omega, I8.below hq5, hM8, hlb, by rw [← HT.out, trimM, stepM, if_pos hlb], btr hb4 hq5⟩
            case measure => simp [intOf]
end Go.Proofs.Ytjnngijilkdhbaa
