/- Walk of FnCnfSame. -/
import Derived.Test.YtoechhdahokoiaaDgB
import Derived.Test.YtoechhdahokoiaaCeA
import Derived.Deep.Slices
namespace Go.Proofs.Ytoechhdahokoiaa
set_option linter.unusedVariables false
set_option linter.unusedSimpArgs false
open Go.RowKit
def flatS (n : Nat) (L : Lls) (LA : Nat → Option Addr) (LC : Nat → Nat) : List Value := (List.range n).map fun k => Value.slice (LA k) (L.N k) (LC k)
theorem flatS_at {n k : Nat} {L : Lls} {LA : Nat → Option Addr} {LC : Nat → Nat} (h : k < n) : (flatS n L LA LC)[k]? = some (.slice (LA k) (L.N k) (LC k)) := by
  unfold flatS; rw [List.getElem?_map, List.getElem?_range h]; rfl
theorem flatS_len (n : Nat) (L : Lls) (LA : Nat → Option Addr) (LC : Nat → Nat) : (flatS n L LA LC).length = n := by unfold flatS; rw [List.length_map, List.length_range]
/-- a list copied behind an empty row -/
theorem run_copySS {w0 w : World} {g2 c n : Nat} {A : Option Addr} {L : Lls} (ty : TypeId) (hI : IntSS w0 A n L) (hb0 : Below w0.heap.size w0 w) (hn : n ≤ 100) (hE : w.ownsRow g2 32 1 (.slice (some ⟨g2, 0, none⟩) 0 0) 0 []) (hb : g2 ≤ w.heap.size) :
    ∃ v' w' LA LC, (Builtin.append_ #[23, 23] ty #[.slice (some ⟨g2, 0, none⟩) 0 0, .slice A n c]).run Try.prog w = .ok v' w' ∧ w'.ownsRow g2 32 1 v' n (flatS n L LA LC) ∧ Below w.heap.size w w' ∧ (∀ k, k < n → L.N k ≤ 9223372036854775807 ∧ Ints w0 (LA k) (L.N k) (L.Z k)) := by
  obtain ⟨i0, hi, hz0, hz1, hz2⟩ := info_parts infoIS
  by_cases h0 : n = 0
  · subst h0
    have hr2 : (Builtin.append_ #[23, 23] ty #[.slice (some ⟨g2, 0, none⟩) 0 0, .slice A 0 c]).run Try.prog w = .ok (.slice (some ⟨g2, 0, none⟩) 0 0) w := by
      cases A with
      | none => simp [Builtin.append_, run_underlying Try.underlying23, sizeOf, typeInfo, hi, Builtin.lenOf, Builtin.firstCells, storeCells]
      | some a =>
        have hf := run_firstCells_some (P := Try.prog) w i0.size 0 a 0 c [] (by simp) (fun j v h => by simp at h)
        simp [Builtin.append_, run_underlying Try.underlying23, sizeOf, typeInfo, hi, Builtin.lenOf, hf, storeCells]
    exact ⟨_, w, fun _ => none, fun _ => 0, hr2, hE, Below.refl _ _, fun k hk => by omega⟩
  · rcases hI with h | ⟨ga, off, rfl, hg, hc⟩
    · exact absurd h h0
    obtain ⟨q, hq⟩ := Go.Deep.choose_lt (p := fun k (q : Option Addr × Nat) => w0.cell? ⟨ga, off + k, none⟩ = some (.slice q.1 (L.N k) q.2) ∧ L.N k ≤ 9223372036854775807 ∧ Ints w0 q.1 (L.N k) (L.Z k)) (fun k hk => by
      obtain ⟨a, cc, h⟩ := hc k hk
      exact ⟨(a, cc), h⟩)
    have hnews : ∀ j u, (flatS n L (fun k => (q k).1) (fun k => (q k).2))[j]? = some u → w.cell? ((⟨ga, off, none⟩ : Addr).add j) = some u := fun j u hj => by
      have hjl : j < n := by have := (List.getElem?_eq_some_iff.1 hj).1; rw [flatS_len] at this; exact this
      rw [flatS_at hjl] at hj
      rw [← Option.some.inj hj, show (⟨ga, off, none⟩ : Addr).add j = ⟨ga, off + j, none⟩ by unfold Addr.add; split <;> simp_all]
      exact carry hb0 (hq j hjl).1
    obtain ⟨v', w', hr, h2, h3, h4⟩ := run_append_freshU (P := Try.prog) w g2 23 ty 32 i0 (.slice none 0 0) 1 24 Try.underlying23 hi hz0 hz1 hz2 rfl (by decide) (.slice (some ⟨g2, 0, none⟩) 0 0) 0 [] hE ⟨ga, off, none⟩ n c (flatS n L (fun k => (q k).1) (fun k => (q k).2)) (by rw [flatS_len]; omega) hnews (fun u hu => by unfold flatS at hu; obtain ⟨z, _, rfl⟩ := List.mem_map.1 hu; rfl) (by unfold maxLen; omega) (by omega) hb
    rw [Nat.zero_add, List.nil_append] at h2
    have hr2 := run_append_grow (P := Try.prog) w 23 ty 32 i0 (.slice none 0 0) Try.underlying23 hi hz0 ⟨g2, 0, none⟩ 0 0 [] (by simp) (fun j v h => by simp at h) ⟨ga, off, none⟩ n c (flatS n L (fun k => (q k).1) (fun k => (q k).2)) (by rw [flatS_len]; simp [hz1]) hnews (by omega) (by omega) (by rw [Nat.zero_add, nextslicecap_zero (by omega), hz2]; omega)
    refine ⟨v', w', _, _, hr, h2, ?_, fun k hk => (hq k hk).2⟩
    rw [hr] at hr2
    injection hr2 with _ e
    rw [e]
    exact bal (Below.refl w.heap.size w).drew _
theorem wpList_appR {P : Program} {w w' : World} {a : Act} {ops : Array Oper} {rest : List Oper} {o : Oper} {Q : Exit → Act → World → Prop} (hgd : o.guard = none) (s x : Operand) (t : TypeId)
    (ho : o.op = .call { callee := .builtin .append, args := #[s, x], argTypes := #[t, t] }) (v1 v2 v : Value) (hs : a.eval s = v1) (hx : a.eval x = v2) (hr : (Builtin.append_ #[t, t] o.type #[v1, v2]).run P w = .ok v w')
    (h : wpList P ops Q rest (a.put o.dst v) w') : wpList P ops Q (o :: rest) a w := by
  refine wpList_plain hgd fun K hK => ?_
  unfold Oper.wp
  have e1 : (execOp a.eval o).run P w = .ok (.value v) w' := by
    unfold execOp
    simp only [ho, resolve, invoke, builtin, Sem.run_bind, Sem.run_pure, Result.andThen_ok, List.map_toArray, List.map_cons, List.map_nil, hs, hx, hr]
  simp only [e1]
  exact hK _ _ h
theorem eqI_symC (n m : Nat) (Z Y : Nat → Int) : eqI m Y n Z = eqI n Z m Y := by
  rw [Bool.eq_iff_iff, eqI_iff, eqI_iff]
  constructor
  · rintro ⟨rfl, h⟩; exact ⟨rfl, fun k hk => (h k hk).symm⟩
  · rintro ⟨rfl, h⟩; exact ⟨rfl, fun k hk => (h k hk).symm⟩
theorem csB_self (n : Nat) (L : Lls) (m : Int) : csB n L m n L m = true := csB_iff.2 ⟨rfl, rfl, fun k _ => eqI_self _ _⟩
theorem csB_symm (n n' : Nat) (L L' : Lls) (m m' : Int) : csB n' L' m' n L m = csB n L m n' L' m' := by
  rw [Bool.eq_iff_iff, csB_iff, csB_iff]
  constructor
  · rintro ⟨rfl, rfl, h⟩; exact ⟨rfl, rfl, fun k hk => by rw [eqI_symC]; exact h k hk⟩
  · rintro ⟨rfl, rfl, h⟩; exact ⟨rfl, rfl, fun k hk => by rw [eqI_symC]; exact h k hk⟩
theorem csB_more (n : Nat) (L L' : Lls) (m m' : Int) : csB n L m (n + 1) L' m' = false := csB_no (fun h => by have := h.2.1; omega)
theorem cs_at {A A' : Option Addr} {n c n' c' : Nat} {L L' : Lls} {m m' : Int} {w : World} (hn : n ≤ 100) (hn' : n' ≤ 100) (hA : IntSS w A n L) (hA' : IntSS w A' n' L') {v : Bool} (h : csB n L m n' L' m' = v) (W : World) (hb : Below w.heap.size w W) :
    Calls Try.prog 16 #[.agg #[.int .i64 m, .slice A n c], .agg #[.int .i64 m', .slice A' n' c']] W fun e w' => e = .returned (.bool v) ∧ Below W.heap.size W w' := by
  subst h; exact cnfsame_any A A' n c n' c' L L' m m' W (by omega) (by omega) (hA.below hb) (hA'.below hb)
theorem scs_at {A A' : Option Addr} {n c n' c' : Nat} {L L' : Lls} {m m' : Int} {w : World} (hn : n ≤ 100) (hn' : n' ≤ 100) (hA : IntSS w A n L) (hA' : IntSS w A' n' L') {v : Bool} (h : csB n L m n' L' m' = v) (W : World) (hb : Below w.heap.size w W) :
    Calls Try.prog 17 #[.agg #[.int .i64 m, .slice A n c], .agg #[.int .i64 m', .slice A' n' c']] W fun e w' => e = .returned (.bool v) ∧ Below W.heap.size W w' := by
  subst h; exact scnfsame_any A A' n c n' c' L L' m m' W (by omega) (by omega) (hA.below hb) (hA'.below hb)
/-- a list with an empty clause behind it -/
def llMore (n : Nat) (L : Lls) : Lls := ⟨fun k => if k < n then L.N k else 0, fun k => if k < n then L.Z k else fun _ => 0⟩
theorem own_empC (w : World) (t : TypeId) (base : Nat) (h : base ≤ w.heap.size) : (w.alloc (.cells #[] t)).ownsRow base t 1 (.slice (some ⟨w.heap.size, 0, none⟩) 0 0) 0 [] :=
  ⟨by simp, .inr ⟨w.heap.size, 0, #[], rfl, h, Deep.blk_alloc_new _ _, Nat.le_refl _, by unfold maxLen; omega, by simp, by simp⟩⟩
theorem more_ss {w w10 : World} {base n c b5 : Nat} {v : Value} {a10 : Option Addr} {ae : Option Addr} {L : Lls} {LA : Nat → Option Addr} {LC : Nat → Nat} (h : w10.ownsRow base 32 1 (.slice a10 (n + 1) c) (n + 1) (flatS n L LA LC ++ [.slice ae 0 0]))
    (hx : ∀ k, k < n → L.N k ≤ 9223372036854775807 ∧ Ints w (LA k) (L.N k) (L.Z k)) (hb : Below w.heap.size w (w10.setCell ⟨b5, 1, none⟩ v)) (hlt : b5 < base) : IntSS (w10.setCell ⟨b5, 1, none⟩ v) a10 (n + 1) (llMore n L) := by
  rcases h.2 with ⟨_, h0⟩ | ⟨g, cap, cur, e, hgb, hh, _⟩
  · omega
  injection e with e1 _ e3
  subst e1 e3
  refine .inr ⟨g, 0, rfl, by rw [World.size_setCell]; exact (Array.getElem?_eq_some_iff.1 hh).1, fun k hk => ?_⟩
  rw [Nat.zero_add, World.cell?_setCell_other _ _ _ _ (by simp <;> omega), h.cellAt k (by omega)]
  by_cases hkn : k < n
  · rw [List.getElem?_append_left (by rw [flatS_len]; exact hkn), flatS_at hkn]
    simp only [llMore, if_pos hkn]
    exact ⟨_, _, rfl, (hx k hkn).1, (hx k hkn).2.below hb⟩
  · have e2 : k = n := by omega
    subst e2
    rw [List.getElem?_append_right (by rw [flatS_len]; exact Nat.le_refl _), flatS_len, Nat.sub_self]
    simp only [llMore, if_neg hkn]
    exact ⟨ae, 0, rfl, Nat.zero_le _, .inl rfl⟩
set_option maxRecDepth 100000 in
set_option maxHeartbeats 16000000 in
theorem walk_CnfSame (a0 : Option Addr) (len0 cap0 : Nat) (w : World) (hby : Bytes w.heap.size w a0 len0) (hlc : len0 ≤ cap0) (hc : cap0 ≤ 9223372036854775807) :
    Calls Try.prog 4 #[.slice a0 len0 cap0] w fun e w' => e = .returned (.bool true) ∧ Below w.heap.size w w' := by
  by_cases hbig : 1048576 < len0
  · go_enter Try.func4, Try.ntmps4
    go_wp2
    go_ret
    exact ⟨rfl, Below.refl _ _⟩
  go_enter Try.func4, Try.ntmps4
  go_wp2_with fail
  refine (drawcnfsame_any w.heap.size w a0 len0 cap0 (Nat.le_refl _) hby hlc hc).mono ?_
  rintro e w1 ⟨m, A, c, ds, m', A', c', ds', rfl, hn, hn', I1, hAN, I2, hBN, q0⟩
  generalize llsC ds = L at *
  generalize ds.length = n at *
  generalize llsC ds' = L' at *
  generalize ds'.length = n' at *
  have al := bal (bal (Below.refl w1.heap.size w1) (.cells #[.int .i64 m, .slice A n c] 25)) (.cells #[.int .i64 m', .slice A' n' c'] 25)
  have H : KcL [(w1.heap.size, 0, .int .i64 m), (w1.heap.size, 1, .slice A n c), (w1.heap.size + 1, 0, .int .i64 m'), (w1.heap.size + 1, 1, .slice A' n' c')] ((w1.alloc (.cells #[.int .i64 m, .slice A n c] 25)).alloc (.cells #[.int .i64 m', .slice A' n' c'] 25)) := ⟨by simp [go_sem], by simp [go_sem], by simp [go_sem], by simp [go_sem], trivial⟩
  replace q0 := btr q0 al
  replace I1 := I1.below al
  replace I2 := I2.below al
  clear al hbig hby hlc hc hAN hBN
  go_upto_region 4 with fail
  generalize (w1.alloc (.cells #[.int .i64 m, .slice A n c] 25)).alloc (.cells #[.int .i64 m', .slice A' n' c'] 25) = w3 at *
  have hsy := csB_symm n n' L L' m m'
  have HH := H; obtain ⟨c0, c1, d0, d1, _⟩ := HH
  simp only at c0 c1 d0 d1
  have y0 := cell_lt c0
  have y1 := cell_lt d0
  have gc := @gro_cell w3
  have s4 := fun X : Gro w3 => cs_at (c := c) (c' := c) (by omega) (by omega) I1 I1 (csB_self n L m) (gro w3 X) X.h
  rcases hv : csB n L m n' L' m' with _ | _ <;> rw [hv] at hsy
  all_goals
    have s1 := fun X : Gro w3 => cs_at (c := c) (c' := c') (by omega) (by omega) I1 I2 hv (gro w3 X) X.h
    have s2' := fun X : Gro w3 => scs_at (c := c) (c' := c') (by omega) (by omega) I1 I2 hv (gro w3 X) X.h
    have s3 := fun X : Gro w3 => cs_at (c := c') (c' := c) (by omega) (by omega) I2 I1 hsy (gro w3 X) X.h
    refine wp_region_grow_lit (by kernel_rfl) (by kernel_rfl) ?_
    repeat (go_big_quiet_step ((first | (go_at_call 16; first | with_reducible exact grow_call _ (s1 _) | with_reducible exact grow_call _ (s3 _) | with_reducible exact grow_call _ (s4 _)) | (go_at_call 17; with_reducible exact grow_call _ (s2' _)))))
    refine wpQuiet_nil ?_
    rintro _ ⟨X, rfl⟩
    have hX : Below w3.heap.size w3 (gro w3 X) := X.h
    clear s1 s2' s3 s4 gc c0 d0 c1 d1 y0 y1 hv hsy I2
    replace H := H.below hX
    replace I1 := I1.below hX
    replace q0 := btr q0 hX
    generalize gro w3 X = w4 at *
    clear hX
    obtain ⟨x0, x1, _⟩ := H
    simp only at x0 x1
    have l0 := cell_lt x0
    have b5 := bal (Below.refl w4.heap.size w4) (.cells #[.int .i64 m, .slice A n c] 25)
    have z5 : (w4.alloc (.cells #[.int .i64 m, .slice A n c] 25)).heap.size = w4.heap.size + 1 := World.size_alloc _ _
    have R5 := row2_newC w4 (.int .i64 m) (.slice A n c) 25
    obtain ⟨w5, hw5⟩ : ∃ w5, w5 = w4.alloc (.cells #[.int .i64 m, .slice A n c] 25) := ⟨_, rfl⟩
    rw [← hw5] at b5 z5 R5
    have b6 := bal (Below.refl w5.heap.size w5) (.cells #[] 32)
    have hE6 := own_empC w5 32 w5.heap.size (Nat.le_refl _)
    obtain ⟨w6, hw6⟩ : ∃ w6, w6 = w5.alloc (.cells #[] 32) := ⟨_, rfl⟩
    rw [← hw6] at b6 hE6
    obtain ⟨v7, w7, LA, LC, hr1, hown7, q7, hx7⟩ := run_copySS (c := c) 23 I1 (btr b5 b6) (by omega) hE6 b6.size
    obtain ⟨a7, c7, rfl⟩ := own_sliceU9 hown7
    have b8 := bal (bal (Below.refl w7.heap.size w7) (.cells #[] 3)) (.cells #[.slice (some ⟨w7.heap.size, 0, none⟩) 0 0] 32)
    have nw := news_oneC (w7.alloc (.cells #[] 3)) (.slice (some ⟨w7.heap.size, 0, none⟩) 0 0) 32
    have z8 : (w7.alloc (.cells #[] 3)).heap.size = w7.heap.size + 1 := World.size_alloc _ _
    have hown9 := (hown7.alloc (.cells #[] 3)).alloc (.cells #[.slice (some ⟨w7.heap.size, 0, none⟩) 0 0] 32)
    obtain ⟨w9, hw9⟩ : ∃ w9, w9 = (w7.alloc (.cells #[] 3)).alloc (.cells #[.slice (some ⟨w7.heap.size, 0, none⟩) 0 0] 32) := ⟨_, rfl⟩
    rw [← hw9] at b8 nw hown9
    rw [z8] at nw
    obtain ⟨i0, hi, hz0, hz1, hz2⟩ := info_parts infoIS
    have s76 := q7.size
    have s65 := b6.size
    have s97 := b8.size
    obtain ⟨v10, w10, hr2, hown10, hg10, _⟩ := run_append_freshU (P := Try.prog) w9 w5.heap.size 23 23 32 i0 (.slice none 0 0) 1 24 Try.underlying23 hi hz0 hz1 hz2 rfl (by decide) (.slice a7 n c7) n _ hown9 ⟨w7.heap.size + 1, 0, none⟩ 1 1 [.slice (some ⟨w7.heap.size, 0, none⟩) 0 0] (by simp) nw (fun u hu => by simp at hu; subst hu; rfl) (by unfold maxLen; omega) (by omega) (by omega)
    obtain ⟨a10, c10, rfl⟩ := own_sliceU9 hown10
    have q95 : Below w5.heap.size w5 w9 := btr (btr b6 q7) b8
    have q10 : Below w5.heap.size w5 w10 := q95.grown hg10 q95.size (fun r hr => (hown9.lt r hr).1)
    have R10 := R5.of_block (q10.block _ R5.lt)
    have q11 : Below w4.heap.size w4 (w10.setCell ⟨w4.heap.size, 1, none⟩ (.slice a10 (n + 1) c10)) := (btr b5 q10).setCell (by simp) _
    have IX := more_ss hown10 hx7 q11 (by omega)
    have IA := I1.below q11
    have R11 := R10.set 1 (.slice a10 (n + 1) c10)
    have x05 := carry b5 x0
    have x15 := carry b5 x1
    have x06 := carry (btr b5 b6) x0
    have x16 := carry (btr b5 b6) x1
    have r0 : w10.cell? ⟨w4.heap.size, 0, none⟩ = some (.int .i64 m) := R10.cell (by decide)
    have r1 : w10.cell? ⟨w4.heap.size, 1, none⟩ = some (.slice A n c) := R10.cell (by decide)
    have lr := cell_lt r0
    have fz := R10.frozen 1
    have u0 := carry q11 x0
    have u1 := carry q11 x1
    have u2 : (w10.setCell ⟨w4.heap.size, 1, none⟩ (.slice a10 (n + 1) c10)).cell? ⟨w4.heap.size, 0, none⟩ = some (.int .i64 m) := R11.cell (by decide)
    have u3 : (w10.setCell ⟨w4.heap.size, 1, none⟩ (.slice a10 (n + 1) c10)).cell? ⟨w4.heap.size, 1, none⟩ = some (.slice a10 (n + 1) c10) := R11.cell (by decide)
    replace q0 := btr q0 q11
    subst hw6 hw9
    clear R11 R10 R5 hE6 hown7 hown9 hown10 hg10 nw hx7 q95 q10 b6 q7 b8 s76 s65 s97 i0 hi hz0 hz1 hz2
    go_upto_region 7 with fail
    rw [← hw5]
    clear hw5 z5 b5
    go_upto_region 8 with (first | (at_builtin; refine wpList_appR rfl _ _ 23 rfl (.slice (some ⟨w5.heap.size, 0, none⟩) 0 0) (.slice A n c) (.slice a7 n c7) rfl rfl hr1 ?_) | (at_builtin; refine wpList_appR rfl _ _ 23 rfl (.slice a7 n c7) (.slice (some ⟨w7.heap.size + 1, 0, none⟩) 1 1) (.slice a10 (n + 1) c10) rfl rfl hr2 ?_))
    generalize w10.setCell ⟨w4.heap.size, 1, none⟩ (.slice a10 (n + 1) c10) = w11 at *
    clear hr1 hr2 x05 x15 x06 x16 r0 r1
    go_wp2_with fail
    refine (cs_at (by omega) (by omega) IA IX (csB_more n L _ m m) _ (Below.refl _ _)).mono ?_
    rintro e w12 ⟨rfl, hq⟩
    go_wp2
    go_ret
    exact ⟨rfl, btr q0 hq⟩
end Go.Proofs.Ytoechhdahokoiaa
