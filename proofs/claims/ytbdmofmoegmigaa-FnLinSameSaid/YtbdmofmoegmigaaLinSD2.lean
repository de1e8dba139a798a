/- Contract of DrawLinSame: two constraints, one or nearly. -/
import Derived.Test.YtbdmofmoegmigaaLinDD
namespace Go.Proofs.Ytbdmofmoegmigaa
set_option linter.unusedVariables false
set_option linter.unusedSimpArgs false
open Go.RowKit
section
variable {P : Program} {ops : Array Oper} {l : List Oper} {K : Act → World → Prop} {a : Act} {w W : World} {m : Nat} {k : Pl} {om : Oper}
theorem plan_append (hl : l[m]? = some om) (hg : om.guard = none) (s x : Operand) (t : TypeId) (ho : om.op = .call { callee := .builtin .append, args := #[s, x], argTypes := #[t, t] })
    (base : Nat) (e : TypeId) (i : TypeInfo) (z : Value) (size bytes : Nat) (ht : P.underlying t = some (.slice e)) (hi : P.info? e = some i) (hz : i.zero = some z)
    (hsize : i.size = size) (hby : i.bytes = bytes) (hzs : z.cells.size = size) (hsz : 0 < size)
    (v : Value) (n : Nat) (xs : List Value) (hs : a.eval s = v) (hown : w.ownsRow base e size v n xs)
    (ad : Addr) (mm c : Nat) (news : List Value) (hx : a.eval x = .slice (some ad) mm c) (hll : news.length = mm * size) (hnews : ∀ j u, news[j]? = some u → w.cell? (ad.add j) = some u) (h1 : ∀ u ∈ news, u.oneCell' = true)
    (h63 : n + mm ≤ maxLen) (hbytes : (n + mm) * bytes ≤ 140737488355328) (hbase : base ≤ w.heap.size) (hB : Below W.heap.size W w) (hbW : W.heap.size ≤ base)
    (hk : ∀ v' w', w'.ownsRow base e size v' (n + mm) (xs ++ news) → w.grownBy w' v.ownBlock → Below W.heap.size W w' → ObPl P ops (fun w' => ∃ X, w' = gro W X) l K k (a.put om.dst v') w') : ObPl P ops (fun w' => ∃ X, w' = gro W X) l K (.make m k) a w := by
  obtain ⟨v', w', hr, h2, h3, h4⟩ := run_append_own (P := P) w base t om.type e i z size bytes ht hi hz hsize hby hzs hsz v n xs hown ad mm c news hll hnews h1 h63 hbytes hbase
  have hB' : Below W.heap.size W w' := by
    refine hB.grown h3 hB.size (fun r hr => ?_)
    have := (hown.lt r hr).1
    omega
  refine ⟨om, hl, .inl ⟨wanted_none hg, ?_⟩⟩
  have e1 : (execOp a.eval om).run P w = .ok (.value v') w' := by
    unfold execOp
    simp only [ho, resolve, invoke, builtin, Sem.run_bind, Sem.run_pure, Result.andThen_ok, List.map_toArray, List.map_cons, List.map_nil, hs, hx, hr]
  rw [e1]
  exact ⟨⟨⟨w', hB'⟩, rfl⟩, hk v' w' h2 h3 hB'⟩
end
theorem own_empty1 (w : World) (t : TypeId) (size : Nat) : (w.alloc (.cells #[] t)).ownsRow w.heap.size t size (.slice (some ⟨w.heap.size, 0, none⟩) 0 0) 0 [] :=
  ⟨by simp, .inr ⟨w.heap.size, 0, #[], rfl, Nat.le_refl _, Deep.blk_alloc_new _ _, Nat.le_refl _, by unfold maxLen; omega, by simp, by simp⟩⟩
theorem fr_new (W : World) (x : Array Value) (t : TypeId) (o : Nat) : (W.alloc (.cells x t)).frozen? ⟨W.heap.size, o, none⟩ = false := by simp [go_sem]
theorem NewRow.grow' {lo : Nat} {w w' : World} {h off n : Nat} {Z : Nat → Int} {p : Nat} (x : NewRow lo w (some ⟨h, off, none⟩) n Z) (hg : w.grownBy w' (some p)) (hp : h ≠ p) : NewRow lo w' (some ⟨h, off, none⟩) n Z := by
  rcases x with x | ⟨h', off', e, h1, h2, hc⟩
  · exact .inl x
  · simp only [Option.some.injEq, Addr.mk.injEq, and_true] at e
    obtain ⟨rfl, rfl⟩ := e
    exact .inr ⟨h, off, rfl, h1, Nat.lt_of_lt_of_le h2 hg.size, fun k hk => hg.cell (hc k hk) (by simp; exact hp)⟩
/-- two drawn constraints -/
def SameD (w : World) (e : Ending) (w' : World) : Prop :=
  ∃ A n c Z b s A2 n2 c2 Z2 b2 s2, e = .returned (.tuple #[.agg #[.slice A n c, .int .i64 b, .bool s], .agg #[.slice A2 n2 c2, .int .i64 b2, .bool s2]]) ∧ (1 ≤ n ∧ n ≤ 5) ∧ n2 ≤ 5 ∧ Ints w' A n Z ∧ Ints w' A2 n2 Z2 ∧ Below w.heap.size w w'
set_option maxRecDepth 100000 in
set_option maxHeartbeats 8000000 in
theorem drawlinsame_any (B : Nat) (w : World) (a : Option Addr) (len cap : Nat) (hB : B ≤ w.heap.size) (hby : Bytes B w a len) (hlc : len ≤ cap) (hc : cap ≤ 9223372036854775807) :
    Calls Try.prog 42 #[.slice a len cap] w (SameD w) := by
  have hO := open_any B ((w.alloc (.cells #[.slice none 0 0, .int .i64 0, .bool false] 25)).alloc (.cells #[.slice none 0 0, .int .i64 0, .bool false] 25)) a len cap (by simp <;> omega) ((hby.alloc _).alloc _) hlc hc
  have H := (KcL.alloc (KcL.new3 w (.slice none 0 0) (.int .i64 0) (.bool false) 25 rfl) (.cells #[.slice none 0 0, .int .i64 0, .bool false] 25)).app (KcL.new3 (w.alloc (.cells #[.slice none 0 0, .int .i64 0, .bool false] 25)) (.slice none 0 0) (.int .i64 0) (.bool false) 25 (n := w.heap.size + 1) (by simp))
  have q0 := bal (bal (Below.refl w.heap.size w) (.cells #[.slice none 0 0, .int .i64 0, .bool false] 25)) (.cells #[.slice none 0 0, .int .i64 0, .bool false] 25)
  have fa : ∀ o, ((w.alloc (.cells #[.slice none 0 0, .int .i64 0, .bool false] 25)).alloc (.cells #[.slice none 0 0, .int .i64 0, .bool false] 25)).frozen? ⟨w.heap.size, o, none⟩ = false := fun o => carryAf _ (by simp [go_sem]) (by simp)
  have fb : ∀ o, ((w.alloc (.cells #[.slice none 0 0, .int .i64 0, .bool false] 25)).alloc (.cells #[.slice none 0 0, .int .i64 0, .bool false] 25)).frozen? ⟨w.heap.size + 1, o, none⟩ = false := fun o => by
    simp
  obtain ⟨i0, hi, hz0, hz1, hz2⟩ := info_parts infoI
  go_enter Try.func42, Try.ntmps42
  go_wp2_with fail
  refine hO.mono ?_
  rintro e w1 ⟨g, rfl, hb, hR, hg⟩
  clear hO
  have hgs : w.heap.size + 2 ≤ g := by simpa using hg
  have hz1' := hb.size
  simp only [World.size_alloc] at hz1'
  replace H := H.below hb
  replace q0 := btr q0 hb
  replace fa := fun o => carryf hb (fa o) (by simp; omega)
  replace fb := fun o => carryf hb (fb o) (by simp)
  clear hb hg
  have glt := hR.lt
  go_wp2_with fail
  refine (l2some_any B _ g 0 hR (by omega)).mono ?_
  rintro e w2 ⟨A, n, c, Z, b, s, q, rfl, ⟨hn1, hn⟩, hnc, hc2, row, hg2, hR2, hq⟩
  have hz2' := hg2.size
  replace H := H.keep hg2 (fun e he r hr => by cases hr; simp at he; rcases he with rfl | rfl | rfl | rfl | rfl | rfl <;> (simp only; omega))
  replace q0 := q0.grown hg2 q0.size (fun r hr => by cases hr; omega)
  replace fa := frz hg2 (by omega) (by simp; omega) fa
  replace fb := frz hg2 (by omega) (by simp; omega) fb
  have hL1 : g < w2.heap.size := hR2.lt
  clear hg2 hR
  rcases row with h | ⟨h5, off, rfl, hlo, hh5, hcc⟩
  · omega
  go_upto_region 3 with fail
  have al := bal (Below.refl w2.heap.size w2) (.cells #[.slice (some ⟨h5, off, none⟩) n c, .int .i64 b, .bool s] 25)
  replace H := (H.below al).app (KcL.new3 w2 (.slice (some ⟨h5, off, none⟩) n c) (.int .i64 b) (.bool s) 25 rfl)
  replace q0 := btr q0 al
  replace fa := fun o => carryf al (fa o) (by omega)
  replace fb := fun o => carryf al (fb o) (by omega)
  have hcc3 : ∀ k, k < n → (w2.alloc (.cells #[.slice (some ⟨h5, off, none⟩) n c, .int .i64 b, .bool s] 25)).cell? ⟨h5, off + k, none⟩ = some (.int .i64 (Z k)) := fun k hk => carryA _ (hcc k hk)
  replace hR2 := hR2.alloc (.cells #[.slice (some ⟨h5, off, none⟩) n c, .int .i64 b, .bool s] 25)
  have hz6 : w2.heap.size < (w2.alloc (.cells #[.slice (some ⟨h5, off, none⟩) n c, .int .i64 b, .bool s] 25)).heap.size := by simp
  generalize w2.alloc (.cells #[.slice (some ⟨h5, off, none⟩) n c, .int .i64 b, .bool s] 25) = w3 at *
  clear al hcc
  generalize w2.heap.size = L at *
  have HC := hid hcc3
  have hnew : ∀ W, Below w3.heap.size w3 W → ∀ (j : Nat) (u : Value), (vals n Z)[j]? = some u → W.cell? ((⟨h5, off, none⟩ : Addr).add j) = some u := by
    intro W hW j u hj
    have hjn : j < n := by
      have := (List.getElem?_eq_some_iff.1 hj).1
      simpa [vals] using this
    rw [vals_at hjn] at hj
    rw [Addr.add_mid, ← hj]
    exact carry hW (HC.out j hjn)
  have hone : ∀ u ∈ vals n Z, u.oneCell' = true := by
    intro u hu
    unfold vals at hu
    obtain ⟨j, _, rfl⟩ := List.mem_map.1 hu
    rfl
  clear hcc3
  have HH := H; obtain ⟨_, _, _, _, _, _, l0, l1, l2, _⟩ := HH
  have gc := @gro_cell w3
  go_cut [6] (fun sp wx => ∃ (L6 h6 d : Nat), sp = .pointer (some ⟨L6, 0, none⟩) ∧ Below w3.heap.size w3 wx ∧ KcL [(L6, 0, .slice (some ⟨h6, 0, none⟩) n d), (L6, 1, .int .i64 b), (L6, 2, .bool s)] wx ∧ (∀ o, wx.frozen? ⟨L6, o, none⟩ = false) ∧ w3.heap.size ≤ L6 ∧ w3.heap.size ≤ h6 ∧ h6 < wx.heap.size ∧ h6 ≠ L6 ∧ ∀ k, k < n → wx.cell? ⟨h6, k, none⟩ = some (.int .i64 (Z k)))
  case first =>
    refine region_plan (.takes [1, 2, 4, 5, 6, 7] (.fork 0 9 (.fork 3 9 (.takes [8] (.make 9 .fin)) (.make 3 (.takes [8] .fin))) (.make 0 (.make 3 (.takes [8] .fin))))) 10 rfl (by kernel_rfl) ?_
    refine plan_takes ?_; simp only [pickOps, List.getElem?_cons_zero, List.getElem?_cons_succ]; (repeat (go_big_quiet_step (fail))); refine wpQuiet_nil ?_
    have hBd := (Below.refl w3.heap.size w3).drew
    have hsd : w3.drew.heap.size = w3.heap.size := rfl
    refine plan_fork ?_ ?_
    · skip
      refine plan_val rfl rfl (.slice (some ⟨w3.drew.heap.size, 0, none⟩) 0 0) (w'' := w3.drew.alloc (.cells #[] 3)) (by kernel_rfl) (bal hBd _) ?_
      have hown := own_empty1 w3.drew 3 1
      have hB1 := bal hBd (.cells #[] 3)
      refine plan_fork ?_ ?_
      · skip
        refine plan_append rfl rfl _ _ 23 rfl w3.drew.heap.size 3 i0 (.int .i64 0) 1 8 Try.underlying23 hi hz0 hz1 hz2 rfl (by decide) (.slice (some ⟨w3.drew.heap.size, 0, none⟩) 0 0) 0 [] (by kernel_rfl) hown ⟨h5, off, none⟩ n c (vals n Z) (by kernel_rfl) (by simp [vals]) (fun j u hj => hnew _ hB1 j u hj) hone (by unfold maxLen; omega) (by omega) (by simp <;> omega) hB1 (by simp <;> omega) ?_
        intro v' u1 ho hg1 hB2
        simp only [Nat.zero_add, List.nil_append] at ho
        obtain ⟨A6, d, rfl, _, _, hO6⟩ := own_new (W := w3) (by omega) (Nat.le_refl _) ho
        rcases hO6 with h0 | ⟨h6, rfl, h61, h62, hc6⟩
        · omega
        refine plan_takes ?_; simp only [pickOps, List.getElem?_cons_zero, List.getElem?_cons_succ, Act.put, List.setIfInBounds_toArray, List.set_cons_succ, List.set_cons_zero]; (repeat (go_big_quiet_step (fail))); refine wpQuiet_nil ?_
        refine plan_val rfl rfl (.pointer (some ⟨u1.heap.size, 0, none⟩)) (w'' := u1.alloc (.cells #[.slice none 0 0, .int .i64 0, .bool false] 25)) (by kernel_rfl) (bal hB2 _) ?_
        refine plan_fin ?_
        simp only [List.drop_succ_cons, List.drop_zero, Act.put, List.setIfInBounds_toArray, List.set_cons_succ, List.set_cons_zero]
        clear gc l0 l1 l2
        go_wp2_with fail
        go_meet
        exact ⟨u1.heap.size, h6, d, rfl, bal hB2 _, KcL.new3 u1 _ _ _ _ rfl, fun o => by simp [go_sem], hB2.size, h61, by simp; omega, by omega, fun k hk => carryA _ (hc6 k hk).1⟩
      · skip
        have hown := hown.alloc (.cells #[.slice none 0 0, .int .i64 0, .bool false] 25)
        have hB1' := bal hB1 (.cells #[.slice none 0 0, .int .i64 0, .bool false] 25)
        refine plan_val rfl rfl (.pointer (some ⟨(w3.drew.alloc (.cells #[] 3)).heap.size, 0, none⟩)) (w'' := (w3.drew.alloc (.cells #[] 3)).alloc (.cells #[.slice none 0 0, .int .i64 0, .bool false] 25)) (by kernel_rfl) hB1' ?_
        have K6 := KcL.new3 (w3.drew.alloc (.cells #[] 3)) (.slice none 0 0) (.int .i64 0) (.bool false) 25 (n := w3.drew.heap.size + 1) (by simp)
        have f6 : ∀ o, ((w3.drew.alloc (.cells #[] 3)).alloc (.cells #[.slice none 0 0, .int .i64 0, .bool false] 25)).frozen? ⟨w3.drew.heap.size + 1, o, none⟩ = false := fun o => by have := fr_new (w3.drew.alloc (.cells #[] 3)) #[.slice none 0 0, .int .i64 0, .bool false] 25 o; rwa [World.size_alloc] at this
        have z6 : w3.drew.heap.size + 1 < ((w3.drew.alloc (.cells #[] 3)).alloc (.cells #[.slice none 0 0, .int .i64 0, .bool false] 25)).heap.size := by simp
        refine plan_append rfl rfl _ _ 23 rfl w3.drew.heap.size 3 i0 (.int .i64 0) 1 8 Try.underlying23 hi hz0 hz1 hz2 rfl (by decide) (.slice (some ⟨w3.drew.heap.size, 0, none⟩) 0 0) 0 [] (by kernel_rfl) hown ⟨h5, off, none⟩ n c (vals n Z) (by kernel_rfl) (by simp [vals]) (fun j u hj => hnew _ hB1' j u hj) hone (by unfold maxLen; omega) (by omega) (by simp <;> omega) hB1' (by simp <;> omega) ?_
        intro v' u1 ho hg1 hB2
        simp only [Nat.zero_add, List.nil_append] at ho
        obtain ⟨A6, d, rfl, _, _, hO6⟩ := own_new (W := w3) (by omega) (by omega) ho
        rcases hO6 with h0 | ⟨h6, rfl, h61, h62, hc6⟩
        · omega
        have K7 := K6.keep hg1 (fun e he r hr => by obtain rfl := Option.some.inj (show some w3.drew.heap.size = some r from hr); simp at he; rcases he with rfl | rfl | rfl <;> (simp only; omega))
        have f7 := frz hg1 z6 (by simp [Value.ownBlock]) f6
        have z7 : (w3.drew.heap.size + 1) < u1.heap.size := Nat.lt_of_lt_of_le z6 hg1.size
        obtain ⟨k0, k1, k2, _⟩ := K7
        have hne : h6 ≠ (w3.drew.heap.size + 1) := fun e => by
          have := (hc6 0 (by omega)).1
          rw [e, k0] at this
          cases this
        refine plan_takes ?_; simp only [pickOps, List.getElem?_cons_zero, List.getElem?_cons_succ, Act.put, List.setIfInBounds_toArray, List.set_cons_succ, List.set_cons_zero]; (repeat (go_big_quiet_step (fail))); refine wpQuiet_nil ?_
        refine plan_fin ?_
        simp only [List.drop_succ_cons, List.drop_zero, Act.put, List.setIfInBounds_toArray, List.set_cons_succ, List.set_cons_zero]
        clear gc l0 l1 l2
        replace k0 : u1.cell? ⟨w3.heap.size + 1, 0, none⟩ = some (.slice none 0 0) := k0
        replace k1 : u1.cell? ⟨w3.heap.size + 1, 1, none⟩ = some (.int .i64 0) := k1
        replace k2 : u1.cell? ⟨w3.heap.size + 1, 2, none⟩ = some (.bool false) := k2
        replace f7 : ∀ o, u1.frozen? ⟨w3.heap.size + 1, o, none⟩ = false := f7
        replace hne : h6 ≠ w3.heap.size + 1 := hne
        replace z7 : w3.heap.size + 1 < u1.heap.size := z7
        have g0 := f7 0
        have g1 := f7 1
        have g2 := f7 2
        go_wp2_with fail
        go_meet
        obtain ⟨t0, t1, t2⟩ := set3 k0 k1 k2 (.slice (some ⟨h6, 0, none⟩) n d) (.int .i64 b) (.bool s)
        exact ⟨w3.heap.size + 1, h6, d, rfl, bst (bst (bst hB2 (by simp) _) (by simp) _) (by simp) _, ⟨t0, t1, t2, trivial⟩, fun o => by simpa [go_sem] using f7 o, by omega, h61, by simpa [World.setCell] using h62, hne, fun k hk => far3 _ _ _ (by omega) (hc6 k hk).1⟩
    · skip
      refine plan_val rfl rfl (.pointer (some ⟨w3.drew.heap.size, 0, none⟩)) (w'' := w3.drew.alloc (.cells #[.slice none 0 0, .int .i64 0, .bool false] 25)) (by kernel_rfl) (bal hBd _) ?_
      have hown := own_empty1 (w3.drew.alloc (.cells #[.slice none 0 0, .int .i64 0, .bool false] 25)) 3 1
      have hB1' := bal (bal hBd (.cells #[.slice none 0 0, .int .i64 0, .bool false] 25)) (.cells #[] 3)
      refine plan_val rfl rfl (.slice (some ⟨(w3.drew.alloc (.cells #[.slice none 0 0, .int .i64 0, .bool false] 25)).heap.size, 0, none⟩) 0 0) (w'' := (w3.drew.alloc (.cells #[.slice none 0 0, .int .i64 0, .bool false] 25)).alloc (.cells #[] 3)) (by kernel_rfl) hB1' ?_
      have K6 := KcL.alloc (KcL.new3 w3.drew (.slice none 0 0) (.int .i64 0) (.bool false) 25 rfl) (.cells #[] 3)
      have f6 : ∀ o, ((w3.drew.alloc (.cells #[.slice none 0 0, .int .i64 0, .bool false] 25)).alloc (.cells #[] 3)).frozen? ⟨w3.drew.heap.size, o, none⟩ = false := fun o => carryAf _ (fr_new w3.drew _ _ o) (by simp)
      have z6 : w3.drew.heap.size < ((w3.drew.alloc (.cells #[.slice none 0 0, .int .i64 0, .bool false] 25)).alloc (.cells #[] 3)).heap.size := by simp; omega
      refine plan_append rfl rfl _ _ 23 rfl ((w3.drew.alloc (.cells #[.slice none 0 0, .int .i64 0, .bool false] 25)).heap.size) 3 i0 (.int .i64 0) 1 8 Try.underlying23 hi hz0 hz1 hz2 rfl (by decide) (.slice (some ⟨(w3.drew.alloc (.cells #[.slice none 0 0, .int .i64 0, .bool false] 25)).heap.size, 0, none⟩) 0 0) 0 [] (by kernel_rfl) hown ⟨h5, off, none⟩ n c (vals n Z) (by kernel_rfl) (by simp [vals]) (fun j u hj => hnew _ hB1' j u hj) hone (by unfold maxLen; omega) (by omega) (by simp <;> omega) hB1' (by simp <;> omega) ?_
      intro v' u1 ho hg1 hB2
      simp only [Nat.zero_add, List.nil_append] at ho
      obtain ⟨A6, d, rfl, _, _, hO6⟩ := own_new (W := w3) (by omega) (by simp <;> omega) ho
      rcases hO6 with h0 | ⟨h6, rfl, h61, h62, hc6⟩
      · omega
      have K7 := K6.keep hg1 (fun e he r hr => by obtain rfl := Option.some.inj (show some ((w3.drew.alloc (.cells #[.slice none 0 0, .int .i64 0, .bool false] 25)).heap.size) = some r from hr); simp at he; rcases he with rfl | rfl | rfl <;> (simp <;> omega))
      have f7 := frz hg1 z6 (by simp [Value.ownBlock]) f6
      have z7 : w3.drew.heap.size < u1.heap.size := Nat.lt_of_lt_of_le z6 hg1.size
      obtain ⟨k0, k1, k2, _⟩ := K7
      have hne : h6 ≠ w3.drew.heap.size := fun e => by
        have := (hc6 0 (by omega)).1
        rw [e, k0] at this
        cases this
      refine plan_takes ?_; simp only [pickOps, List.getElem?_cons_zero, List.getElem?_cons_succ, Act.put, List.setIfInBounds_toArray, List.set_cons_succ, List.set_cons_zero]; (repeat (go_big_quiet_step (fail))); refine wpQuiet_nil ?_
      refine plan_fin ?_
      simp only [List.drop_succ_cons, List.drop_zero, Act.put, List.setIfInBounds_toArray, List.set_cons_succ, List.set_cons_zero]
      clear gc l0 l1 l2
      replace k0 : u1.cell? ⟨w3.heap.size, 0, none⟩ = some (.slice none 0 0) := k0
      replace k1 : u1.cell? ⟨w3.heap.size, 1, none⟩ = some (.int .i64 0) := k1
      replace k2 : u1.cell? ⟨w3.heap.size, 2, none⟩ = some (.bool false) := k2
      replace f7 : ∀ o, u1.frozen? ⟨w3.heap.size, o, none⟩ = false := f7
      replace hne : h6 ≠ w3.heap.size := hne
      replace z7 : w3.heap.size < u1.heap.size := z7
      have g0 := f7 0
      have g1 := f7 1
      have g2 := f7 2
      go_wp2_with fail
      go_meet
      obtain ⟨t0, t1, t2⟩ := set3 k0 k1 k2 (.slice (some ⟨h6, 0, none⟩) n d) (.int .i64 b) (.bool s)
      exact ⟨w3.heap.size, h6, d, rfl, bst (bst (bst hB2 (by simp) _) (by simp) _) (by simp) _, ⟨t0, t1, t2, trivial⟩, fun o => by simpa [go_sem] using f7 o, by omega, h61, by simpa [World.setCell] using h62, hne, fun k hk => far3 _ _ _ (by omega) (hc6 k hk).1⟩
  obtain ⟨w4, hwc⟩ : ∃ x, x = wc := ⟨_, rfl⟩
  subst hwc
  obtain ⟨L6, h6, d, rfl, hq4, K6, f6, hL6, hh6, hh6', hne6, hc6⟩ := hcut
  replace H := H.below hq4
  replace q0 := btr q0 hq4
  replace fa := fun o => carryf hq4 (fa o) (by omega)
  replace fb := fun o => carryf hq4 (fb o) (by omega)
  replace hR2 := hR2.below hq4
  have rowA : NewRow w1.heap.size w4 (some ⟨h5, off, none⟩) n Z := .inr ⟨h5, off, rfl, hlo, by have := hq4.size; omega, fun k hk => carry hq4 (HC.out k hk)⟩
  have rowB : NewRow w3.heap.size w4 (some ⟨h6, 0, none⟩) n Z := .inr ⟨h6, 0, rfl, hh6, hh6', fun k hk => by rw [Nat.zero_add]; exact hc6 k hk⟩
  have hz4 := hq4.size
  clear hq4 hc6 HC hnew hone gc l0 l1 l2
  go_wp2_with fail
  refine (pick_any B _ g q 5 hR2 (by omega) (by omega)).mono ?_
  rintro e w5 ⟨x, _, _, rfl, hg5, hR5⟩
  have hz5' := hg5.size
  have hz5 : w3.heap.size ≤ w5.heap.size := by omega
  replace H := H.keep hg5 (fun e he r hr => by cases hr; simp at he; rcases he with rfl | rfl | rfl | rfl | rfl | rfl | rfl | rfl | rfl <;> (simp only; omega))
  replace f6 := frz hg5 (by have := cell_lt K6.1; simp only at this; omega) (by simp; omega) f6
  replace K6 := K6.keep hg5 (fun e he r hr => by cases hr; simp at he; rcases he with rfl | rfl | rfl <;> (simp only; omega))
  replace q0 := q0.grown hg5 q0.size (fun r hr => by cases hr; omega)
  replace fa := frz hg5 (by omega) (by simp; omega) fa
  replace fb := frz hg5 (by omega) (by simp; omega) fb
  replace rowA := rowA.grow hg5 (fun r hr => by cases hr; exact glt)
  replace rowB := rowB.grow hg5 (fun r hr => by cases hr; omega)
  have hne5 : h5 ≠ L6 := by omega
  obtain ⟨k0, k1, k2, k3, k4, k5, l0, l1, l2, _⟩ := H
  obtain ⟨j0, j1, j2, _⟩ := K6
  simp only at k0 k1 k2 k3 k4 k5 l0 l1 l2 j0 j1 j2
  have g1 := f6 1
  have g2 := f6 2
  clear hg5 hR2
  by_cases e0 : x = 0
  · subst e0
    go_upto_region 11 with fail
    have gg := grow_set w5 L6 2 (.bool (!s))
    have l6 : L6 < w5.heap.size := cell_lt j0
    replace k0 := grow_cell gg (by omega) k0
    replace k1 := grow_cell gg (by omega) k1
    replace k2 := grow_cell gg (by omega) k2
    replace k3 := grow_cell gg (by omega) k3
    replace k4 := grow_cell gg (by omega) k4
    replace k5 := grow_cell gg (by omega) k5
    replace l0 := grow_cell gg (by omega) l0
    replace l1 := grow_cell gg (by omega) l1
    replace l2 := grow_cell gg (by omega) l2
    have jj2 := World.cell?_setCell_same _ _ (.bool (!s)) j2
    replace j0 : (w5.setCell ⟨L6, 2, none⟩ (.bool (!s))).cell? ⟨L6, 0, none⟩ = some (.slice (some ⟨h6, 0, none⟩) n d) := by rw [World.cell?_setCell_other _ _ _ _ (by simp)]; exact j0
    replace j1 : (w5.setCell ⟨L6, 2, none⟩ (.bool (!s))).cell? ⟨L6, 1, none⟩ = some (.int .i64 b) := by rw [World.cell?_setCell_other _ _ _ _ (by simp)]; exact j1
    replace j2 := jj2
    clear jj2
    replace fa := frz gg (by omega) (by simp; omega) fa
    replace fb := frz gg (by omega) (by simp; omega) fb
    replace rowA := rowA.grow' gg hne5
    replace rowB := rowB.grow' gg hne6
    replace q0 := q0.grown gg q0.size (fun r hr => by cases hr; omega)
    have hL7 : L < (w5.setCell ⟨L6, 2, none⟩ (.bool (!s))).heap.size := cell_lt l0
    have z7 : w3.heap.size ≤ (w5.setCell ⟨L6, 2, none⟩ (.bool (!s))).heap.size := by simpa [World.setCell] using hz5
    generalize w5.setCell ⟨L6, 2, none⟩ (.bool (!s)) = w6 at *
    have l6' : L6 < w6.heap.size := cell_lt j0
    have KL : KcL [(L, 0, .slice (some ⟨h5, off, none⟩) n c), (L, 1, .int .i64 b), (L, 2, .bool s), (L6, 0, .slice (some ⟨h6, 0, none⟩) n d), (L6, 1, .int .i64 (b)), (L6, 2, .bool (!s))] w6 := ⟨l0, l1, l2, j0, j1, j2, trivial⟩
    have KR : KcL [(w.heap.size, 0, .slice none 0 0), (w.heap.size, 1, .int .i64 0), (w.heap.size, 2, .bool false), (w.heap.size + 1, 0, .slice none 0 0), (w.heap.size + 1, 1, .int .i64 0), (w.heap.size + 1, 2, .bool false)] w6 := ⟨k0, k1, k2, k3, k4, k5, trivial⟩
    clear k0 k1 k2 k3 k4 k5 l0 l1 l2 j0 j1 j2
    have qd := (Below.refl w6.heap.size w6).drew
    refine region_planC (fun w' => KcL [(L, 0, .slice (some ⟨h5, off, none⟩) n c), (L, 1, .int .i64 b), (L, 2, .bool s), (L6, 0, .slice (some ⟨h6, 0, none⟩) n d), (L6, 1, .int .i64 (b)), (L6, 2, .bool (!s))] w') (.takes [0, 1] (.make 2 .fin)) 3 rfl (by kernel_rfl) (KL.below qd) ?_
    refine plan_takes ?_; simp only [pickOps, List.getElem?_cons_zero, List.getElem?_cons_succ]
    refine quiet_doC rfl (.agg #[.slice (some ⟨h5, off, none⟩) n c, .int .i64 b, .bool s]) (fun w' hw' => run_load3 rfl (by kernel_rfl) Try.underlying25 rfl (by kernel_rfl) hw'.1 hw'.2.1 hw'.2.2.1) ?_
    refine quiet_doC rfl (.agg #[.slice (some ⟨h6, 0, none⟩) n d, .int .i64 (b), .bool (!s)]) (fun w' hw' => run_load3 rfl (by kernel_rfl) Try.underlying25 rfl (by kernel_rfl) hw'.2.2.2.1 hw'.2.2.2.2.1 hw'.2.2.2.2.2.1) ?_
    refine wpQuiet_nil ?_
    replace KL := KL.below qd
    replace KR := KR.below qd
    replace fa := fun o => carryf qd (fa o) (by omega)
    replace fb := fun o => carryf qd (fb o) (by omega)
    replace rowA := rowA.grow (grow_of_below qd none) (fun r hr => by cases hr)
    replace rowB := rowB.grow (grow_of_below qd none) (fun r hr => by cases hr)
    replace q0 := btr q0 qd
    have hsd : w6.drew.heap.size = w6.heap.size := rfl
    obtain ⟨r0, r1, r2, r3, r4, r5, _⟩ := KR
    simp only at r0 r1 r2 r3 r4 r5
    refine planC_store rfl rfl _ _ _ rfl w.heap.size (.slice (some ⟨h5, off, none⟩) n c) (.int .i64 b) (.bool s) (by kernel_rfl) (by kernel_rfl) r0 r1 r2 fa (by kernel_rfl) (by simp [Value.oneCell']) ?_
    intro w8 hg8 K8
    have KL8 := KL.keep hg8 (fun e he r hr => by cases hr; simp at he; rcases he with rfl | rfl | rfl | rfl | rfl | rfl <;> (simp only; omega))
    have z8 := hg8.size
    replace q0 := q0.grown hg8 q0.size (fun r hr => by cases hr; omega)
    replace fb := frz hg8 (by omega) (by simp) fb
    replace rowA := rowA.grow hg8 (fun r hr => by cases hr; omega)
    replace rowB := rowB.grow hg8 (fun r hr => by cases hr; omega)
    replace r3 := grow_cell hg8 (by omega) r3
    replace r4 := grow_cell hg8 (by omega) r4
    replace r5 := grow_cell hg8 (by omega) r5
    refine ⟨KL8, ?_⟩
    clear hg8 KL KL8 fa r0 r1 r2
    refine plan_fin ?_
    simp only [List.drop_succ_cons, List.drop_zero, Act.put, List.setIfInBounds_toArray, List.set_cons_succ, List.set_cons_zero]
    obtain ⟨t0, t1, t2, _⟩ := K8
    simp only at t0 t1 t2
    have f3 := fb 0
    have f4 := fb 1
    have f5 := fb 2
    go_wp2_with fail
    obtain ⟨t3, t4, t5⟩ := set3 r3 r4 r5 (.slice (some ⟨h6, 0, none⟩) n d) (.int .i64 (b)) (.bool (!s))
    replace t0 := far3 (.slice (some ⟨h6, 0, none⟩) n d) (.int .i64 (b)) (.bool (!s)) (p := w.heap.size + 1) (by omega) t0
    replace t1 := far3 (.slice (some ⟨h6, 0, none⟩) n d) (.int .i64 (b)) (.bool (!s)) (p := w.heap.size + 1) (by omega) t1
    replace t2 := far3 (.slice (some ⟨h6, 0, none⟩) n d) (.int .i64 (b)) (.bool (!s)) (p := w.heap.size + 1) (by omega) t2
    refine bodyPost_ret (v := .tuple #[.agg #[.slice (some ⟨h5, off, none⟩) n c, .int .i64 b, .bool s], .agg #[.slice (some ⟨h6, 0, none⟩) n d, .int .i64 (b), .bool (!s)]]) (by simp [results, Try.results42, go_sem, t0, t1, t2, t3, t4, t5]) rfl ?_
    have kp : ∀ (lo : Nat) (X : Option Addr) (W : World) (p o : Nat) (v : Value), p < lo → NewRow lo W X n Z → NewRow lo (W.setCell ⟨p, o, none⟩ v) X n Z := fun lo X W p o v hp x => x.grow (grow_set W p o v) (fun r e => by cases e; omega)
    have p2 : w.heap.size + 1 < w1.heap.size := by omega
    have p4 : w.heap.size + 1 < w3.heap.size := by omega
    exact ⟨_, n, c, Z, b, s, _, n, d, Z, b, !s, rfl, ⟨hn1, hn⟩, hn, (kp _ _ _ _ 2 _ p2 (kp _ _ _ _ 1 _ p2 (kp _ _ _ _ 0 _ p2 rowA))).ints, (kp _ _ _ _ 2 _ p4 (kp _ _ _ _ 1 _ p4 (kp _ _ _ _ 0 _ p4 rowB))).ints,
      bst (bst (bst q0 (Nat.le_succ _) _) (Nat.le_succ _) _) (Nat.le_succ _) _⟩
  have n0 : (x == 0) = false := by simpa using e0
  clear e0
  by_cases e1 : x = 1
  · subst e1
    go_upto_region 11 with fail
    have gg := grow_set w5 L6 1 (.int .i64 (wrap64 (b.tdiv 2)))
    have l6 : L6 < w5.heap.size := cell_lt j0
    replace k0 := grow_cell gg (by omega) k0
    replace k1 := grow_cell gg (by omega) k1
    replace k2 := grow_cell gg (by omega) k2
    replace k3 := grow_cell gg (by omega) k3
    replace k4 := grow_cell gg (by omega) k4
    replace k5 := grow_cell gg (by omega) k5
    replace l0 := grow_cell gg (by omega) l0
    replace l1 := grow_cell gg (by omega) l1
    replace l2 := grow_cell gg (by omega) l2
    have jj1 := World.cell?_setCell_same _ _ (.int .i64 (wrap64 (b.tdiv 2))) j1
    replace j0 : (w5.setCell ⟨L6, 1, none⟩ (.int .i64 (wrap64 (b.tdiv 2)))).cell? ⟨L6, 0, none⟩ = some (.slice (some ⟨h6, 0, none⟩) n d) := by rw [World.cell?_setCell_other _ _ _ _ (by simp)]; exact j0
    replace j2 : (w5.setCell ⟨L6, 1, none⟩ (.int .i64 (wrap64 (b.tdiv 2)))).cell? ⟨L6, 2, none⟩ = some (.bool s) := by rw [World.cell?_setCell_other _ _ _ _ (by simp)]; exact j2
    replace j1 := jj1
    clear jj1
    replace fa := frz gg (by omega) (by simp; omega) fa
    replace fb := frz gg (by omega) (by simp; omega) fb
    replace rowA := rowA.grow' gg hne5
    replace rowB := rowB.grow' gg hne6
    replace q0 := q0.grown gg q0.size (fun r hr => by cases hr; omega)
    have hL7 : L < (w5.setCell ⟨L6, 1, none⟩ (.int .i64 (wrap64 (b.tdiv 2)))).heap.size := cell_lt l0
    have z7 : w3.heap.size ≤ (w5.setCell ⟨L6, 1, none⟩ (.int .i64 (wrap64 (b.tdiv 2)))).heap.size := by simpa [World.setCell] using hz5
    generalize w5.setCell ⟨L6, 1, none⟩ (.int .i64 (wrap64 (b.tdiv 2))) = w6 at *
    have l6' : L6 < w6.heap.size := cell_lt j0
    have KL : KcL [(L, 0, .slice (some ⟨h5, off, none⟩) n c), (L, 1, .int .i64 b), (L, 2, .bool s), (L6, 0, .slice (some ⟨h6, 0, none⟩) n d), (L6, 1, .int .i64 (wrap64 (b.tdiv 2))), (L6, 2, .bool (s))] w6 := ⟨l0, l1, l2, j0, j1, j2, trivial⟩
    have KR : KcL [(w.heap.size, 0, .slice none 0 0), (w.heap.size, 1, .int .i64 0), (w.heap.size, 2, .bool false), (w.heap.size + 1, 0, .slice none 0 0), (w.heap.size + 1, 1, .int .i64 0), (w.heap.size + 1, 2, .bool false)] w6 := ⟨k0, k1, k2, k3, k4, k5, trivial⟩
    clear k0 k1 k2 k3 k4 k5 l0 l1 l2 j0 j1 j2
    have qd := (Below.refl w6.heap.size w6).drew
    refine region_planC (fun w' => KcL [(L, 0, .slice (some ⟨h5, off, none⟩) n c), (L, 1, .int .i64 b), (L, 2, .bool s), (L6, 0, .slice (some ⟨h6, 0, none⟩) n d), (L6, 1, .int .i64 (wrap64 (b.tdiv 2))), (L6, 2, .bool (s))] w') (.takes [0, 1] (.make 2 .fin)) 3 rfl (by kernel_rfl) (KL.below qd) ?_
    refine plan_takes ?_; simp only [pickOps, List.getElem?_cons_zero, List.getElem?_cons_succ]
    refine quiet_doC rfl (.agg #[.slice (some ⟨h5, off, none⟩) n c, .int .i64 b, .bool s]) (fun w' hw' => run_load3 rfl (by kernel_rfl) Try.underlying25 rfl (by kernel_rfl) hw'.1 hw'.2.1 hw'.2.2.1) ?_
    refine quiet_doC rfl (.agg #[.slice (some ⟨h6, 0, none⟩) n d, .int .i64 (wrap64 (b.tdiv 2)), .bool (s)]) (fun w' hw' => run_load3 rfl (by kernel_rfl) Try.underlying25 rfl (by kernel_rfl) hw'.2.2.2.1 hw'.2.2.2.2.1 hw'.2.2.2.2.2.1) ?_
    refine wpQuiet_nil ?_
    replace KL := KL.below qd
    replace KR := KR.below qd
    replace fa := fun o => carryf qd (fa o) (by omega)
    replace fb := fun o => carryf qd (fb o) (by omega)
    replace rowA := rowA.grow (grow_of_below qd none) (fun r hr => by cases hr)
    replace rowB := rowB.grow (grow_of_below qd none) (fun r hr => by cases hr)
    replace q0 := btr q0 qd
    have hsd : w6.drew.heap.size = w6.heap.size := rfl
    obtain ⟨r0, r1, r2, r3, r4, r5, _⟩ := KR
    simp only at r0 r1 r2 r3 r4 r5
    refine planC_store rfl rfl _ _ _ rfl w.heap.size (.slice (some ⟨h5, off, none⟩) n c) (.int .i64 b) (.bool s) (by kernel_rfl) (by kernel_rfl) r0 r1 r2 fa (by kernel_rfl) (by simp [Value.oneCell']) ?_
    intro w8 hg8 K8
    have KL8 := KL.keep hg8 (fun e he r hr => by cases hr; simp at he; rcases he with rfl | rfl | rfl | rfl | rfl | rfl <;> (simp only; omega))
    have z8 := hg8.size
    replace q0 := q0.grown hg8 q0.size (fun r hr => by cases hr; omega)
    replace fb := frz hg8 (by omega) (by simp) fb
    replace rowA := rowA.grow hg8 (fun r hr => by cases hr; omega)
    replace rowB := rowB.grow hg8 (fun r hr => by cases hr; omega)
    replace r3 := grow_cell hg8 (by omega) r3
    replace r4 := grow_cell hg8 (by omega) r4
    replace r5 := grow_cell hg8 (by omega) r5
    refine ⟨KL8, ?_⟩
    clear hg8 KL KL8 fa r0 r1 r2
    refine plan_fin ?_
    simp only [List.drop_succ_cons, List.drop_zero, Act.put, List.setIfInBounds_toArray, List.set_cons_succ, List.set_cons_zero]
    obtain ⟨t0, t1, t2, _⟩ := K8
    simp only at t0 t1 t2
    have f3 := fb 0
    have f4 := fb 1
    have f5 := fb 2
    go_wp2_with fail
    obtain ⟨t3, t4, t5⟩ := set3 r3 r4 r5 (.slice (some ⟨h6, 0, none⟩) n d) (.int .i64 (wrap64 (b.tdiv 2))) (.bool (s))
    replace t0 := far3 (.slice (some ⟨h6, 0, none⟩) n d) (.int .i64 (wrap64 (b.tdiv 2))) (.bool (s)) (p := w.heap.size + 1) (by omega) t0
    replace t1 := far3 (.slice (some ⟨h6, 0, none⟩) n d) (.int .i64 (wrap64 (b.tdiv 2))) (.bool (s)) (p := w.heap.size + 1) (by omega) t1
    replace t2 := far3 (.slice (some ⟨h6, 0, none⟩) n d) (.int .i64 (wrap64 (b.tdiv 2))) (.bool (s)) (p := w.heap.size + 1) (by omega) t2
    refine bodyPost_ret (v := .tuple #[.agg #[.slice (some ⟨h5, off, none⟩) n c, .int .i64 b, .bool s], .agg #[.slice (some ⟨h6, 0, none⟩) n d, .int .i64 (wrap64 (b.tdiv 2)), .bool (s)]]) (by simp [results, Try.results42, go_sem, t0, t1, t2, t3, t4, t5]) rfl ?_
    have kp : ∀ (lo : Nat) (X : Option Addr) (W : World) (p o : Nat) (v : Value), p < lo → NewRow lo W X n Z → NewRow lo (W.setCell ⟨p, o, none⟩ v) X n Z := fun lo X W p o v hp x => x.grow (grow_set W p o v) (fun r e => by cases e; omega)
    have p2 : w.heap.size + 1 < w1.heap.size := by omega
    have p4 : w.heap.size + 1 < w3.heap.size := by omega
    exact ⟨_, n, c, Z, b, s, _, n, d, Z, wrap64 (b.tdiv 2), s, rfl, ⟨hn1, hn⟩, hn, (kp _ _ _ _ 2 _ p2 (kp _ _ _ _ 1 _ p2 (kp _ _ _ _ 0 _ p2 rowA))).ints, (kp _ _ _ _ 2 _ p4 (kp _ _ _ _ 1 _ p4 (kp _ _ _ _ 0 _ p4 rowB))).ints,
      bst (bst (bst q0 (Nat.le_succ _) _) (Nat.le_succ _) _) (Nat.le_succ _) _⟩
  have n1 : (x == 1) = false := by simpa using e1
  clear e1
  by_cases e2 : x = 2
  · subst e2
    go_upto_region 10 with fail
    have KL : KcL [(L, 0, .slice (some ⟨h5, off, none⟩) n c), (L, 1, .int .i64 b), (L, 2, .bool s)] w5 := ⟨l0, l1, l2, trivial⟩
    have KR : KcL [(w.heap.size, 0, .slice none 0 0), (w.heap.size, 1, .int .i64 0), (w.heap.size, 2, .bool false), (w.heap.size + 1, 0, .slice none 0 0), (w.heap.size + 1, 1, .int .i64 0), (w.heap.size + 1, 2, .bool false)] w5 := ⟨k0, k1, k2, k3, k4, k5, trivial⟩
    have lL : L < w5.heap.size := cell_lt l0
    clear k0 k1 k2 k3 k4 k5 l0 l1 l2 j0 j1 j2 rowB
    have qd := (Below.refl w5.heap.size w5).drew
    refine region_planC (fun w' => KcL [(L, 0, .slice (some ⟨h5, off, none⟩) n c), (L, 1, .int .i64 b), (L, 2, .bool s)] w') (.takes [0, 1] (.make 2 .fin)) 3 rfl (by kernel_rfl) (KL.below qd) ?_
    refine plan_takes ?_; simp only [pickOps, List.getElem?_cons_zero, List.getElem?_cons_succ]
    refine quiet_doC rfl (.agg #[.slice (some ⟨h5, off, none⟩) n c, .int .i64 b, .bool s]) (fun w' hw' => run_load3 rfl (by kernel_rfl) Try.underlying25 rfl (by kernel_rfl) hw'.1 hw'.2.1 hw'.2.2.1) ?_
    refine quiet_doC rfl (.pointer (some ⟨g, 0, none⟩)) (fun _ _ => by kernel_rfl) ?_
    refine wpQuiet_nil ?_
    replace KL := KL.below qd
    replace KR := KR.below qd
    replace fa := fun o => carryf qd (fa o) (by omega)
    replace fb := fun o => carryf qd (fb o) (by omega)
    replace rowA := rowA.grow (grow_of_below qd none) (fun r hr => by cases hr)
    replace q0 := btr q0 qd
    have hsd : w5.drew.heap.size = w5.heap.size := rfl
    refine planC_call rfl rfl 81 #[.pointer (some ⟨g, 0, none⟩)] (by kernel_rfl) ?_
    refine (l2some_any B _ g (q + 1) (hR5.below qd) (by omega)).mono ?_
    rintro e w8 ⟨A9, n9, c9, Z9, b9, s9, q9, rfl, ⟨hn91, hn9⟩, _, _, row9, hg8, hR8, hq9⟩
    have KL8 := KL.keep hg8 (fun e he r hr => by cases hr; simp at he; rcases he with rfl | rfl | rfl <;> (simp only; omega))
    have KR8 := KR.keep hg8 (fun e he r hr => by cases hr; simp at he; rcases he with rfl | rfl | rfl | rfl | rfl | rfl <;> (simp only; omega))
    have z8 := hg8.size
    replace q0 := q0.grown hg8 q0.size (fun r hr => by cases hr; omega)
    replace fa := frz hg8 (by omega) (by simp; omega) fa
    replace fb := frz hg8 (by omega) (by simp; omega) fb
    replace rowA := rowA.grow hg8 (fun r hr => by cases hr; exact glt)
    refine ⟨_, rfl, KL8, ?_⟩
    refine plan_fin ?_
    simp only [List.drop_succ_cons, List.drop_zero, Act.put, List.setIfInBounds_toArray, List.set_cons_succ, List.set_cons_zero]
    clear KL KR KL8 hg8 hR5 hR8 qd
    obtain ⟨k0, k1, k2, k3, k4, k5, _⟩ := KR8
    simp only at k0 k1 k2 k3 k4 k5
    have f0 := fa 0
    have f1 := fa 1
    have f2 := fa 2
    have f3 := fb 0
    have f4 := fb 1
    have f5 := fb 2
    go_wp2_with fail
    obtain ⟨t0, t1, t2⟩ := set3 k0 k1 k2 (.slice (some ⟨h5, off, none⟩) n c) (.int .i64 b) (.bool s)
    obtain ⟨t3, t4, t5⟩ := set3 (far3 (.slice (some ⟨h5, off, none⟩) n c) (.int .i64 b) (.bool s) (p := w.heap.size) (by omega) k3) (far3 (.slice (some ⟨h5, off, none⟩) n c) (.int .i64 b) (.bool s) (p := w.heap.size) (by omega) k4) (far3 (.slice (some ⟨h5, off, none⟩) n c) (.int .i64 b) (.bool s) (p := w.heap.size) (by omega) k5) (.slice A9 n9 c9) (.int .i64 b9) (.bool s9)
    replace t0 := far3 (.slice A9 n9 c9) (.int .i64 b9) (.bool s9) (p := w.heap.size + 1) (by omega) t0
    replace t1 := far3 (.slice A9 n9 c9) (.int .i64 b9) (.bool s9) (p := w.heap.size + 1) (by omega) t1
    replace t2 := far3 (.slice A9 n9 c9) (.int .i64 b9) (.bool s9) (p := w.heap.size + 1) (by omega) t2
    refine bodyPost_ret (v := .tuple #[.agg #[.slice (some ⟨h5, off, none⟩) n c, .int .i64 b, .bool s], .agg #[.slice A9 n9 c9, .int .i64 b9, .bool s9]]) (by simp [results, Try.results42, go_sem, t0, t1, t2, t3, t4, t5]) rfl ?_
    have kp : ∀ (lo : Nat) (X : Option Addr) (m : Nat) (Y : Nat → Int) (W : World) (p o : Nat) (v : Value), p < lo → NewRow lo W X m Y → NewRow lo (W.setCell ⟨p, o, none⟩ v) X m Y := fun lo X m Y W p o v hp x => x.grow (grow_set W p o v) (fun r e => by cases e; omega)
    have p1 : w.heap.size < w1.heap.size := by omega
    have p2 : w.heap.size + 1 < w1.heap.size := by omega
    have p3 : w.heap.size < w5.drew.heap.size := by omega
    have p4 : w.heap.size + 1 < w5.drew.heap.size := by omega
    exact ⟨_, n, c, Z, b, s, A9, n9, c9, Z9, b9, s9, rfl, ⟨hn1, hn⟩, hn9, (kp _ _ _ _ _ _ 2 _ p2 (kp _ _ _ _ _ _ 1 _ p2 (kp _ _ _ _ _ _ 0 _ p2 (kp _ _ _ _ _ _ 2 _ p1 (kp _ _ _ _ _ _ 1 _ p1 (kp _ _ _ _ _ _ 0 _ p1 rowA)))))).ints, (kp _ _ _ _ _ _ 2 _ p4 (kp _ _ _ _ _ _ 1 _ p4 (kp _ _ _ _ _ _ 0 _ p4 (kp _ _ _ _ _ _ 2 _ p3 (kp _ _ _ _ _ _ 1 _ p3 (kp _ _ _ _ _ _ 0 _ p3 row9)))))).ints,
      bst (bst (bst (bst (bst (bst q0 (Nat.le_refl _) _) (Nat.le_refl _) _) (Nat.le_refl _) _) (Nat.le_succ _) _) (Nat.le_succ _) _) (Nat.le_succ _) _⟩
  have n2 : (x == 2) = false := by simpa using e2
  clear e2
  go_upto_region 11 with fail
  have l6 : L6 < w5.heap.size := cell_lt j0
  have hL7 : L < w5.heap.size := cell_lt l0
  have l6' : L6 < w5.heap.size := cell_lt j0
  have z7 : w3.heap.size ≤ w5.heap.size := hz5
  obtain ⟨w6, hw6⟩ : ∃ x, x = w5 := ⟨_, rfl⟩
  subst hw6
  have KL : KcL [(L, 0, .slice (some ⟨h5, off, none⟩) n c), (L, 1, .int .i64 b), (L, 2, .bool s), (L6, 0, .slice (some ⟨h6, 0, none⟩) n d), (L6, 1, .int .i64 (b)), (L6, 2, .bool (s))] w6 := ⟨l0, l1, l2, j0, j1, j2, trivial⟩
  have KR : KcL [(w.heap.size, 0, .slice none 0 0), (w.heap.size, 1, .int .i64 0), (w.heap.size, 2, .bool false), (w.heap.size + 1, 0, .slice none 0 0), (w.heap.size + 1, 1, .int .i64 0), (w.heap.size + 1, 2, .bool false)] w6 := ⟨k0, k1, k2, k3, k4, k5, trivial⟩
  clear k0 k1 k2 k3 k4 k5 l0 l1 l2 j0 j1 j2
  have qd := (Below.refl w6.heap.size w6).drew
  refine region_planC (fun w' => KcL [(L, 0, .slice (some ⟨h5, off, none⟩) n c), (L, 1, .int .i64 b), (L, 2, .bool s), (L6, 0, .slice (some ⟨h6, 0, none⟩) n d), (L6, 1, .int .i64 (b)), (L6, 2, .bool (s))] w') (.takes [0, 1] (.make 2 .fin)) 3 rfl (by kernel_rfl) (KL.below qd) ?_
  refine plan_takes ?_; simp only [pickOps, List.getElem?_cons_zero, List.getElem?_cons_succ]
  refine quiet_doC rfl (.agg #[.slice (some ⟨h5, off, none⟩) n c, .int .i64 b, .bool s]) (fun w' hw' => run_load3 rfl (by kernel_rfl) Try.underlying25 rfl (by kernel_rfl) hw'.1 hw'.2.1 hw'.2.2.1) ?_
  refine quiet_doC rfl (.agg #[.slice (some ⟨h6, 0, none⟩) n d, .int .i64 (b), .bool (s)]) (fun w' hw' => run_load3 rfl (by kernel_rfl) Try.underlying25 rfl (by kernel_rfl) hw'.2.2.2.1 hw'.2.2.2.2.1 hw'.2.2.2.2.2.1) ?_
  refine wpQuiet_nil ?_
  replace KL := KL.below qd
  replace KR := KR.below qd
  replace fa := fun o => carryf qd (fa o) (by omega)
  replace fb := fun o => carryf qd (fb o) (by omega)
  replace rowA := rowA.grow (grow_of_below qd none) (fun r hr => by cases hr)
  replace rowB := rowB.grow (grow_of_below qd none) (fun r hr => by cases hr)
  replace q0 := btr q0 qd
  have hsd : w6.drew.heap.size = w6.heap.size := rfl
  obtain ⟨r0, r1, r2, r3, r4, r5, _⟩ := KR
  simp only at r0 r1 r2 r3 r4 r5
  refine planC_store rfl rfl _ _ _ rfl w.heap.size (.slice (some ⟨h5, off, none⟩) n c) (.int .i64 b) (.bool s) (by kernel_rfl) (by kernel_rfl) r0 r1 r2 fa (by kernel_rfl) (by simp [Value.oneCell']) ?_
  intro w8 hg8 K8
  have KL8 := KL.keep hg8 (fun e he r hr => by cases hr; simp at he; rcases he with rfl | rfl | rfl | rfl | rfl | rfl <;> (simp only; omega))
  have z8 := hg8.size
  replace q0 := q0.grown hg8 q0.size (fun r hr => by cases hr; omega)
  replace fb := frz hg8 (by omega) (by simp) fb
  replace rowA := rowA.grow hg8 (fun r hr => by cases hr; omega)
  replace rowB := rowB.grow hg8 (fun r hr => by cases hr; omega)
  replace r3 := grow_cell hg8 (by omega) r3
  replace r4 := grow_cell hg8 (by omega) r4
  replace r5 := grow_cell hg8 (by omega) r5
  refine ⟨KL8, ?_⟩
  clear hg8 KL KL8 fa r0 r1 r2
  refine plan_fin ?_
  simp only [List.drop_succ_cons, List.drop_zero, Act.put, List.setIfInBounds_toArray, List.set_cons_succ, List.set_cons_zero]
  obtain ⟨t0, t1, t2, _⟩ := K8
  simp only at t0 t1 t2
  have f3 := fb 0
  have f4 := fb 1
  have f5 := fb 2
  go_wp2_with fail
  obtain ⟨t3, t4, t5⟩ := set3 r3 r4 r5 (.slice (some ⟨h6, 0, none⟩) n d) (.int .i64 (b)) (.bool (s))
  replace t0 := far3 (.slice (some ⟨h6, 0, none⟩) n d) (.int .i64 (b)) (.bool (s)) (p := w.heap.size + 1) (by omega) t0
  replace t1 := far3 (.slice (some ⟨h6, 0, none⟩) n d) (.int .i64 (b)) (.bool (s)) (p := w.heap.size + 1) (by omega) t1
  replace t2 := far3 (.slice (some ⟨h6, 0, none⟩) n d) (.int .i64 (b)) (.bool (s)) (p := w.heap.size + 1) (by omega) t2
  refine bodyPost_ret (v := .tuple #[.agg #[.slice (some ⟨h5, off, none⟩) n c, .int .i64 b, .bool s], .agg #[.slice (some ⟨h6, 0, none⟩) n d, .int .i64 (b), .bool (s)]]) (by simp [results, Try.results42, go_sem, t0, t1, t2, t3, t4, t5]) rfl ?_
  have kp : ∀ (lo : Nat) (X : Option Addr) (W : World) (p o : Nat) (v : Value), p < lo → NewRow lo W X n Z → NewRow lo (W.setCell ⟨p, o, none⟩ v) X n Z := fun lo X W p o v hp x => x.grow (grow_set W p o v) (fun r e => by cases e; omega)
  have p2 : w.heap.size + 1 < w1.heap.size := by omega
  have p4 : w.heap.size + 1 < w3.heap.size := by omega
  exact ⟨_, n, c, Z, b, s, _, n, d, Z, b, s, rfl, ⟨hn1, hn⟩, hn, (kp _ _ _ _ 2 _ p2 (kp _ _ _ _ 1 _ p2 (kp _ _ _ _ 0 _ p2 rowA))).ints, (kp _ _ _ _ 2 _ p4 (kp _ _ _ _ 1 _ p4 (kp _ _ _ _ 0 _ p4 rowB))).ints,
    bst (bst (bst q0 (Nat.le_succ _) _) (Nat.le_succ _) _) (Nat.le_succ _) _⟩
end Go.Proofs.Ytbdmofmoegmigaa
