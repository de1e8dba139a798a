/- The model's l10Units, l10Right and CnfUnits. -/
import Derived.Test.YtjnngijilkdhbaaCuK
namespace Go.Proofs.Ytjnngijilkdhbaa
set_option linter.unusedVariables false
set_option linter.unusedSimpArgs false
open Go.RowKit
theorem putL_at {N j : Nat} {V : Nat → Int} (hj : j < N) : (valsI (putL N V))[j]? = some (.int .i64 (V j)) := by
  rw [valsI_at (by rw [putL_len]; exact hj)]
  unfold putL
  rw [List.getD_eq_getElem?_getD, List.getElem?_map, List.getElem?_range hj]
  rfl
theorem putL_getD (T : List Int) : putL T.length (fun k => T.getD k 0) = T := by
  apply List.ext_getElem?
  intro i
  unfold putL
  by_cases hi : i < T.length
  · rw [List.getElem?_map, List.getElem?_range hi, List.getElem?_eq_getElem hi]
    simp only [Option.map_some, List.getD_eq_getElem?_getD, List.getElem?_eq_getElem hi, Option.getD_some]
  · rw [List.getElem?_eq_none (by rw [List.length_map, List.length_range]; omega), List.getElem?_eq_none (by omega)]
theorem own_empU (w : World) (t : TypeId) (base : Nat) (h : base ≤ w.heap.size) : (w.alloc (.cells #[] t)).ownsRow base t 1 (.slice (some ⟨w.heap.size, 0, none⟩) 0 0) 0 [] :=
  ⟨by simp, .inr ⟨w.heap.size, 0, #[], rfl, h, Deep.blk_alloc_new _ _, Nat.le_refl _, by unfold maxLen; omega, by simp, by simp⟩⟩
/-- numbers appended to an empty row of one's own -/
theorem wpList_app0U {ops : Array Oper} {rest : List Oper} {o : Oper} {a : Act} {w : World} {Q : Exit → Act → World → Prop} (hgd : o.guard = none) (s x : Operand)
    (ho : o.op = .call { callee := .builtin .append, args := #[s, x], argTypes := #[38, 38] }) (base g : Nat) (hs : a.eval s = .slice (some ⟨g, 0, none⟩) 0 0) (hown : w.ownsRow base 3 1 (.slice (some ⟨g, 0, none⟩) 0 0) 0 [])
    (B : Option Addr) (N cB : Nat) (V : Nat → Int) (hx : a.eval x = .slice B N cB) (hN : N ≤ 1048576) (hB : Ints w B N V) (hbase : base ≤ w.heap.size)
    (h : ∀ v' w', w'.ownsRow base 3 1 v' N (valsI (putL N V)) → w.grownBy w' (some g) → wpList Try.prog ops Q rest (a.put o.dst v') w') : wpList Try.prog ops Q (o :: rest) a w := by
  obtain ⟨i0, hi, hz0, hz1, hz2⟩ := info_parts infoI
  refine wpList_plain hgd fun K hK => ?_
  unfold Oper.wp
  by_cases h0 : N = 0
  · subst h0
    have hr : (Builtin.append_ #[38, 38] o.type #[.slice (some ⟨g, 0, none⟩) 0 0, .slice B 0 cB]).run Try.prog w = .ok (.slice (some ⟨g, 0, none⟩) 0 0) w := by
      cases B with
      | none => simp [Builtin.append_, run_underlying Try.underlying38, sizeOf, typeInfo, hi, Builtin.lenOf, Builtin.firstCells, storeCells]
      | some a =>
        have hf := run_firstCells_some (P := Try.prog) w i0.size 0 a 0 cB [] (by simp) (fun j v h => by simp at h)
        simp [Builtin.append_, run_underlying Try.underlying38, sizeOf, typeInfo, hi, Builtin.lenOf, hf, storeCells]
    have e1 : (execOp a.eval o).run Try.prog w = .ok (.value (.slice (some ⟨g, 0, none⟩) 0 0)) w := by
      unfold execOp
      simp only [ho, resolve, invoke, builtin, Sem.run_bind, Sem.run_pure, Result.andThen_ok, List.map_toArray, List.map_cons, List.map_nil, hs, hx, hr]
    simp only [e1]
    exact hK _ _ (h _ _ hown ⟨rfl, rfl, rfl, Nat.le_refl _, fun _ _ _ => rfl⟩)
  · rcases hB with h | ⟨g4, off, rfl, hg4, hc⟩
    · exact absurd h h0
    obtain ⟨v', w', hr, h2, h3, h4⟩ := run_append_freshU (P := Try.prog) w base 38 o.type 3 i0 (.int .i64 0) 1 8 Try.underlying38 hi hz0 hz1 hz2 rfl (by decide) (.slice (some ⟨g, 0, none⟩) 0 0) 0 [] hown ⟨g4, off, none⟩ N cB (valsI (putL N V)) (by unfold valsI; rw [List.length_map, putL_len]; omega)
      (fun j u hj => by
        have hjl : j < N := by
          have := (List.getElem?_eq_some_iff.1 hj).1
          unfold valsI at this
          rw [List.length_map, putL_len] at this
          exact this
        rw [putL_at hjl] at hj
        rw [← Option.some.inj hj, show (⟨g4, off, none⟩ : Addr).add j = ⟨g4, off + j, none⟩ by unfold Addr.add; split <;> simp_all]
        exact hc j hjl) (fun u hu => by unfold valsI at hu; obtain ⟨z, _, rfl⟩ := List.mem_map.1 hu; rfl) (by unfold maxLen; omega) (by omega) hbase
    rw [Nat.zero_add, List.nil_append] at h2
    have e1 : (execOp a.eval o).run Try.prog w = .ok (.value v') w' := by
      unfold execOp
      simp only [ho, resolve, invoke, builtin, Sem.run_bind, Sem.run_pure, Result.andThen_ok, List.map_toArray, List.map_cons, List.map_nil, hs, hx, hr]
    simp only [e1]
    exact hK _ _ (h _ _ h2 h3)
def lenV (v : Value) : Nat := match v with | .slice _ n _ => n | _ => 0
theorem meas_app {a n k : Nat} (ha : a ≤ 60) : (61 - (a + 1)) * (n + 2) + (n + 1 - (0 : Int).toNat) < (61 - a) * (n + 2) + (n + 1 - (k : Int).toNat) := by
  obtain ⟨d, hd⟩ : ∃ d, 61 - a = d + 1 := ⟨60 - a, by omega⟩
  have h2 : 61 - (a + 1) = d := by omega
  rw [hd, h2, Nat.add_mul]
  simp
  omega
theorem meas_up {a n k : Nat} (hk : k < n) : a + (n + 1 - ((k : Int) + 1).toNat) < a + (n + 1 - (k : Int).toNat) := by
  omega
/-- the state of the model's propagation -/
def SuS (w : World) (A : Option Addr) (n c : Nat) (L : Lls) (T0 : List Int) (k : Nat) (v : Value) (T : List Int) (W : World) : Prop :=
  W.ownsRow (w.heap.size + 1) 3 1 v T.length (valsI T) ∧ GoU 60 T ∧ (∀ j, j < k → Idle (L.N j) (L.Z j) T) ∧ (∀ T' r, Ur n L T T' r → Ur n L T0 T' r) ∧ Below w.heap.size w W ∧ W.cell? ⟨w.heap.size, 1, none⟩ = some (.slice A n c) ∧ w.heap.size + 1 ≤ W.heap.size
/-- what the model's propagation answers -/
def SuP (w : World) (n : Nat) (L : Lls) (T : List Int) (e : Ending) (w' : World) : Prop :=
  ∃ l r A c, Ur n L T l r ∧ e = .returned (.tuple #[.slice A l.length c, .bool r]) ∧ OwnI w w' A l.length (fun k => l.getD k 0)
set_option maxHeartbeats 8000000 in
set_option maxRecDepth 100000 in
theorem sunits_any (A : Option Addr) (n c : Nat) (L : Lls) (m : Int) (B : Option Addr) (N cB : Nat) (V : Nat → Int) (w : World) (hn : n ≤ 400) (hA : IntSS w A n L) (hL : LitL n L) (hN6 : ∀ i, i < n → L.N i ≤ 60) (hinj : ∀ i, i < n → InjC (L.N i) (L.Z i)) (hB : Ints w B N V) (hG : GoU 60 (putL N V)) :
    Calls Try.prog 39 #[.agg #[.int .i64 m, .slice A n c], .slice B N cB] w fun e w' => SuP w n L (putL N V) e w' ∧ Below w.heap.size w w' := by
  have hN : N ≤ 60 := by have := hG.len60; rw [putL_len] at this; exact this
  obtain ⟨T0, hT0⟩ : ∃ T0, T0 = putL N V := ⟨_, rfl⟩
  rw [← hT0] at hG ⊢
  have HT0 := hid hT0
  clear hT0
  have q0 := bal (Below.refl w.heap.size w) (.cells #[.int .i64 m, .slice A n c] 31)
  obtain ⟨c0, c1⟩ := pair_new w (.int .i64 m) (.slice A n c) 31
  have hsz : (w.alloc (.cells #[.int .i64 m, .slice A n c] 31)).heap.size = w.heap.size + 1 := World.size_alloc _ _
  obtain ⟨i0, hi, hz0, hz1, hz2⟩ := info_parts infoI
  have HI := hid hi; have HL := hid hL; have HN6 := hid hN6; have HJ := hid hinj; have HG := hid hG
  clear hi hL hN6 hinj hG
  go_enter Try.func39, Try.ntmps39
  go_upto_region 1 with fail
  generalize w.alloc (.cells #[.int .i64 m, .slice A n c] 31) = w1 at *
  have hE := own_empU w1 3 (w.heap.size + 1) (by omega)
  have CE := bal (Below.refl w1.heap.size w1) (.cells #[] 3)
  have qE := btr q0 CE
  have d1 := carry CE c1
  have hBE := hB.below qE
  have hszE : w.heap.size + 1 ≤ (w1.alloc (.cells #[] 3)).heap.size := by have := CE.size; omega
  have hlt0 : w.heap.size < w1.heap.size := by omega
  clear hsz
  go_wp2_with (at_builtin; refine wpList_app0U rfl _ _ rfl (w.heap.size + 1) w1.heap.size rfl hE B N cB V rfl (by omega) hBE hszE ?_; intro v3 w3 hown3 hgrow3)
  have H3 : Hid (SuS w A n c L T0 0 v3 T0 w3) := hid ⟨by rw [HT0.out, putL_len]; exact hown3, HG.out, fun j hj => by omega, fun _ _ h => h, qE.grown hgrow3 qE.size (fun r hr => by cases hr; omega), hgrow3.cell d1 (by simp; omega), Nat.le_trans hszE hgrow3.size⟩
  clear hown3 hgrow3 CE hE qE d1 hBE hszE c0 c1 q0 hlt0
  go_loopw [6, 7] (fun v i wr => ∃ (k : Nat) (T : List Int), k ≤ n ∧ i = .int .i64 (k : Int) ∧ SuS w A n c L T0 k v T wr) (fun v i _ => (61 - lenV v) * (n + 2) + (n + 1 - (intOf i).toNat))
  case atStart => exact ⟨0, _, Nat.zero_le _, rfl, H3.out⟩
  case round =>
    clear H3
    obtain ⟨k, T, hk, rfl, hown, hg, hid_, hu, hb, d1, hsz⟩ := hrel
    obtain ⟨av, cv, rfl, hO⟩ := own_intsC (W := w) (by omega) hown
    have hTl := hg.len60
    by_cases hlt : k < n
    · rcases hA with h0 | ⟨g, off, rfl, hgg, hcA⟩
      · omega
      obtain ⟨a, ca, a0, hNk, hZ⟩ := hcA k hlt
      have a1 := carry hb a0
      have HA := hid (show ∀ k, k < n → ∃ a c, w.cell? ⟨g, off + k, none⟩ = some (.slice a (L.N k) c) ∧ L.N k ≤ 9223372036854775807 ∧ Ints w a (L.N k) (L.Z k) from hcA)
      clear hcA a0
      have hLf := sleft_any av T.length cv (fun k => T.getD k 0) a (L.N k) ca (L.Z k) wr (by omega) hO.ints' (by have := HN6.out k hlt; omega) (hZ.below hb) (HJ.out k hlt) (HL.out k hlt)
      rw [putL_getD] at hLf
      have HU := hid hu; have HID := hid hid_; have HGo := hid hg; have HOW := hid hown
      clear hu hid_ hg hO hown
      have hkI : (k : Int) < (n : Int) := by omega
      go_wp2_with fail
      refine hLf.mono ?_
      rintro e w4 ⟨⟨cn, lf, rfl, hlp⟩, rfl⟩
      clear hLf
      by_cases z0 : cn = 0
      · subst z0
        have HF := hid (show Ur n L T0 T true from HU.out _ _ (Ur.bad T k hlt (by
          rcases hlp with ⟨_, h⟩ | ⟨h, _⟩ | ⟨h, _⟩
          · exact h
          · omega
          · exact absurd rfl h) HID.out))
        clear hlp
        have HO := hid (own_intsC (W := w) (by omega) HOW.out)
        go_wp2
        go_ret2
        obtain ⟨av', cv', e1, hO'⟩ := HO.out
        injection e1 with e1 e2 e3
        subst e1 e3
        exact ⟨⟨T, true, av, cv, HF.out, rfl, hO'⟩, hb⟩
      · have d0 : (cn == 0) = false := by simpa using z0
        by_cases z1 : cn = 1
        · subst z1
          have hu1 : Uni (L.N k) (L.Z k) T lf := by
            rcases hlp with ⟨h, _⟩ | ⟨_, h⟩ | ⟨_, h, _⟩
            · omega
            · exact h
            · exact absurd rfl h
          have HF := hid (show ∀ T' r, Ur n L (T ++ [lf]) T' r → Ur n L T0 T' r from fun T' r h => HU.out _ _ (Ur.step T k lf T' r hlt hu1 HID.out h))
          have HG1 := hid (GoU.push T lf HGo.out (HL.out k hlt _ hu1.1) hu1.2.1)
          clear hlp hu1 z0
          have CX := bal (Below.refl wr.heap.size wr) (.cells #[.int .i64 lf] 3)
          have hO1 := hid (own_belowU CX HOW.out)
          have hnews := news_one wr (.int .i64 lf) 3
          have d2 := carry CX d1
          have q2 := btr hb CX
          have hs2 := Nat.le_trans hsz CX.size
          go_wp2_with (at_builtin; refine wpList_appendU rfl _ _ 38 rfl (w.heap.size + 1) 3 i0 (.int .i64 0) 1 8 Try.underlying38 HI.out hz0 hz1 hz2 rfl (by decide) (.slice av T.length cv) T.length (valsI T) rfl hO1.out ⟨wr.heap.size, 0, none⟩ 1 1 [.int .i64 lf] rfl rfl hnews (fun u hu => by simp at hu; subst hu; rfl) (by unfold maxLen; omega) (by omega) hs2 ?_; intro v' w5 hown5 hgrow5 hfresh5; obtain ⟨a5, c5, rfl⟩ := own_sliceU hown5)
          go_roundw
          case rel =>
            refine ⟨0, T ++ [lf], Nat.zero_le _, by go_num, ?_, HG1.out, fun j hj => absurd hj (by omega), HF.out, q2.grown hgrow5 q2.size (fun r hr => by have := (hO1.out.lt r hr).1; omega), hgrow5.cell d2 (fun e => by have := (hO1.out.lt _ e.symm).1; simp at this; omega), Nat.le_trans hs2 hgrow5.size⟩
            rw [List.length_append, ← vals_app]
            exact hown5
          case measure => exact meas_app hTl
        · have d1' : (cn == 1) = false := by simpa using z1
          have hidl : Idle (L.N k) (L.Z k) T := by
            rcases hlp with ⟨h, _⟩ | ⟨h, _⟩ | ⟨_, _, h⟩
            · exact absurd h z0
            · exact absurd h z1
            · exact h
          have HI1 := hid hidl
          clear hlp hidl z0 z1
          go_wp2
          go_roundw
          case rel =>
            refine ⟨k + 1, T, by omega, by go_num, HOW.out, HGo.out, fun j hj => ?_, HU.out, hb, d1, hsz⟩
            by_cases e : j = k
            · subst e; exact HI1.out
            · exact HID.out j (by omega)
          case measure => exact meas_up hlt
    · have hke : k = n := by omega
      subst hke
      have HF := hid (hu _ _ (Ur.stop T hid_))
      clear hu hid_ hown
      go_wp2
      go_ret2
      exact ⟨⟨T, false, av, cv, HF.out, rfl, hO⟩, hb⟩
end Go.Proofs.Ytjnngijilkdhbaa
