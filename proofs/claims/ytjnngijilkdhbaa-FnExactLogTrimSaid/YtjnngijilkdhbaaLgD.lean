/- LogTrim of the model. -/
import Derived.Test.YtjnngijilkdhbaaLgB
namespace Go.Proofs.Ytjnngijilkdhbaa
set_option linter.unusedVariables false
set_option linter.unusedSimpArgs false
open Go.RowKit
theorem exec_append_run {P : Program} {w : World} {o : Oper} {a : Act} {s x : Operand} {t : TypeId}
    (ho : o.op = .call { callee := .builtin .append, args := #[s, x], argTypes := #[t, t] }) {vs vx : Value} (hs : a.eval s = vs) (hx : a.eval x = vx)
    {v' : Value} {w' : World} (hr : (Builtin.append_ #[t, t] o.type #[vs, vx]).run P w = .ok v' w') : (execOp a.eval o).run P w = .ok (.value v') w' := by
  unfold execOp
  simp only [ho, resolve, invoke, builtin, Sem.run_bind, Sem.run_pure, Result.andThen_ok, List.map_toArray, List.map_cons, List.map_nil, hs, hx, hr]
theorem RN.empty (w0 w : World) (M : Lls) (h : w0.heap.size ≤ w.heap.size) : RN w0 (w.alloc (.cells #[] 38)) (.slice (some ⟨w.heap.size, 0, none⟩) 0 0) 0 M :=
  ⟨[], fun _ => none, fun _ => 0, own_empU w 38 _ h, fun j hj => by omega, fun i j hi => by omega⟩
set_option maxHeartbeats 8000000 in
set_option maxRecDepth 100000 in
theorem scopy11_any (G : Option Addr) (N c : Nat) (M : Lls) (w0 w : World) (hw0 : w0.heap.size ≤ w.heap.size) (hN : N ≤ 1000) (hG : IntSS w G N M) (hM : ∀ k, k < N → M.N k ≤ 1048576) :
    Calls Try.prog 35 #[.slice G N c] w fun e w' => (∃ v, e = .returned v ∧ RN w0 w' v N M) ∧ Below w.heap.size w w' := by
  have hE := RN.empty w0 w M hw0
  have CE := bal (Below.refl w.heap.size w) (.cells #[] 38)
  go_enter Try.func35, Try.ntmps35
  go_wp2
  go_loopw [3, 4] (fun v i wr => ∃ k : Nat, k ≤ N ∧ i = .int .i64 (k : Int) ∧ RN w0 wr v k M ∧ (∀ r, v.ownBlock = some r → w.heap.size ≤ r) ∧ Below w.heap.size w wr) (fun _ i _ => N - (intOf i).toNat)
  case atStart => exact ⟨0, Nat.zero_le _, rfl, hE, (fun r e => by cases e; exact Nat.le_refl _), CE⟩
  case round =>
    obtain ⟨k, hk, rfl, hR, hvb, hbx⟩ := hrel
    by_cases hlt : k < N
    · rcases hG with h0 | ⟨g, off, rfl, hg, hcG⟩
      · omega
      obtain ⟨a, ca, g0, hNk, hZ⟩ := hcG k hlt
      have CN := bal (Below.refl wr.heap.size wr) (.cells #[] 3)
      have hbn := btr hbx CN
      have g1 := carry hbn g0
      have hZ1 := hZ.below hbn
      have y2 := cell_lt g1
      have hE1 := own_empU wr 3 wr.heap.size (Nat.le_refl _)
      have hs1 := CN.size
      clear hcG hE CE
      go_upto_region 5 with fail
      go_wp2_with (first
        | (at_builtin
           refine wpList_app0U rfl _ _ rfl wr.heap.size wr.heap.size rfl hE1 a (M.N k) ca (M.Z k) rfl (hM k hlt) hZ1 hs1 ?_
           intro v6 w6 hO6 hg6
           have hq6 : Below wr.heap.size wr w6 := CN.grown hg6 hs1 (fun r e => by cases e; exact Nat.le_refl _)
           obtain ⟨A6, c6, rfl, _⟩ := own_numsF (W := wr) (Nat.le_refl _) hO6
           have al := bal (Below.refl w6.heap.size w6) (.cells #[.slice A6 (M.N k) c6] 38)
           have hnews := news_one w6 (.slice A6 (M.N k) c6) 38
           obtain ⟨xs, LA, LC, h1, h2, h3⟩ := hR
           have hw6 := btr hq6 al
           have h1' := own_belowU hw6 h1
           have hwx : w0.heap.size ≤ wr.heap.size := Nat.le_trans hw0 hbx.size
           have hwz := hw6.size
           obtain ⟨i0, hi, hz0, hz1, hz2⟩ := info_parts infoIS
           obtain ⟨v', w8, hr8, hown8, hg8, hf8⟩ := run_append_freshU (P := Try.prog) (w6.alloc (.cells #[.slice A6 (M.N k) c6] 38)) w0.heap.size 22 22 38 i0 (.slice none 0 0) 1 24 Try.underlying22 hi hz0 hz1 hz2 rfl (by decide) _ k xs h1' ⟨w6.heap.size, 0, none⟩ 1 1 [.slice A6 (M.N k) c6] (by simp) hnews (fun u hu => by simp at hu; subst hu; rfl) (by unfold maxLen; omega) (by omega) (by omega)
           have hR8 := RN.push h1 h2 h3 hO6 hq6 al hg8 hown8 hwx
           have hb8 : Below w.heap.size w w8 := (btr hbx hw6).grown hg8 (btr hbx hw6).size hvb
           have hvb8 : ∀ r, v'.ownBlock = some r → w.heap.size ≤ r := fun r e => by
             rcases hf8 r e with h | h
             · exact hvb r h
             · have := (btr hbx hw6).size; omega
           clear hi hz0 hz1 hz2 hf8)
        | (at_builtin; refine Lib.wpList_append_run _ rfl _ _ _ _ rfl _ _ rfl rfl _ _ hr8 ?_))
      go_roundw
      case rel => exact ⟨k + 1, by omega, by go_num, hR8, hvb8, hb8⟩
      case measure => simp [intOf]; omega
    · obtain rfl : k = N := by omega
      go_wp2
      go_ret
      exact ⟨⟨_, rfl, hR⟩, hbx⟩
end Go.Proofs.Ytjnngijilkdhbaa
