/- Contract of the program's ClauseOf. -/
import Derived.Test.YtpnnpdofgcfmgaaCfB
import Derived.Deep.MidRow
import Derived.Laws.AppendOwn
import Derived.Laws.OwnMore
import Derived.Maps.AppendAt
import Derived.Test.YtpnnpdofgcfmgaaBL
namespace Go.Proofs.Ytpnnpdofgcfmgaa
set_option linter.unusedVariables false
set_option linter.unusedSimpArgs false
open Go.RowKit
def csS (S : Nat → Int) : List Value := (List.range 61).map (fun u => .int .i64 (S u))
theorem csS_len (S : Nat → Int) : (csS S).length = 61 := by unfold csS; rw [List.length_map, List.length_range]
theorem csS_at {S : Nat → Int} {k : Nat} (hk : k < 61) : (csS S)[k]? = some (.int .i64 (S k)) := by
  unfold csS; rw [List.getElem?_map, List.getElem?_range hk]; rfl
theorem run_index61 (S : Nat → Int) (k : Nat) (hk : k < 61) (w : World) : (Instr.index 52 (.agg (csS S).toArray) (.int .i64 (k : Int))).run Try.prog w = .ok (.int .i64 (S k)) w := by
  have h1 := csS_at (S := S) hk
  have h2 : (0 : Int) ≤ k ∧ (k : Int) < 61 := by omega
  generalize csS S = cs at *
  have u3 := Try.underlying50
  have z3 := Try.sizeOf50
  simp [Instr.index, run_underlying Try.underlying52, asIntOf, h2, go_sem, z3, u3, h1, hk]
theorem wpList_val {P : Program} {ops : Array Oper} {rest : List Oper} {o : Oper} {a : Act} {w : World} {Q : Exit → Act → World → Prop} (hgd : o.guard = none) {v : Value} (hr : (execOp a.eval o).run P w = .ok (.value v) w) (h : wpList P ops Q rest (a.put o.dst v) w) : wpList P ops Q (o :: rest) a w := by
  refine wpList_plain hgd fun K hK => ?_
  unfold Oper.wp
  simp only [hr]
  exact hK _ _ h
theorem loaded {P : Program} {o : Oper} {ty : TypeId} {x : Operand} (ho : o.op = .load ty x) {a : Act} {p : Addr} (hx : a.eval x = .pointer (some p)) {v : Value} {w : World} (hl : (loadVar ty p).run P w = .ok v w) : (execOp a.eval o).run P w = .ok (.value v) w := by
  unfold execOp
  simp only [ho, hx, Instr.loadAt, Instr.sureAddr, Sem.run_bind, Sem.run_pure, Result.andThen_ok, hl]
theorem indexed {P : Program} {o : Oper} {ty : TypeId} {x i : Operand} (ho : o.op = .index ty x i) {a : Act} {v : Value} {w : World} (hl : (Instr.index ty (a.eval x) (a.eval i)).run P w = .ok v w) : (execOp a.eval o).run P w = .ok (.value v) w := by
  unfold execOp
  simp only [ho, Sem.run_bind, hl, Result.andThen_ok, Sem.run_pure]
def valsI (l : List Int) : List Value := l.map fun z => Value.int .i64 z
theorem valsI_at {l : List Int} {k : Nat} (h : k < l.length) : (valsI l)[k]? = some (.int .i64 (l.getD k 0)) := by
  unfold valsI; rw [List.getElem?_map, List.getElem?_eq_getElem h, List.getD_eq_getElem?_getD, List.getElem?_eq_getElem h]; rfl
theorem own_intsC {W w : World} {base : Nat} {e : TypeId} {v : Value} {l : List Int} (hB : W.heap.size ≤ base) (h : w.ownsRow base e 1 v l.length (valsI l)) : ∃ A c, v = .slice A l.length c ∧ OwnI W w A l.length (fun k => l.getD k 0) := by
  have h0 := h
  obtain ⟨hl, ⟨rfl, h⟩ | ⟨g, cap, cur, rfl, hg, hh, h1, h2, h3, h4⟩⟩ := h
  · rw [h]; exact ⟨none, 0, rfl, .inl rfl⟩
  · refine ⟨_, cap, rfl, ?_⟩
    by_cases hn : l.length = 0
    · exact .inl hn
    · exact .inr ⟨g, rfl, by omega, World.block_lt_of_cell? w ⟨g, 0, none⟩ (h0.cellAt 0 (by omega) |>.trans (valsI_at (by omega))), fun k hk => ⟨(h0.cellAt k (by omega)).trans (valsI_at hk), h0.frozenAt k⟩⟩
theorem vrC_neg (x : Int) : vrC (-x) = vrC x := by unfold vrC; split <;> split <;> omega
set_option maxHeartbeats 4000000 in
theorem clauseof_any (A : Option Addr) (n c : Nat) (Z : Nat → Int) (w : World) (hn : n ≤ 1048576) (hA : Ints w A n Z) :
    Calls Try.prog 9 #[.slice A n c] w fun e w' => ∃ A' c', e = .returned (.tuple #[.slice A' (clR n Z).length c', .bool (okF n Z)]) ∧ OwnI w w' A' (clR n Z).length (fun k => (clR n Z).getD k 0) ∧ Below w.heap.size w w' := by
  have hb0 := bal (Below.refl w.heap.size w) (.cells #[.int .i64 0, .int .i64 0, .int .i64 0, .int .i64 0, .int .i64 0, .int .i64 0, .int .i64 0, .int .i64 0, .int .i64 0, .int .i64 0, .int .i64 0, .int .i64 0, .int .i64 0, .int .i64 0, .int .i64 0, .int .i64 0, .int .i64 0, .int .i64 0, .int .i64 0, .int .i64 0, .int .i64 0, .int .i64 0, .int .i64 0, .int .i64 0, .int .i64 0, .int .i64 0, .int .i64 0, .int .i64 0, .int .i64 0, .int .i64 0, .int .i64 0, .int .i64 0, .int .i64 0, .int .i64 0, .int .i64 0, .int .i64 0, .int .i64 0, .int .i64 0, .int .i64 0, .int .i64 0, .int .i64 0, .int .i64 0, .int .i64 0, .int .i64 0, .int .i64 0, .int .i64 0, .int .i64 0, .int .i64 0, .int .i64 0, .int .i64 0, .int .i64 0, .int .i64 0, .int .i64 0, .int .i64 0, .int .i64 0, .int .i64 0, .int .i64 0, .int .i64 0, .int .i64 0, .int .i64 0, .int .i64 0] 52)
  have hS0 := mset_new w
  go_enter Try.func9, Try.ntmps9
  go_upto_region 2 with fail
  generalize w.alloc (.cells #[.int .i64 0, .int .i64 0, .int .i64 0, .int .i64 0, .int .i64 0, .int .i64 0, .int .i64 0, .int .i64 0, .int .i64 0, .int .i64 0, .int .i64 0, .int .i64 0, .int .i64 0, .int .i64 0, .int .i64 0, .int .i64 0, .int .i64 0, .int .i64 0, .int .i64 0, .int .i64 0, .int .i64 0, .int .i64 0, .int .i64 0, .int .i64 0, .int .i64 0, .int .i64 0, .int .i64 0, .int .i64 0, .int .i64 0, .int .i64 0, .int .i64 0, .int .i64 0, .int .i64 0, .int .i64 0, .int .i64 0, .int .i64 0, .int .i64 0, .int .i64 0, .int .i64 0, .int .i64 0, .int .i64 0, .int .i64 0, .int .i64 0, .int .i64 0, .int .i64 0, .int .i64 0, .int .i64 0, .int .i64 0, .int .i64 0, .int .i64 0, .int .i64 0, .int .i64 0, .int .i64 0, .int .i64 0, .int .i64 0, .int .i64 0, .int .i64 0, .int .i64 0, .int .i64 0, .int .i64 0, .int .i64 0] 52) = w1 at *
  go_wp2
  go_loopw [13] (fun i wr => ∃ k : Nat, k ≤ n ∧ i = .int .i64 k ∧ Below w.heap.size w wr ∧ MSet wr w.heap.size (stC Z k) ∧ ∀ j, j < k → ofC (Z j) 60 = true ∧ stC Z j (ab6 (Z j)).toNat ≠ -Z j) (fun i _ => n - (intOf i).toNat)
  case atStart => exact ⟨0, Nat.zero_le _, rfl, hb0, hS0, fun j hj => by omega⟩
  case round =>
    clear hS0 hb0
    obtain ⟨k, hk, rfl, hb, hS, he⟩ := hrel
    have HE := hid he; clear he
    by_cases hlt : k < n
    · rcases hA with h0 | ⟨g, off, rfl, hg, hcA⟩
      · omega
      have c1 := carry hb (hcA k hlt)
      clear hcA
      have hO := fun W => of_lit (Z k) 60 W ⟨by omega, by omega⟩
      cases ho : ofC (Z k) 60
      · rw [ho] at hO
        have HF := hid (show ¬ OkF n Z from fun h => by have := (h k hlt).1; rw [ho] at this; cases this)
        clear ho
        go_wp2_with (go_at_call 27; refine (hO _).mono ?_; rintro e w1 ⟨rfl, rfl⟩)
        go_ret2
        refine ⟨none, 0, by rw [clR_no HF.out, okF_no HF.out]; rfl, ?_, hb⟩
        rw [clR_no HF.out]
        exact .inl rfl
      · rw [ho] at hO
        obtain ⟨v, e1, e2, e3, e4, e5, e6, e7⟩ := of_rng ho
        have hN := fun W => not_any (Z k) W ⟨by omega, by omega⟩
        have hH := has_any w.heap.size (stC Z k) (-Z k) v wr hS ⟨by omega, by omega⟩ (by rw [vrC_neg]; exact e5) e3
        cases hv : (stC Z k v == -Z k)
        · rw [hv] at hH
          have hv' : stC Z k v ≠ -Z k := by simpa using hv
          have HQ := hid (show ofC (Z k) 60 = true ∧ stC Z k (ab6 (Z k)).toNat ≠ -Z k from ⟨ho, by rw [e4]; exact hv'⟩)
          have HS := hid hS
          have hD := fun W (h : Below wr.heap.size wr W) => add_any w.heap.size (stC Z k) (Z k) v W (row_below hS h) ⟨by omega, by omega⟩ e5 e3
          have E4 := hid e4
          have E3 := hid e3
          clear hv hv' ho e7 e1 e2 e5 e6 e4 e3
          clear hS
          go_wp2_with (first | (go_at_call 27; refine (hO _).mono ?_; rintro e w1 ⟨rfl, rfl⟩) | (go_at_call 29; refine (hN _).mono ?_; rintro e w1 ⟨rfl, rfl⟩) | (go_at_call 28; refine hH.mono ?_; rintro e w2 ⟨rfl, hq⟩) | (go_at_call 30; refine (hD _ (by assumption)).mono ?_; rintro e w3 ⟨rfl, w4, hq4, rfl⟩))
          go_roundw
          case rel =>
            have hq5 := btr hq hq4
            refine ⟨k + 1, by omega, by go_num, bst (btr hb hq5) (Nat.le_refl _) _, ?_, fun j hj => ?_⟩
            · refine ((row_below HS.out hq5).set v (.int .i64 (Z k))).congr fun u hu => ?_
              show (if u = v then _ else _) = Value.int .i64 (updC (stC Z k) (Z k) u)
              unfold updC
              rw [E4.out]
              split <;> rfl
            · by_cases e : j = k
              · subst e; exact HQ.out
              · exact HE.out j (by omega)
          case measure => simp [intOf]; omega
        · rw [hv] at hH
          have hv' : stC Z k v = -Z k := by simpa using hv
          have HF := hid (show ¬ OkF n Z from fun h => (h k hlt).2 (by rw [e4]; exact hv'))
          clear hv hv' ho e7 e1 e2 e5 e6 e4 e3 hS
          go_wp2_with (first | (go_at_call 27; refine (hO _).mono ?_; rintro e w1 ⟨rfl, rfl⟩) | (go_at_call 29; refine (hN _).mono ?_; rintro e w1 ⟨rfl, rfl⟩) | (go_at_call 28; refine hH.mono ?_; rintro e w2 ⟨rfl, hq⟩))
          go_ret2
          refine ⟨none, 0, by rw [clR_no HF.out, okF_no HF.out]; rfl, ?_, btr hb hq⟩
          rw [clR_no HF.out]
          exact .inl rfl
    · have hke : k = n := by omega
      subst hke
      have HOK := hid (show OkF k Z from HE.out)
      have hcs : wr.rangeAt w.heap.size 0 (csS (stC Z k)) := fun j u hu => by
        have hj : j < 61 := by rw [← csS_len (stC Z k)]; exact (List.getElem?_eq_some_iff.1 hu).1
        rw [csS_at hj] at hu
        rw [Nat.zero_add, ← Option.some.inj hu]
        exact hS.cell hj
      have hload := run_loadVar_mid (P := Try.prog) wr w.heap.size 0 52 (csS (stC Z k)) _ hcs Try.underlying52 rfl (by rw [csS_len]; kernel_rfl)
      have hix := fun i hi W => run_index61 (stC Z k) i hi W
      have hR := hid (clR_yes HOK.out)
      have hF := hid (okF_iff.2 HOK.out)
      generalize stC Z k = S at *
      have HC := hid (csS_len S)
      have H0 : Below w.heap.size w wr ∧ wr.ownsRow (w.heap.size + 1) 3 1 (.slice none 0 0) (segL S 0 0).length (valsI (segL S 0 0)) := ⟨hb, World.ownsRow_nil _ _ _ _⟩
      obtain ⟨i0, hi, hz0, hz1, hz2⟩ := info_parts infoI
      have hsz : w.heap.size < wr.heap.size := hS.lt
      clear HE HOK hb hcs hS hA
      go_upto_region 11 with fail
      refine wp_region_lit ?_
      refine wpList_val rfl (v := .agg (csS S).toArray) (loaded rfl rfl hload) ?_
      generalize (csS S).toArray = agS at *
      clear hload
      go_wp2
      go_loopw [8, 30] (fun v i wx => ∃ d : Nat, d ≤ 61 ∧ i = .int .i64 d ∧ Below w.heap.size w wx ∧ w.heap.size < wx.heap.size ∧ wx.ownsRow (w.heap.size + 1) 3 1 v (segL S 0 d).length (valsI (segL S 0 d))) (fun _ i _ => 61 - (intOf i).toNat)
      case atStart => exact ⟨0, Nat.zero_le _, rfl, H0.1, hsz, H0.2⟩
      case round =>
        clear H0 hsz
        obtain ⟨d, hd, rfl, hb, hsz, ho⟩ := hrel
        by_cases hlt : d < 61
        · go_upto_region 13 with fail
          refine wp_region_lit ?_
          refine wpList_val rfl (v := .int .i64 (S d)) (indexed rfl (hix d hlt _)) ?_
          by_cases h0 : S d = 0
          · have d1 : (S d != 0) = false := by simpa using h0
            have e : segL S 0 (d + 1) = segL S 0 d := by rw [segL_succ, Nat.zero_add, if_pos h0, List.append_nil]
            clear h0
            go_wp2
            go_roundw
            case rel => exact ⟨d + 1, by omega, by go_num, hb, hsz, by rw [e]; exact ho⟩
            case measure => simp [intOf]; omega
          · have d1 : (S d != 0) = true := by simpa using h0
            have E := hid (show segL S 0 (d + 1) = segL S 0 d ++ [S d] by rw [segL_succ, Nat.zero_add, if_neg h0])
            have hl := segL_len S 0 d
            have hq := bal (Below.refl wr.heap.size wr) (.cells #[.int .i64 (S d)] 3)
            clear h0
            go_wp2_with ((at_builtin; refine wpList_append_own _ rfl _ _ 23 rfl (w.heap.size + 1) 3 i0 (.int .i64 0) 1 8 Try.underlying23 hi hz0 hz1 hz2 rfl (by decide) _ _ _ rfl (ho.alloc _) ⟨wr.heap.size, 0, none⟩ 1 1 [.int .i64 (S d)] rfl rfl (cell_one_new _ _ _) (fun u hu => by simp at hu; subst hu; rfl) (by unfold maxLen; omega) (by omega) (by simp; omega) ?_; intro v' w5 hown hgrow _))
            go_roundw
            case rel =>
              refine ⟨d + 1, by omega, by go_num, (btr hb hq).grown hgrow (btr hb hq).size (fun j hj => ?_), Nat.lt_of_lt_of_le (by simp; omega) hgrow.size, ?_⟩
              · have := (ho.lt j hj).1
                omega
              · rw [E.out, List.length_append]
                have e2 : valsI (segL S 0 d ++ [S d]) = valsI (segL S 0 d) ++ [.int .i64 (S d)] := by unfold valsI; rw [List.map_append]; rfl
                rw [e2]
                exact hown
            case measure => simp [intOf]; omega
        · have hde : d = 61 := by omega
          subst hde
          obtain ⟨A', c', rfl, hO⟩ := own_intsC (W := w) (by omega) ho
          go_wp2
          go_ret2
          exact ⟨A', c', by rw [hR.out, hF.out]; rfl, by rw [hR.out]; exact hO, hb⟩
end Go.Proofs.Ytpnnpdofgcfmgaa
