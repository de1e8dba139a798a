/- Contract of the program's TermSame. -/
import Derived.Test.YtanfljajafelgaaTsJ
import Derived.Test.YtanfljajafelgaaBU
import Derived.Test.YtanfljajafelgaaPlanB
import Derived.Deep.Slices
namespace Go.Proofs.Ytanfljajafelgaa
set_option linter.unusedVariables false
set_option linter.unusedSimpArgs false
open Go.RowKit
theorem wpList_valT {P : Program} {w w' : World} {ops : Array Oper} {rest : List Oper} {o : Oper} {a : Act} {Q : Exit → Act → World → Prop} {v : Value}
    (hg : o.guard = none) (hr : (execOp a.eval o).run P w = .ok (.value v) w') (hK : wpList P ops Q rest (a.put o.dst v) w') : wpList P ops Q (o :: rest) a w := by
  refine wpList_plain hg fun K' hK' => ?_
  unfold Oper.wp
  rw [hr]
  exact hK' _ _ hK
def flatP : List (Lp × Lp) → List Value
  | [] => []
  | x :: r => x.1.val :: x.2.val :: flatP r
theorem flatP_app : ∀ (T U : List (Lp × Lp)), flatP (T ++ U) = flatP T ++ flatP U
  | [], _ => rfl
  | x :: r, U => by simp [flatP, flatP_app r U]
theorem flatP_len : ∀ T : List (Lp × Lp), (flatP T).length = T.length * 2
  | [] => rfl
  | x :: r => by simp [flatP, flatP_len r]; omega
/-- how many terms there are in the parts of a list -/
def lSz (p : Lp) : Nat := sumT p.n (fun k => tSz (p.kid k))
def wgtP : List (Lp × Lp) → Nat
  | [] => 0
  | x :: r => 1 + lSz x.1 + wgtP r
theorem wgtP_app : ∀ (T U : List (Lp × Lp)), wgtP (T ++ U) = wgtP T + wgtP U
  | [], U => by simp [wgtP]
  | x :: r, U => by simp [wgtP, wgtP_app r U]; omega
theorem wgtP_len : ∀ T : List (Lp × Lp), T.length ≤ wgtP T
  | [] => Nat.zero_le _
  | x :: r => by have := wgtP_len r; simp [wgtP]; omega
theorem min_of {P : Nat → Prop} : ∀ m, P m → ∃ k, P k ∧ ∀ j, P j → k ≤ j := by
  intro m
  induction m using Nat.strongRecOn with
  | ind m ih =>
    intro h
    by_cases hx : ∃ j, j < m ∧ P j
    · obtain ⟨j, hj, hp⟩ := hx
      exact ih j hj hp
    · refine ⟨m, h, fun j hj => ?_⟩
      by_cases hlt : j < m
      · exact absurd ⟨j, hlt, hj⟩ hx
      · omega
theorem least_of {α β : Type} (R : Nat → α → β → Prop) : ∃ μ : α → β → Nat, ∀ a b m, R m a b → μ a b ≤ m ∧ R (μ a b) a b := by
  classical
  refine ⟨fun a b => if h : ∃ m, R m a b ∧ ∀ j, R j a b → m ≤ j then h.choose else 0, fun a b m h => ?_⟩
  have hx : ∃ m, R m a b ∧ ∀ j, R j a b → m ≤ j := min_of (P := fun m => R m a b) m h
  simp only [dif_pos hx]
  exact ⟨hx.choose_spec.2 m h, hx.choose_spec.1⟩
/-- the state of the program's TermSame: what is still to be compared, and the forest of what was -/
structure TsR (W : World) (M lo : Nat) (p0 q0 : Lp) (T : List (Lp × Lp)) (F : Value → Option Value) (rk : Value → Nat) (N : Nat) (v : Value) (wr : World) : Prop where
  own : wr.ownsRow lo 290 2 v T.length (flatP T)
  ok : ∀ x ∈ T, x.1.ok W ∧ x.2.ok W
  fs : FsW W wr M F rk N
  up : (∀ d, LpEq d p0 q0) → ∀ x ∈ T, ∀ d, LpEq d x.1 x.2
  dn : ∀ d, (∀ x ∈ T, LpEq d x.1 x.2) → FEq W F d → FEq W F (d + 1) ∧ LpEq d p0 q0
theorem TsR.fin {W : World} {M lo N : Nat} {p0 q0 : Lp} {F : Value → Option Value} {rk : Value → Nat} {v : Value} {wr : World} (h : TsR W M lo p0 q0 [] F rk N v wr) : ∀ d, LpEq d p0 q0 := by
  have hF : ∀ d, FEq W F d := by
    intro d
    induction d with
    | zero => intro p q _ _ _; trivial
    | succ d ih => exact (h.dn d (by simp) ih).1
  exact fun d => (h.dn d (by simp) (hF d)).2
theorem infoPr : (Try.prog.info? 290).map (fun i => (i.zero, i.size, i.bytes)) = some (some (.agg #[.slice none 0 0, .slice none 0 0]), 2, 48) := by kernel_rfl
theorem own_pop {w : World} {lo n : Nat} {t : TypeId} {v x y : Value} {xs : List Value} (h : w.ownsRow lo t 2 v (n + 1) (xs ++ [x, y])) : ∃ g c, v = .slice (some ⟨g, 0, none⟩) (n + 1) c ∧ n + 1 ≤ c ∧ c ≤ maxLen ∧ w.cell? ⟨g, n * 2, none⟩ = some x ∧ w.cell? ⟨g, n * 2 + 1, none⟩ = some y ∧ w.ownsRow lo t 2 (.slice (some ⟨g, 0, none⟩) n c) n xs := by
  obtain ⟨hl, ⟨rfl, h0⟩ | ⟨g, cap, cur, rfl, hg, hh, h1, h2, h3, h4⟩⟩ := h
  · omega
  · have hxl : xs.length = n * 2 := by simp at hl; omega
    refine ⟨g, cap, rfl, h1, h2, ?_, ?_, hxl, .inr ⟨g, cap, cur, rfl, hg, hh, by omega, h2, h3, ?_⟩⟩
    · have e : (cur.toList.take ((n + 1) * 2))[n * 2]? = some x := by rw [h4, List.getElem?_append_right (by omega)]; simp [hxl]
      rw [List.getElem?_take_of_lt (by omega), Array.getElem?_toList] at e
      simp [World.cell?, hh, e]
    · have e : (cur.toList.take ((n + 1) * 2))[n * 2 + 1]? = some y := by rw [h4, List.getElem?_append_right (by omega)]; simp [hxl]
      rw [List.getElem?_take_of_lt (by omega), Array.getElem?_toList] at e
      simp [World.cell?, hh, e]
    · have e := congrArg (List.take (n * 2)) h4
      rw [List.take_take, Nat.min_eq_left (by omega), List.take_append_of_le_length (by omega)] at e
      rw [e, List.take_of_length_le (by omega)]
theorem own_belowT {w w' : World} {base n size : Nat} {e : TypeId} {v : Value} {xs : List Value} (hb : Below w.heap.size w w') (h : w.ownsRow base e size v n xs) : w'.ownsRow base e size v n xs := by
  refine h.kept (row := none) ⟨hb.os, hb.tape, hb.output, hb.size, fun k hk _ => hb.block k hk⟩ ?_
  cases v.ownBlock with
  | none => exact .inl rfl
  | some x => exact .inr (by simp)
/-- the parts of the k-th term of a list -/
def kl (f : Nat → Option Addr × Nat) (kid : Nat → Tm) (i : Nat) : Lp := ⟨(f i).1, (kid i).n, (f i).2, (kid i).kid⟩
def kidsP (f g : Nat → Option Addr × Nat) (kid kid' : Nat → Tm) : Nat → List (Lp × Lp)
  | 0 => []
  | k + 1 => kidsP f g kid kid' k ++ [(kl f kid k, kl g kid' k)]
theorem kidsP_len (f g : Nat → Option Addr × Nat) (kid kid' : Nat → Tm) : ∀ k, (kidsP f g kid kid' k).length = k
  | 0 => rfl
  | k + 1 => by simp [kidsP, kidsP_len f g kid kid' k]
theorem kidsP_mem {f g : Nat → Option Addr × Nat} {kid kid' : Nat → Tm} : ∀ {n k : Nat}, k < n → (kl f kid k, kl g kid' k) ∈ kidsP f g kid kid' n
  | 0, k, h => absurd h (by omega)
  | n + 1, k, h => by
    rw [kidsP, List.mem_append]
    by_cases e : k = n
    · subst e; exact .inr (List.mem_singleton.2 rfl)
    · exact .inl (kidsP_mem (by omega))
theorem kidsP_of {f g : Nat → Option Addr × Nat} {kid kid' : Nat → Tm} {x : Lp × Lp} : ∀ {n : Nat}, x ∈ kidsP f g kid kid' n → ∃ k, k < n ∧ x = (kl f kid k, kl g kid' k)
  | 0, h => by simp [kidsP] at h
  | n + 1, h => by
    rw [kidsP, List.mem_append] at h
    rcases h with h | h
    · obtain ⟨k, hk, e⟩ := kidsP_of h
      exact ⟨k, by omega, e⟩
    · exact ⟨n, by omega, List.mem_singleton.1 h⟩
theorem sumT_ge {f : Nat → Nat} (h : ∀ k, 1 ≤ f k) : ∀ n, n ≤ sumT n f
  | 0 => Nat.zero_le _
  | n + 1 => by have := sumT_ge h n; have := h n; rw [sumT]; omega
theorem tSz_eq (t : Tm) : tSz t = 1 + sumT t.n (fun k => tSz (t.kid k)) := by
  cases t with
  | bad => rw [tSz]; rfl
  | mk nm n kid => rw [tSz]; rfl
theorem wgt_kids (f g : Nat → Option Addr × Nat) (kid kid' : Nat → Tm) : ∀ k, wgtP (kidsP f g kid kid' k) = sumT k (fun i => tSz (kid i))
  | 0 => rfl
  | k + 1 => by
    rw [kidsP, wgtP_app, wgt_kids f g kid kid' k, sumT, tSz_eq (kid k)]
    simp only [wgtP, lSz, kl]
    omega
theorem own_wrtT {w w' : World} {lo hi base n size : Nat} {e : TypeId} {v : Value} {xs : List Value} (hw : Wrt lo hi w w') (hne : ∀ g, v.ownBlock = some g → g < lo ∨ hi ≤ g) (h : w.ownsRow base e size v n xs) : w'.ownsRow base e size v n xs := by
  obtain ⟨h1, h | ⟨g, cap, cur, rfl, h2, hh, h3⟩⟩ := h
  · exact ⟨h1, .inl h⟩
  · exact ⟨h1, .inr ⟨g, cap, cur, rfl, h2, (hw.block g (Array.getElem?_eq_some_iff.1 hh).1 (hne g rfl)).trans hh, h3⟩⟩
theorem own_neM {w : World} {K : Value → Prop} {F : Value → Option Value} {M base n size : Nat} {e : TypeId} {v : Value} {xs : List Value} (hm : OwnM w K M F) (h : w.ownsRow base e size v n xs) : ∀ g, v.ownBlock = some g → g < M ∨ M + 1 ≤ g := by
  intro g hg
  obtain ⟨h1, ⟨rfl, _⟩ | ⟨g', cap, cur, rfl, h2, hh, h3⟩⟩ := h
  · simp [Value.ownBlock] at hg
  · simp only [Value.ownBlock, Option.some.injEq] at hg
    subst hg
    obtain ⟨es, cl, hb, _⟩ := hm
    by_cases e' : g' = M
    · rw [e', hb] at hh; cases hh
    · omega
theorem FsW.row {W w w' : World} {M N lo n : Nat} {F : Value → Option Value} {rk : Value → Nat} {v : Value} {xs : List Value} (h : FsW W w M F rk N) (ho : w.ownsRow lo 290 2 v n xs) (hg : w.grownBy w' v.ownBlock) : FsW W w' M F rk N := by
  obtain ⟨_, ⟨rfl, _⟩ | ⟨g, cap, cur, rfl, _, hh, _⟩⟩ := ho
  · exact h.wrt hg.size (hg.block M h.own.lt (by simp [Value.ownBlock])) (fun k cs hk => (hg.block k (Array.getElem?_eq_some_iff.1 hk).1 (by simp [Value.ownBlock])).trans hk)
  · have hne : ∀ k cs, w.heap[k]? = some (.cells cs 76 (0, 0)) → g ≠ k := fun k cs hk e => by
      rw [e, hk] at hh
      injection hh with hh
      injection hh with _ e2 _
      revert e2
      decide
    refine h.wrt hg.size (hg.block M h.own.lt (by
      simp only [Value.ownBlock, ne_eq, Option.some.injEq]
      intro e
      obtain ⟨es, cl, hb, _⟩ := h.own
      rw [e] at hb
      rw [hb] at hh
      cases hh)) (fun k cs hk => (hg.block k (Array.getElem?_eq_some_iff.1 hk).1 (by simp only [Value.ownBlock, ne_eq, Option.some.injEq]; exact fun e => hne k cs hk e.symm)).trans hk)
end Go.Proofs.Ytanfljajafelgaa
