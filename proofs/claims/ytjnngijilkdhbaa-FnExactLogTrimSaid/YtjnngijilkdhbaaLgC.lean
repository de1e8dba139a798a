/- slices.Clone of numbers; a row of one's own whose rows are one's own and lie apart. -/
import Derived.Test.YtjnngijilkdhbaaLgA
import Derived.Test.YtjnngijilkdhbaaLeA
namespace Go.Proofs.Ytjnngijilkdhbaa
set_option linter.unusedVariables false
set_option linter.unusedSimpArgs false
open Go.RowKit
theorem own_numsF {W w : World} {base n : Nat} {v : Value} {Z : Nat → Int} (hB : W.heap.size ≤ base) (h : w.ownsRow base 3 1 v n (valsI (putL n Z))) : ∃ A c, v = .slice A n c ∧ OwnI W w A n Z := by
  have h4 : w.ownsRow base 3 1 v (putL n Z).length (valsI (putL n Z)) := by rw [putL_len]; exact h
  obtain ⟨A, c, e, hO⟩ := own_intsC hB h4
  rw [putL_len] at e hO
  exact ⟨A, c, e, hO.congrU fun k hk => by rw [List.getD_eq_getElem?_getD]; unfold putL; rw [List.getElem?_map, List.getElem?_range hk]; rfl⟩
theorem eql_nil (A : Option Addr) (n c : Nat) (w : World) : (binOp .eql 38 (.slice A n c) (.slice none 0 0)).run Try.prog w = .ok (.bool A.isNone) w := by
  have h : (Op.equal 38 (.slice A n c) (.slice none 0 0)).run Try.prog w = .ok A.isNone w := by
    unfold Op.equal
    rw [show Op.maxDepth = 9999 + 1 from rfl]
    generalize 9999 = d
    unfold Op.equalIn
    cases A <;> simp [Sem.run_bind, run_underlying Try.underlying38]
  unfold binOp
  simp only [Sem.run_bind, h, Result.andThen_ok, Sem.run_pure]
set_option maxHeartbeats 2000000 in
theorem clone_any (A : Option Addr) (n c : Nat) (Z : Nat → Int) (w : World) (hn : n ≤ 1048576) (hA : Ints w A n Z) :
    Calls Try.prog 37 #[.slice A n c] w fun e w' => (∃ A' c', e = .returned (.slice A' n c') ∧ w'.ownsRow w.heap.size 3 1 (.slice A' n c') n (valsI (putL n Z))) ∧ Below w.heap.size w w' := by
  cases A with
  | none =>
    have h0 : n = 0 := by
      rcases hA with h | ⟨g, off, h, _⟩
      · exact h
      · exact absurd h (by simp)
    subst h0
    go_enter Try.func37, Try.ntmps37
    have hq := eql_nil none 0 c w
    go_wp2
    go_ret
    exact ⟨⟨none, 0, rfl, World.ownsRow_nil _ _ _ _⟩, Below.refl _ _⟩
  | some ad =>
    have hE := own_empU w 3 w.heap.size (Nat.le_refl _)
    have CE := bal (Below.refl w.heap.size w) (.cells #[] 3)
    have hBE := hA.below CE
    have hsz := CE.size
    have hq := eql_nil (some ad) n c w
    simp only [Option.isNone] at hq
    go_enter Try.func37, Try.ntmps37
    go_wp2_with (at_builtin; refine wpList_app0U rfl _ _ rfl w.heap.size w.heap.size rfl hE (some ad) n c Z rfl hn hBE hsz ?_; intro v3 w3 hown3 hgrow3)
    obtain ⟨A', c', rfl, hO⟩ := own_numsF (W := w) (Nat.le_refl _) hown3
    go_ret
    exact ⟨⟨A', c', rfl, hown3⟩, CE.grown hgrow3 hsz (fun r e => by cases e; exact Nat.le_refl _)⟩
/-- rows of one's own, apart, in a row of one's own -/
def RN (w0 W : World) (v : Value) (k : Nat) (M : Lls) : Prop :=
  ∃ (xs : List Value) (LA : Nat → Option Addr) (LC : Nat → Nat), W.ownsRow w0.heap.size 38 1 v k xs ∧ (∀ j, j < k → xs[j]? = some (.slice (LA j) (M.N j) (LC j)) ∧ W.ownsRow w0.heap.size 3 1 (.slice (LA j) (M.N j) (LC j)) (M.N j) (valsI (putL (M.N j) (M.Z j)))) ∧ ∀ i j, i < k → j < k → i ≠ j → M.N i ≠ 0 → M.N j ≠ 0 → LA i ≠ LA j
theorem RN.nil (w0 W : World) (M : Lls) : RN w0 W (.slice none 0 0) 0 M := ⟨[], fun _ => none, fun _ => 0, World.ownsRow_nil _ _ _ _, fun j hj => by omega, fun i j hi => by omega⟩
theorem RN.below {w0 W W' : World} {v : Value} {k : Nat} {M : Lls} (h : RN w0 W v k M) (hb : Below W.heap.size W W') : RN w0 W' v k M := by
  obtain ⟨xs, LA, LC, h1, h2, h3⟩ := h
  exact ⟨xs, LA, LC, own_belowU hb h1, fun j hj => ⟨(h2 j hj).1, own_belowU hb (h2 j hj).2⟩, h3⟩
theorem RN.slice2 {w0 W : World} {v : Value} {n : Nat} {M : Lls} (h : RN w0 W v n M) : ∃ a c, v = .slice a n c ∧ n ≤ c ∧ c ≤ 9223372036854775807 := by
  obtain ⟨xs, _, _, h1, _⟩ := h
  rcases h1.2 with ⟨rfl, h0⟩ | ⟨g, cap, cur, rfl, _, _, h3, h4, _⟩
  · exact ⟨none, 0, by rw [h0], by omega, by omega⟩
  · exact ⟨_, cap, rfl, h3, by unfold maxLen at h4; omega⟩
/-- one more row, cloned after the others, appended -/
theorem RN.push {w0 W W1 W2 W3 : World} {v v' : Value} {k c : Nat} {A : Option Addr} {M : Lls} {xs : List Value} {LA : Nat → Option Addr} {LC : Nat → Nat} (h1 : W.ownsRow w0.heap.size 38 1 v k xs) (h2 : ∀ j, j < k → xs[j]? = some (.slice (LA j) (M.N j) (LC j)) ∧ W.ownsRow w0.heap.size 3 1 (.slice (LA j) (M.N j) (LC j)) (M.N j) (valsI (putL (M.N j) (M.Z j)))) (h3 : ∀ i j, i < k → j < k → i ≠ j → M.N i ≠ 0 → M.N j ≠ 0 → LA i ≠ LA j)
    (hO : W1.ownsRow W.heap.size 3 1 (.slice A (M.N k) c) (M.N k) (valsI (putL (M.N k) (M.Z k)))) (hb1 : Below W.heap.size W W1) (hb2 : Below W1.heap.size W1 W2)
    (hg : W2.grownBy W3 v.ownBlock) (hown : W3.ownsRow w0.heap.size 38 1 v' (k + 1) (xs ++ [.slice A (M.N k) c])) (hw : w0.heap.size ≤ W.heap.size) : RN w0 W3 v' (k + 1) M := by
  have hb := btr hb1 hb2
  have h1' := own_belowU hb h1
  have hxl : xs.length = k := by have := h1.1; omega
  have kp : ∀ (u : Value) (N : Nat) (ys : List Value), W2.ownsRow w0.heap.size 3 1 u N ys → W3.ownsRow w0.heap.size 3 1 u N ys := fun u N ys h =>
    h.kept hg (by
      rcases hu : u.ownBlock with _ | g
      · exact .inl rfl
      · exact .inr fun e => absurd (own_ty2 h h1' hu e.symm) (by decide))
  have hO2 : W2.ownsRow w0.heap.size 3 1 (.slice A (M.N k) c) (M.N k) (valsI (putL (M.N k) (M.Z k))) := own_belowU hb2 (own_base hO hw)
  refine ⟨_, fun j => if j < k then LA j else A, fun j => if j < k then LC j else c, hown, fun j hj => ?_, fun i j hi hj hne hNi hNj => ?_⟩
  · by_cases hjk : j < k
    · simp only [if_pos hjk]
      exact ⟨by rw [List.getElem?_append_left (by omega)]; exact (h2 j hjk).1, kp _ _ _ (own_belowU hb (h2 j hjk).2)⟩
    · obtain rfl : j = k := by omega
      simp only [if_neg hjk]
      exact ⟨by rw [List.getElem?_append_right (by omega), hxl, Nat.sub_self]; rfl, kp _ _ _ hO2⟩
  · have key : ∀ i, i < k → M.N i ≠ 0 → M.N k ≠ 0 → LA i ≠ A := fun i hi h0 hk0 e => by
      rcases (h2 i hi).2.2 with ⟨_, h⟩ | ⟨g1, _, _, e1, _, g3, _⟩
      · exact h0 h
      rcases hO.2 with ⟨_, h⟩ | ⟨g2, _, _, e2, g4, _⟩
      · exact hk0 h
      injection e1 with e1 _ _
      injection e2 with e2 _ _
      rw [e1, e2] at e
      injection e with e
      injection e with e _ _
      have := (Array.getElem?_eq_some_iff.1 g3).1
      omega
    by_cases hik : i < k
    · by_cases hjk : j < k
      · simp only [if_pos hik, if_pos hjk]; exact h3 i j hik hjk hne hNi hNj
      · obtain rfl : j = k := by omega
        simp only [if_pos hik, if_neg hjk]; exact key i hik hNi hNj
    · obtain rfl : i = k := by omega
      have hjk : j < i := by omega
      simp only [if_neg hik, if_pos hjk]; exact fun e => key j hjk hNj hNi e.symm
noncomputable def trimS (n : Nat) (L : Lls) (m : Int) (N : Nat) (M : Lls) : Nat × Lls := if (lokB n L m N M && leB N M) = true then trimM n L m (N - 1) (N, M) else (0, M)
def TrP (w : World) (n : Nat) (L : Lls) (m : Int) (N : Nat) (M : Lls) (e : Ending) (w' : World) : Prop :=
  ∃ v, e = .returned (.tuple #[v, .bool (lokB n L m N M && leB N M)]) ∧ RN w w' v (trimS n L m N M).1 (trimS n L m N M).2
end Go.Proofs.Ytjnngijilkdhbaa
