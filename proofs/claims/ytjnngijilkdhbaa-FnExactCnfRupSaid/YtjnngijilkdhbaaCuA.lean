/- Mathematics of unit propagation: what follows of literals, one behind the other. -/
import Derived.Test.YtjnngijilkdhbaaCcB
import Derived.Test.YtjnngijilkdhbaaCfA
namespace Go.Proofs.Ytjnngijilkdhbaa
set_option linter.unusedVariables false
set_option linter.unusedSimpArgs false
/-- 1: put, -1: put the other way, 0: not put -/
def atU : List Int → Int → Int
  | [], _ => 0
  | y :: T, x => if y = x then 1 else if y = -x then -1 else atU T x
theorem atU_rng (T : List Int) (x : Int) : atU T x = 1 ∨ atU T x = 0 ∨ atU T x = -1 := by
  induction T with
  | nil => exact .inr (.inl rfl)
  | cons y T ih => unfold atU; split; exact .inl rfl; split; exact .inr (.inr rfl); exact ih
theorem atU_neg (T : List Int) {x : Int} (hx : x ≠ 0) : atU T (-x) = - atU T x := by
  induction T with
  | nil => rfl
  | cons y T ih =>
    unfold atU
    by_cases h1 : y = x
    · rw [if_neg (by omega), if_pos (by omega), if_pos h1]
    · by_cases h2 : y = -x
      · rw [if_pos h2, if_neg h1, if_pos h2]; rfl
      · rw [if_neg h2, if_neg (by omega), if_neg h1, if_neg h2, ih]
theorem atU_cons (y : Int) (T : List Int) (x : Int) : atU (y :: T) x = if y = x then 1 else if y = -x then -1 else atU T x := rfl
theorem atU_append (T R : List Int) (x : Int) : atU (T ++ R) x = if atU T x = 0 then atU R x else atU T x := by
  induction T with
  | nil => rfl
  | cons y T ih =>
    rw [List.cons_append, atU_cons, atU_cons]
    by_cases h1 : y = x
    · rw [if_pos h1, if_pos h1, if_neg (by omega)]
    · by_cases h2 : y = -x
      · rw [if_neg h1, if_pos h2, if_neg h1, if_pos h2, if_neg (by omega)]
      · rw [if_neg h1, if_neg h2, if_neg h1, if_neg h2, ih]
theorem atU_one (y x : Int) : atU [y] x = if y = x then 1 else if y = -x then -1 else 0 := rfl
/-- x is among the literals -/
def MemC (N : Nat) (Z : Nat → Int) (x : Int) : Prop := ∃ k, k < N ∧ Z k = x
def InjC (N : Nat) (Z : Nat → Int) : Prop := ∀ j k, j < N → k < N → Z j = Z k → j = k
/-- all literals are put the other way -/
def Fal (N : Nat) (Z : Nat → Int) (T : List Int) : Prop := ∀ x, MemC N Z x → atU T x = -1
/-- all literals but x are put the other way, and x is not put -/
def Uni (N : Nat) (Z : Nat → Int) (T : List Int) (x : Int) : Prop := MemC N Z x ∧ atU T x = 0 ∧ ∀ y, MemC N Z y → y ≠ x → atU T y = -1
def Idle (N : Nat) (Z : Nat → Int) (T : List Int) : Prop := ¬ Fal N Z T ∧ ∀ x, ¬ Uni N Z T x
theorem idle_true {N : Nat} {Z : Nat → Int} {T : List Int} {x : Int} (h : MemC N Z x) (ht : atU T x = 1) : Idle N Z T :=
  ⟨fun f => by have := f x h; omega, fun y hy => by
    by_cases e : x = y
    · subst e; have := hy.2.1; omega
    · have := hy.2.2 x h e; omega⟩
theorem idle_two {N : Nat} {Z : Nat → Int} {T : List Int} {x y : Int} (hx : MemC N Z x) (hy : MemC N Z y) (he : x ≠ y) (ht : atU T x ≠ -1) (hu : atU T y ≠ -1) : Idle N Z T :=
  ⟨fun f => ht (f x hx), fun z hz => by
    by_cases e : x = z
    · subst e; exact hu (hz.2.2 y hy (Ne.symm he))
    · exact ht (hz.2.2 x hx e)⟩
theorem uni_one {N : Nat} {Z : Nat → Int} {T : List Int} {x y : Int} (hx : Uni N Z T x) (hy : Uni N Z T y) : x = y := by
  by_cases e : x = y
  · exact e
  · have := hy.2.2 x hx.1 e; have := hx.2.1; omega
/-- what follows of T: T', and whether that can not be -/
inductive Ur (n : Nat) (L : Lls) : List Int → List Int → Bool → Prop
  | stop (T : List Int) (h : ∀ i, i < n → Idle (L.N i) (L.Z i) T) : Ur n L T T false
  | bad (T : List Int) (i : Nat) (hi : i < n) (hf : Fal (L.N i) (L.Z i) T) (h : ∀ j, j < i → Idle (L.N j) (L.Z j) T) : Ur n L T T true
  | step (T : List Int) (i : Nat) (x : Int) (T' : List Int) (b : Bool) (hi : i < n) (hu : Uni (L.N i) (L.Z i) T x) (h : ∀ j, j < i → Idle (L.N j) (L.Z j) T) (hr : Ur n L (T ++ [x]) T' b) : Ur n L T T' b
theorem fal_uni {N : Nat} {Z : Nat → Int} {T : List Int} {x : Int} (h : Fal N Z T) (hu : Uni N Z T x) : False := by
  have := h x hu.1; have := hu.2.1; omega
theorem Ur.det {n : Nat} {L : Lls} {T T1 T2 : List Int} {b1 b2 : Bool} (h1 : Ur n L T T1 b1) (h2 : Ur n L T T2 b2) : T1 = T2 ∧ b1 = b2 := by
  induction h1 generalizing T2 b2 with
  | stop T h =>
    cases h2 with
    | stop _ _ => exact ⟨rfl, rfl⟩
    | bad _ i hi hf _ => exact absurd hf (h i hi).1
    | step _ i x _ _ hi hu _ _ => exact absurd hu ((h i hi).2 x)
  | bad T i hi hf h =>
    cases h2 with
    | stop _ h' => exact absurd hf (h' i hi).1
    | bad _ j hj hf' h' => exact ⟨rfl, rfl⟩
    | step _ j x _ _ hj hu h' _ =>
      rcases Nat.lt_trichotomy i j with e | e | e
      · exact absurd hf (h' i e).1
      · subst e; exact (fal_uni hf hu).elim
      · exact absurd hu ((h j e).2 x)
  | step T i x T' b hi hu h hr ih =>
    cases h2 with
    | stop _ h' => exact absurd hu ((h' i hi).2 x)
    | bad _ j hj hf' h' =>
      rcases Nat.lt_trichotomy i j with e | e | e
      · exact absurd hu ((h' i e).2 x)
      · subst e; exact (fal_uni hf' hu).elim
      · exact absurd hf' (h j e).1
    | step _ j y _ _ hj hu' h' hr' =>
      rcases Nat.lt_trichotomy i j with e | e | e
      · exact absurd hu ((h' i e).2 x)
      · subst e; obtain rfl := uni_one hu hu'; exact ih hr'
      · exact absurd hu' ((h j e).2 y)
/-- the literals of T, by their variables -/
def setU (T : List Int) (v : Nat) : Int := if atU T v = 1 then v else if atU T v = -1 then -(v : Int) else 0
theorem setU_nil (v : Nat) : setU [] v = 0 := rfl
theorem setU_at {T : List Int} {x : Int} {v : Nat} (hv : vrC x = (v : Int)) (hx : x ≠ 0) : (setU T v = x ↔ atU T x = 1) ∧ (setU T v = -x ↔ atU T x = -1) ∧ (setU T v = 0 ↔ atU T x = 0) := by
  have h := atU_rng T v
  unfold vrC at hv
  split at hv
  · have e : x = -(v : Int) := by omega
    have hn := atU_neg T (x := (v : Int)) (by omega)
    rw [← e] at hn
    unfold setU
    rcases h with h | h | h
    · rw [if_pos h]; omega
    · rw [if_neg (by omega), if_neg (by omega)]; omega
    · rw [if_neg (by omega), if_pos h]; omega
  · have e : x = (v : Int) := by omega
    rw [← e] at h
    unfold setU
    rw [← e]
    rcases h with h | h | h
    · rw [if_pos h]; omega
    · rw [if_neg (by omega), if_neg (by omega)]; omega
    · rw [if_neg (by omega), if_pos h]; omega
theorem setU_push {T : List Int} {x : Int} {v : Nat} (hv : vrC x = (v : Int)) (hx : x ≠ 0) (h0 : atU T x = 0) (u : Nat) : setU (T ++ [x]) u = if u = v then x else setU T u := by
  by_cases e : u = v
  · subst e
    rw [if_pos rfl]
    refine ((setU_at hv hx).1).2 ?_
    rw [atU_append, if_pos h0, atU_one, if_pos rfl]
  · rw [if_neg e]
    have h1 : atU (T ++ [x]) u = atU T u := by
      rw [atU_append]
      split
      · rename_i h
        rw [atU_one, h]
        unfold vrC at hv
        split at hv
        · rw [if_neg (by omega), if_neg (by omega)]
        · rw [if_neg (by omega), if_neg (by omega)]
      · rfl
    unfold setU
    rw [h1]
theorem atU_push {T : List Int} {x y : Int} (h0 : atU T x = 0) (hx : x ≠ 0) : atU (T ++ [x]) y = if y = x then 1 else if y = -x then -1 else atU T y := by
  rw [atU_append, atU_one]
  by_cases h1 : y = x
  · subst h1; rw [if_pos h0, if_pos rfl, if_pos rfl]
  · by_cases h2 : y = -x
    · subst h2
      have := atU_neg T hx
      rw [if_pos (by omega), if_neg (by omega), if_pos (by omega), if_neg (by omega), if_pos rfl]
    · rw [if_neg h1, if_neg h2, if_neg (show ¬ x = y from fun e => h1 e.symm), if_neg (show ¬ x = -y by omega)]
      split
      · rename_i h; exact h.symm
      · rfl
/-- how many of the first n are so -/
def cntP (p : Nat → Bool) : Nat → Nat
  | 0 => 0
  | n + 1 => cntP p n + (if p n = true then 1 else 0)
theorem cntP_le (p : Nat → Bool) : ∀ n, cntP p n ≤ n
  | 0 => Nat.le_refl _
  | n + 1 => by unfold cntP; have := cntP_le p n; split <;> omega
theorem cntP_congr {p q : Nat → Bool} : ∀ {n}, (∀ i, i < n → p i = q i) → cntP p n = cntP q n
  | 0, _ => rfl
  | n + 1, h => by unfold cntP; rw [cntP_congr (n := n) (fun i hi => h i (by omega)), h n (by omega)]
theorem cntP_upd {p q : Nat → Bool} {k : Nat} : ∀ {n}, k < n → p k = true → q k = false → (∀ i, i < n → i ≠ k → q i = p i) → cntP p n = cntP q n + 1
  | 0, h, _, _, _ => by omega
  | n + 1, h, h1, h2, h3 => by
    unfold cntP
    by_cases e : k = n
    · subst e
      rw [if_pos h1, if_neg (by rw [h2]; simp), cntP_congr (p := p) (q := q) (n := k) (fun i hi => (h3 i (by omega) (by omega)).symm)]
    · have := cntP_upd (n := n) (by omega) h1 h2 (fun i hi => h3 i (by omega))
      rw [h3 n (by omega) (by omega), this]
      omega
theorem cntP_all {p : Nat → Bool} : ∀ {n}, (∀ i, i < n → p i = true) → cntP p n = n
  | 0, _ => rfl
  | n + 1, h => by unfold cntP; rw [cntP_all (n := n) (fun i hi => h i (by omega)), if_pos (h n (by omega))]
/-- how many of the variables 1 to m are not put -/
def frU (m : Nat) (T : List Int) : Nat := cntP (fun v => decide (setU T (v + 1) = 0)) m
/-- literals of the variables 1 to m, each variable once -/
inductive GoU (m : Int) : List Int → Prop
  | nil : GoU m []
  | push (T : List Int) (x : Int) (h : GoU m T) (h1 : ofC x m = true) (h0 : atU T x = 0) : GoU m (T ++ [x])
theorem of_vr {x m : Int} (h : ofC x m = true) : ∃ v : Nat, vrC x = (v : Int) ∧ 1 ≤ v ∧ (v : Int) ≤ m ∧ x ≠ 0 := by
  obtain ⟨h0, h1, h2⟩ := ofC_iff.1 h
  refine ⟨(vrC x).toNat, ?_⟩
  unfold vrC
  split <;> omega
theorem frU_push {m : Nat} {T : List Int} {x : Int} (h1 : ofC x m = true) (h0 : atU T x = 0) : frU m T = frU m (T ++ [x]) + 1 := by
  obtain ⟨v, hv, v1, v2, hx⟩ := of_vr h1
  refine cntP_upd (k := v - 1) (by omega) ?_ ?_ ?_
  · have e : v - 1 + 1 = v := by omega
    rw [e]
    exact decide_eq_true (((setU_at hv hx).2.2).2 h0)
  · have e : v - 1 + 1 = v := by omega
    rw [e, setU_push hv hx h0, if_pos rfl]
    exact decide_eq_false hx
  · intro i hi hne
    rw [setU_push hv hx h0, if_neg (by omega)]
theorem GoU.len {m : Nat} {T : List Int} (h : GoU m T) : T.length + frU m T = m := by
  generalize hm : (m : Int) = mi at h
  induction h with
  | nil => rw [List.length_nil, Nat.zero_add]; exact cntP_all (fun i hi => by rw [setU_nil]; rfl)
  | push T x h h1 h0 ih =>
    subst hm
    have := frU_push h1 h0
    have := ih
    rw [List.length_append, List.length_singleton]
    omega
end Go.Proofs.Ytjnngijilkdhbaa
