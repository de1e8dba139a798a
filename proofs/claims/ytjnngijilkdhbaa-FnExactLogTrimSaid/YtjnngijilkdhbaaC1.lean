/- Several texts in one: CuA, CuB, CuC, AppF, CuD, CuE, CuF, CuG, CuH, CuI. -/
import Derived.Test.YtjnngijilkdhbaaCcB
import Derived.Test.YtjnngijilkdhbaaCfA
import Derived.Test.YtjnngijilkdhbaaCfC
import Derived.Test.YtjnngijilkdhbaaCcA
import Derived.Test.YtjnngijilkdhbaaPlanC
import Derived.RegionTactic
import Derived.ChangeAlike
import Derived.BigRegion
import Derived.Deep.QuietTactic
namespace Go.Proofs.Ytjnngijilkdhbaa
set_option linter.unusedVariables false
set_option linter.unusedSimpArgs false
/-- 1: put, -1: put the other way, 0: not put -/
def atU : List Int → Int → Int
  | [], _ => 0
  | y :: T, x => if y = x then 1 else if y = -x then -1 else atU T x
theorem atU_rng (T : List Int) (x : Int) : atU T x = 1 ∨ atU T x = 0 ∨ atU T x = -1 := by
  induction T with
  | nil => exact .inr (.inl rfl)
  | cons y T ih => unfold atU; split; exact .inl rfl; split; exact .inr (.inr rfl); exact ih
theorem atU_neg (T : List Int) {x : Int} (hx : x ≠ 0) : atU T (-x) = - atU T x := by
  induction T with
  | nil => rfl
  | cons y T ih =>
    unfold atU
    by_cases h1 : y = x
    · rw [if_neg (by omega), if_pos (by omega), if_pos h1]
    · by_cases h2 : y = -x
      · rw [if_pos h2, if_neg h1, if_pos h2]; rfl
      · rw [if_neg h2, if_neg (by omega), if_neg h1, if_neg h2, ih]
theorem atU_cons (y : Int) (T : List Int) (x : Int) : atU (y :: T) x = if y = x then 1 else if y = -x then -1 else atU T x := rfl
theorem atU_append (T R : List Int) (x : Int) : atU (T ++ R) x = if atU T x = 0 then atU R x else atU T x := by
  induction T with
  | nil => rfl
  | cons y T ih =>
    rw [List.cons_append, atU_cons, atU_cons]
    by_cases h1 : y = x
    · rw [if_pos h1, if_pos h1, if_neg (by omega)]
    · by_cases h2 : y = -x
      · rw [if_neg h1, if_pos h2, if_neg h1, if_pos h2, if_neg (by omega)]
      · rw [if_neg h1, if_neg h2, if_neg h1, if_neg h2, ih]
theorem atU_one (y x : Int) : atU [y] x = if y = x then 1 else if y = -x then -1 else 0 := rfl
/-- x is among the literals -/
def MemC (N : Nat) (Z : Nat → Int) (x : Int) : Prop := ∃ k, k < N ∧ Z k = x
def InjC (N : Nat) (Z : Nat → Int) : Prop := ∀ j k, j < N → k < N → Z j = Z k → j = k
/-- all literals are put the other way -/
def Fal (N : Nat) (Z : Nat → Int) (T : List Int) : Prop := ∀ x, MemC N Z x → atU T x = -1
/-- all literals but x are put the other way, and x is not put -/
def Uni (N : Nat) (Z : Nat → Int) (T : List Int) (x : Int) : Prop := MemC N Z x ∧ atU T x = 0 ∧ ∀ y, MemC N Z y → y ≠ x → atU T y = -1
def Idle (N : Nat) (Z : Nat → Int) (T : List Int) : Prop := ¬ Fal N Z T ∧ ∀ x, ¬ Uni N Z T x
theorem idle_true {N : Nat} {Z : Nat → Int} {T : List Int} {x : Int} (h : MemC N Z x) (ht : atU T x = 1) : Idle N Z T :=
  ⟨fun f => by have := f x h; omega, fun y hy => by
    by_cases e : x = y
    · subst e; have := hy.2.1; omega
    · have := hy.2.2 x h e; omega⟩
theorem idle_two {N : Nat} {Z : Nat → Int} {T : List Int} {x y : Int} (hx : MemC N Z x) (hy : MemC N Z y) (he : x ≠ y) (ht : atU T x ≠ -1) (hu : atU T y ≠ -1) : Idle N Z T :=
  ⟨fun f => ht (f x hx), fun z hz => by
    by_cases e : x = z
    · subst e; exact hu (hz.2.2 y hy (Ne.symm he))
    · exact ht (hz.2.2 x hx e)⟩
theorem uni_one {N : Nat} {Z : Nat → Int} {T : List Int} {x y : Int} (hx : Uni N Z T x) (hy : Uni N Z T y) : x = y := by
  by_cases e : x = y
  · exact e
  · have := hy.2.2 x hx.1 e; have := hx.2.1; omega
/-- what follows of T: T', and whether that can not be -/
inductive Ur (n : Nat) (L : Lls) : List Int → List Int → Bool → Prop
  | stop (T : List Int) (h : ∀ i, i < n → Idle (L.N i) (L.Z i) T) : Ur n L T T false
  | bad (T : List Int) (i : Nat) (hi : i < n) (hf : Fal (L.N i) (L.Z i) T) (h : ∀ j, j < i → Idle (L.N j) (L.Z j) T) : Ur n L T T true
  | step (T : List Int) (i : Nat) (x : Int) (T' : List Int) (b : Bool) (hi : i < n) (hu : Uni (L.N i) (L.Z i) T x) (h : ∀ j, j < i → Idle (L.N j) (L.Z j) T) (hr : Ur n L (T ++ [x]) T' b) : Ur n L T T' b
theorem fal_uni {N : Nat} {Z : Nat → Int} {T : List Int} {x : Int} (h : Fal N Z T) (hu : Uni N Z T x) : False := by
  have := h x hu.1; have := hu.2.1; omega
theorem Ur.det {n : Nat} {L : Lls} {T T1 T2 : List Int} {b1 b2 : Bool} (h1 : Ur n L T T1 b1) (h2 : Ur n L T T2 b2) : T1 = T2 ∧ b1 = b2 := by
  induction h1 generalizing T2 b2 with
  | stop T h =>
    cases h2 with
    | stop _ _ => exact ⟨rfl, rfl⟩
    | bad _ i hi hf _ => exact absurd hf (h i hi).1
    | step _ i x _ _ hi hu _ _ => exact absurd hu ((h i hi).2 x)
  | bad T i hi hf h =>
    cases h2 with
    | stop _ h' => exact absurd hf (h' i hi).1
    | bad _ j hj hf' h' => exact ⟨rfl, rfl⟩
    | step _ j x _ _ hj hu h' _ =>
      rcases Nat.lt_trichotomy i j with e | e | e
      · exact absurd hf (h' i e).1
      · subst e; exact (fal_uni hf hu).elim
      · exact absurd hu ((h j e).2 x)
  | step T i x T' b hi hu h hr ih =>
    cases h2 with
    | stop _ h' => exact absurd hu ((h' i hi).2 x)
    | bad _ j hj hf' h' =>
      rcases Nat.lt_trichotomy i j with e | e | e
      · exact absurd hu ((h' i e).2 x)
      · subst e; exact (fal_uni hf' hu).elim
      · exact absurd hf' (h j e).1
    | step _ j y _ _ hj hu' h' hr' =>
      rcases Nat.lt_trichotomy i j with e | e | e
      · exact absurd hu ((h' i e).2 x)
      · subst e; obtain rfl := uni_one hu hu'; exact ih hr'
      · exact absurd hu' ((h j e).2 y)
/-- the literals of T, by their variables -/
def setU (T : List Int) (v : Nat) : Int := if atU T v = 1 then v else if atU T v = -1 then -(v : Int) else 0
theorem setU_nil (v : Nat) : setU [] v = 0 := rfl
theorem setU_at {T : List Int} {x : Int} {v : Nat} (hv : vrC x = (v : Int)) (hx : x ≠ 0) : (setU T v = x ↔ atU T x = 1) ∧ (setU T v = -x ↔ atU T x = -1) ∧ (setU T v = 0 ↔ atU T x = 0) := by
  have h := atU_rng T v
  unfold vrC at hv
  split at hv
  · have e : x = -(v : Int) := by omega
    have hn := atU_neg T (x := (v : Int)) (by omega)
    rw [← e] at hn
    unfold setU
    rcases h with h | h | h
    · rw [if_pos h]; omega
    · rw [if_neg (by omega), if_neg (by omega)]; omega
    · rw [if_neg (by omega), if_pos h]; omega
  · have e : x = (v : Int) := by omega
    rw [← e] at h
    unfold setU
    rw [← e]
    rcases h with h | h | h
    · rw [if_pos h]; omega
    · rw [if_neg (by omega), if_neg (by omega)]; omega
    · rw [if_neg (by omega), if_pos h]; omega
theorem setU_push {T : List Int} {x : Int} {v : Nat} (hv : vrC x = (v : Int)) (hx : x ≠ 0) (h0 : atU T x = 0) (u : Nat) : setU (T ++ [x]) u = if u = v then x else setU T u := by
  by_cases e : u = v
  · subst e
    rw [if_pos rfl]
    refine ((setU_at hv hx).1).2 ?_
    rw [atU_append, if_pos h0, atU_one, if_pos rfl]
  · rw [if_neg e]
    have h1 : atU (T ++ [x]) u = atU T u := by
      rw [atU_append]
      split
      · rename_i h
        rw [atU_one, h]
        unfold vrC at hv
        split at hv
        · rw [if_neg (by omega), if_neg (by omega)]
        · rw [if_neg (by omega), if_neg (by omega)]
      · rfl
    unfold setU
    rw [h1]
theorem atU_push {T : List Int} {x y : Int} (h0 : atU T x = 0) (hx : x ≠ 0) : atU (T ++ [x]) y = if y = x then 1 else if y = -x then -1 else atU T y := by
  rw [atU_append, atU_one]
  by_cases h1 : y = x
  · subst h1; rw [if_pos h0, if_pos rfl, if_pos rfl]
  · by_cases h2 : y = -x
    · subst h2
      have := atU_neg T hx
      rw [if_pos (by omega), if_neg (by omega), if_pos (by omega), if_neg (by omega), if_pos rfl]
    · rw [if_neg h1, if_neg h2, if_neg (show ¬ x = y from fun e => h1 e.symm), if_neg (show ¬ x = -y by omega)]
      split
      · rename_i h; exact h.symm
      · rfl
/-- how many of the first n are so -/
def cntP (p : Nat → Bool) : Nat → Nat
  | 0 => 0
  | n + 1 => cntP p n + (if p n = true then 1 else 0)
theorem cntP_le (p : Nat → Bool) : ∀ n, cntP p n ≤ n
  | 0 => Nat.le_refl _
  | n + 1 => by unfold cntP; have := cntP_le p n; split <;> omega
theorem cntP_congr {p q : Nat → Bool} : ∀ {n}, (∀ i, i < n → p i = q i) → cntP p n = cntP q n
  | 0, _ => rfl
  | n + 1, h => by unfold cntP; rw [cntP_congr (n := n) (fun i hi => h i (by omega)), h n (by omega)]
theorem cntP_upd {p q : Nat → Bool} {k : Nat} : ∀ {n}, k < n → p k = true → q k = false → (∀ i, i < n → i ≠ k → q i = p i) → cntP p n = cntP q n + 1
  | 0, h, _, _, _ => by omega
  | n + 1, h, h1, h2, h3 => by
    unfold cntP
    by_cases e : k = n
    · subst e
      rw [if_pos h1, if_neg (by rw [h2]; simp), cntP_congr (p := p) (q := q) (n := k) (fun i hi => (h3 i (by omega) (by omega)).symm)]
    · have := cntP_upd (n := n) (by omega) h1 h2 (fun i hi => h3 i (by omega))
      rw [h3 n (by omega) (by omega), this]
      omega
theorem cntP_all {p : Nat → Bool} : ∀ {n}, (∀ i, i < n → p i = true) → cntP p n = n
  | 0, _ => rfl
  | n + 1, h => by unfold cntP; rw [cntP_all (n := n) (fun i hi => h i (by omega)), if_pos (h n (by omega))]
/-- how many of the variables 1 to m are not put -/
def frU (m : Nat) (T : List Int) : Nat := cntP (fun v => decide (setU T (v + 1) = 0)) m
/-- literals of the variables 1 to m, each variable once -/
inductive GoU (m : Int) : List Int → Prop
  | nil : GoU m []
  | push (T : List Int) (x : Int) (h : GoU m T) (h1 : ofC x m = true) (h0 : atU T x = 0) : GoU m (T ++ [x])
theorem of_vr {x m : Int} (h : ofC x m = true) : ∃ v : Nat, vrC x = (v : Int) ∧ 1 ≤ v ∧ (v : Int) ≤ m ∧ x ≠ 0 := by
  obtain ⟨h0, h1, h2⟩ := ofC_iff.1 h
  refine ⟨(vrC x).toNat, ?_⟩
  unfold vrC
  split <;> omega
theorem frU_push {m : Nat} {T : List Int} {x : Int} (h1 : ofC x m = true) (h0 : atU T x = 0) : frU m T = frU m (T ++ [x]) + 1 := by
  obtain ⟨v, hv, v1, v2, hx⟩ := of_vr h1
  refine cntP_upd (k := v - 1) (by omega) ?_ ?_ ?_
  · have e : v - 1 + 1 = v := by omega
    rw [e]
    exact decide_eq_true (((setU_at hv hx).2.2).2 h0)
  · have e : v - 1 + 1 = v := by omega
    rw [e, setU_push hv hx h0, if_pos rfl]
    exact decide_eq_false hx
  · intro i hi hne
    rw [setU_push hv hx h0, if_neg (by omega)]
theorem GoU.len {m : Nat} {T : List Int} (h : GoU m T) : T.length + frU m T = m := by
  generalize hm : (m : Int) = mi at h
  induction h with
  | nil => rw [List.length_nil, Nat.zero_add]; exact cntP_all (fun i hi => by rw [setU_nil]; rfl)
  | push T x h h1 h0 ih =>
    subst hm
    have := frU_push h1 h0
    have := ih
    rw [List.length_append, List.length_singleton]
    omega
end Go.Proofs.Ytjnngijilkdhbaa

namespace Go.Proofs.Ytjnngijilkdhbaa
set_option linter.unusedVariables false
set_option linter.unusedSimpArgs false
def plc (x : Int) : Nat := (60 + x).toNat
theorem plc_inj {x y : Int} (hx : ofC x 60 = true) (hy : ofC y 60 = true) (h : plc x = plc y) : x = y := by
  have := ofC_iff.1 hx; have := ofC_iff.1 hy; unfold plc at h; omega
def swp (a b : Nat) (c : Nat → Int) : Nat → Int := fun k => if k = a then c b else if k = b then c a else c k
theorem swp_mem {N a b : Nat} {c : Nat → Int} (ha : a < N) (hb : b < N) (x : Int) : MemC N (swp a b c) x ↔ MemC N c x := by
  constructor
  · rintro ⟨k, hk, h⟩
    unfold swp at h
    split at h
    · exact ⟨b, hb, h⟩
    · split at h
      · exact ⟨a, ha, h⟩
      · exact ⟨k, hk, h⟩
  · rintro ⟨k, hk, h⟩
    by_cases e1 : k = a
    · subst e1
      by_cases e2 : b = k
      · subst e2; exact ⟨b, hb, by unfold swp; rw [if_pos rfl]; exact h⟩
      · exact ⟨b, hb, by unfold swp; rw [if_neg e2, if_pos rfl]; exact h⟩
    · by_cases e2 : k = b
      · subst e2; exact ⟨a, ha, by unfold swp; rw [if_pos rfl]; exact h⟩
      · exact ⟨k, hk, by unfold swp; rw [if_neg e1, if_neg e2]; exact h⟩
theorem swp_inj {N a b : Nat} {c : Nat → Int} (ha : a < N) (hb : b < N) (h : InjC N c) : InjC N (swp a b c) := by
  intro j k hj hk e
  unfold swp at e
  by_cases j1 : j = a
  · rw [if_pos j1] at e
    by_cases k1 : k = a
    · omega
    · rw [if_neg k1] at e
      by_cases k2 : k = b
      · rw [if_pos k2] at e; have := h b a hb ha e; omega
      · rw [if_neg k2] at e; have := h b k hb hk e; omega
  · rw [if_neg j1] at e
    by_cases j2 : j = b
    · rw [if_pos j2] at e
      by_cases k1 : k = a
      · rw [if_pos k1] at e; have := h a b ha hb e; omega
      · rw [if_neg k1] at e
        by_cases k2 : k = b
        · omega
        · rw [if_neg k2] at e; have := h a k ha hk e; omega
    · rw [if_neg j2] at e
      by_cases k1 : k = a
      · rw [if_pos k1] at e; have := h j b hj hb e; omega
      · rw [if_neg k1] at e
        by_cases k2 : k = b
        · rw [if_pos k2] at e; have := h j a hj ha e; omega
        · rw [if_neg k2] at e; exact h j k hj hk e
/-- the one that is gone comes second -/
def sw01 (g : Int) (c : Nat → Int) : Nat → Int := if c 0 = g then swp 0 1 c else c
theorem sw01_mem {N : Nat} {c : Nat → Int} {g : Int} (hN : 2 ≤ N) (x : Int) : MemC N (sw01 g c) x ↔ MemC N c x := by
  unfold sw01; split
  · exact swp_mem (by omega) (by omega) x
  · exact Iff.rfl
theorem sw01_inj {N : Nat} {c : Nat → Int} {g : Int} (hN : 2 ≤ N) (h : InjC N c) : InjC N (sw01 g c) := by
  unfold sw01; split
  · exact swp_inj (by omega) (by omega) h
  · exact h
def D1 (N : Nat) (c : Nat → Int) (T : List Int) : Prop := ∀ k, 1 ≤ k → k < N → atU T (c k) = -1
def D2 (N : Nat) (c : Nat → Int) (T : List Int) (m : Int) : Prop := (0 < N ∧ (atU T (c 0) = 1 ∨ c 0 = m)) ∨ (2 ≤ N ∧ atU T (c 0) ≠ -1 ∧ atU T (c 1) ≠ -1)
def Dd (N : Nat) (c : Nat → Int) (T : List Int) (m : Int) (d : Bool) : Prop := if d = true then D1 N c T else D2 N c T m
/-- what holds of the clauses and of who watches them -/
structure InvB (n : Nat) (L : Lls) (C : Nat → Nat → Int) (Wl : Nat → List Nat) (T : List Int) : Prop where
  perm : ∀ i, i < n → ∀ x, MemC (L.N i) (C i) x ↔ MemC (L.N i) (L.Z i) x
  inj : ∀ i, i < n → InjC (L.N i) (C i)
  wat : ∀ i, i < n → 2 ≤ L.N i → i ∈ Wl (plc (C i 0)) ∧ i ∈ Wl (plc (C i 1))
  wok : ∀ x, ofC x 60 = true → ∀ i, i ∈ Wl (plc x) → i < n ∧ 2 ≤ L.N i ∧ (atU T x = -1 ∨ C i 0 = x ∨ C i 1 = x)
  nod : ∀ x, ofC x 60 = true → atU T x ≠ -1 → (Wl (plc x)).Nodup
/-- all literals are of the variables 1 to 60 -/
def LitL (n : Nat) (L : Lls) : Prop := ∀ i, i < n → ∀ x, MemC (L.N i) (L.Z i) x → ofC x 60 = true
def InvD (n : Nat) (L : Lls) (C : Nat → Nat → Int) (due : Nat → Bool) (T : List Int) (m : Int) : Prop := ∀ i, i < n → Dd (L.N i) (C i) T m (due i)
/-- the literal m was put, and q of the clauses that watch its negation were looked at -/
structure Mid (n : Nat) (L : Lls) (C : Nat → Nat → Int) (Wl : Nat → List Nat) (due : Nat → Bool) (T : List Int) (m : Int) (l : List Nat) (q : Nat) : Prop where
  base : InvB n L C Wl (T ++ [m])
  hl : Wl (plc (-m)) = l
  nd : l.Nodup
  rest : ∀ j i, q ≤ j → l[j]? = some i → (C i 0 = -m ∨ C i 1 = -m) ∧ Dd (L.N i) (C i) T m (due i)
  done : ∀ i, i < n → (∀ j, q ≤ j → l[j]? ≠ some i) → Dd (L.N i) (C i) (T ++ [m]) 0 (due i)
section
variable {n : Nat} {L : Lls} {C : Nat → Nat → Int} {Wl : Nat → List Nat} {due : Nat → Bool} {T : List Int} {m : Int} {l : List Nat} {q : Nat}
theorem fal_push (h0 : atU T m = 0) (hm : m ≠ 0) {x : Int} (h : atU T x = -1) : atU (T ++ [m]) x = -1 := by
  rw [atU_push h0 hm]
  split
  · rename_i e; subst e; omega
  · split
    · rfl
    · exact h
theorem tru_push (h0 : atU T m = 0) (hm : m ≠ 0) {x : Int} (h : atU T x = 1) : atU (T ++ [m]) x = 1 := by
  rw [atU_push h0 hm]
  split
  · rfl
  · split
    · rename_i e; subst e; have := atU_neg T hm; omega
    · exact h
theorem not_push (h0 : atU T m = 0) (hm : m ≠ 0) {x : Int} (h : atU T x ≠ -1) (he : x ≠ -m) : atU (T ++ [m]) x ≠ -1 := by
  rw [atU_push h0 hm, if_neg (show ¬ x = -m from he)]
  split
  · omega
  · exact h
theorem mem_lit (hL : LitL n L) (h : InvB n L C Wl T) {i k : Nat} (hi : i < n) (hk : k < L.N i) : ofC (C i k) 60 = true :=
  hL i hi _ ((h.perm i hi _).1 ⟨k, hk, rfl⟩)
theorem mid_start (hL : LitL n L) (h : InvB n L C Wl T) (hd : InvD n L C due T m) (hm : ofC m 60 = true) (h0 : atU T m = 0) : Mid n L C Wl due T m (Wl (plc (-m))) 0 := by
  have hm0 : m ≠ 0 := (ofC_iff.1 hm).1
  have hmn : ofC (-m) 60 = true := by have := ofC_iff.1 hm; exact ofC_iff.2 ⟨by omega, by omega, by omega⟩
  have hn0 : atU T (-m) = 0 := by rw [atU_neg T hm0, h0]; rfl
  refine ⟨⟨h.perm, h.inj, h.wat, fun x hx i hi => ?_, fun x hx hn => h.nod x hx fun e => hn (fal_push h0 hm0 e)⟩, rfl, h.nod _ hmn (by omega), fun j i _ hj => ?_, fun i hi hno => ?_⟩
  · obtain ⟨a, b, c⟩ := h.wok x hx i hi
    exact ⟨a, b, c.imp (fal_push h0 hm0) id⟩
  · have hi := List.mem_of_getElem? hj
    obtain ⟨a, b, c⟩ := h.wok _ hmn i hi
    exact ⟨c.resolve_left (by omega), hd i a⟩
  · have hx := hd i hi
    unfold Dd at hx ⊢
    have hnot : i ∉ Wl (plc (-m)) := fun hmem => by
      obtain ⟨j, hj⟩ := List.getElem?_of_mem hmem
      exact hno j (Nat.zero_le _) hj
    split
    · rename_i e; rw [if_pos e] at hx
      exact fun k k1 k2 => fal_push h0 hm0 (hx k k1 k2)
    · rename_i e; rw [if_neg e] at hx
      rcases hx with ⟨a, b⟩ | ⟨a, b, c⟩
      · refine .inl ⟨a, .inl ?_⟩
        rcases b with b | b
        · exact tru_push h0 hm0 b
        · rw [b, atU_push h0 hm0, if_pos rfl]
      · obtain ⟨w0, w1⟩ := h.wat i hi a
        exact .inr ⟨a, not_push h0 hm0 b (fun e => hnot (e ▸ w0)), not_push h0 hm0 c (fun e => hnot (e ▸ w1))⟩
theorem mid_end (h : Mid n L C Wl due T m l l.length) : InvB n L C Wl (T ++ [m]) ∧ InvD n L C due (T ++ [m]) 0 :=
  ⟨h.base, fun i hi => h.done i hi fun j hj e => by
    have := (List.getElem?_eq_some_iff.1 e).1
    omega⟩
theorem mid_at (hL : LitL n L) (h : Mid n L C Wl due T m l q) {i : Nat} (hq : l[q]? = some i) (hm : ofC m 60 = true) : i < n ∧ 2 ≤ L.N i ∧ (C i 0 = -m ∨ C i 1 = -m) := by
  have hmn : ofC (-m) 60 = true := by have := ofC_iff.1 hm; exact ofC_iff.2 ⟨by omega, by omega, by omega⟩
  obtain ⟨a, b, _⟩ := h.base.wok _ hmn i (by rw [h.hl]; exact List.mem_of_getElem? hq)
  exact ⟨a, b, (h.rest q i (Nat.le_refl _) hq).1⟩
/-- the clause that is looked at, with the one that is gone behind: what holds of it -/
theorem mid_front (hL : LitL n L) (h : Mid n L C Wl due T m l q) {i : Nat} (hq : l[q]? = some i) (hm : ofC m 60 = true) (h0 : atU T m = 0) :
    sw01 (-m) (C i) 1 = -m ∧ sw01 (-m) (C i) 0 ≠ -m ∧
      ((∀ k, k < L.N i → sw01 (-m) (C i) k ≠ -m → atU (T ++ [m]) (sw01 (-m) (C i) k) = -1) ∨ atU (T ++ [m]) (sw01 (-m) (C i) 0) = 1 ∨ atU (T ++ [m]) (sw01 (-m) (C i) 0) ≠ -1) := by
  obtain ⟨hi, h2, hc⟩ := mid_at hL h hq hm
  have hm0 : m ≠ 0 := (ofC_iff.1 hm).1
  have hinj := h.base.inj i hi
  have hd := (h.rest q i (Nat.le_refl _) hq).2
  have hn0 : atU T (-m) = 0 := by rw [atU_neg T hm0, h0]; rfl
  unfold Dd at hd
  unfold sw01
  by_cases e : C i 0 = -m
  · rw [if_pos e]
    have e1 : C i 1 ≠ -m := fun e1 => by have := hinj 0 1 (by omega) (by omega) (e.trans e1.symm); omega
    refine ⟨by unfold swp; rw [if_neg (by omega), if_pos rfl]; exact e, by unfold swp; rw [if_pos rfl]; exact e1, ?_⟩
    split at hd
    · refine .inl fun k hk hne => ?_
      unfold swp at hne ⊢
      by_cases k0 : k = 0
      · rw [if_pos k0]; exact fal_push h0 hm0 (hd 1 (Nat.le_refl _) (by omega))
      · rw [if_neg k0] at hne ⊢
        by_cases k1 : k = 1
        · rw [if_pos k1] at hne; exact absurd e hne
        · rw [if_neg k1]; exact fal_push h0 hm0 (hd k (by omega) hk)
    · rcases hd with ⟨_, a⟩ | ⟨_, a, b⟩
      · rcases a with a | a
        · rw [e] at a; omega
        · rw [e] at a; omega
      · refine .inr (.inr ?_)
        unfold swp
        rw [if_pos rfl]
        exact not_push h0 hm0 b e1
  · rw [if_neg e]
    have e1 : C i 1 = -m := hc.resolve_left e
    refine ⟨e1, e, ?_⟩
    split at hd
    · have := hd 1 (Nat.le_refl _) (by omega)
      rw [e1] at this
      omega
    · rcases hd with ⟨_, a⟩ | ⟨_, a, b⟩
      · rcases a with a | a
        · exact .inr (.inl (tru_push h0 hm0 a))
        · exact .inr (.inl (by rw [a, atU_push h0 hm0, if_pos rfl]))
      · exact .inr (.inr (not_push h0 hm0 a e))
/-- another literal is watched -/
theorem mid_found (hL : LitL n L) (h : Mid n L C Wl due T m l q) {i at_ : Nat} (hq : l[q]? = some i) (hm : ofC m 60 = true) (h0 : atU T m = 0) (a2 : 2 ≤ at_) (aN : at_ < L.N i) (hf : atU (T ++ [m]) (sw01 (-m) (C i) at_) ≠ -1) :
    Mid n L (fun j => if j = i then swp 1 at_ (sw01 (-m) (C i)) else C j) (fun p => if p = plc (sw01 (-m) (C i) at_) then Wl p ++ [i] else Wl p) (fun j => if j = i then false else due j) T m l (q + 1) := by
  obtain ⟨hi, h2, hc⟩ := mid_at hL h hq hm
  obtain ⟨f1, f0, fr⟩ := mid_front hL h hq hm h0
  have hm0 : m ≠ 0 := (ofC_iff.1 hm).1
  have hmn : ofC (-m) 60 = true := by have := ofC_iff.1 hm; exact ofC_iff.2 ⟨by omega, by omega, by omega⟩
  have hnm : atU (T ++ [m]) (-m) = -1 := by rw [atU_push h0 hm0, if_neg (by omega), if_pos rfl]
  generalize hc1 : sw01 (-m) (C i) = c1 at *
  have hmem : ∀ x, MemC (L.N i) c1 x ↔ MemC (L.N i) (C i) x := fun x => by rw [← hc1]; exact sw01_mem h2 x
  have hinj : InjC (L.N i) c1 := by rw [← hc1]; exact sw01_inj h2 (h.base.inj i hi)
  have hlit : ∀ k, k < L.N i → ofC (c1 k) 60 = true := fun k hk => hL i hi _ ((h.base.perm i hi _).1 ((hmem _).1 ⟨k, hk, rfl⟩))
  have hpair : ∀ x, (C i 0 = x ∨ C i 1 = x) → x = c1 0 ∨ x = -m := fun x hx => by
    rw [← hc1]; unfold sw01
    by_cases e : C i 0 = -m
    · rw [if_pos e]; unfold swp; rw [if_pos rfl]; rcases hx with hx | hx
      · right; omega
      · left; exact hx.symm
    · rw [if_neg e]
      have e1 := hc.resolve_left e
      rcases hx with hx | hx
      · left; exact hx.symm
      · right; omega
  have hw : i ∈ Wl (plc (c1 0)) := by
    rw [← hc1]; unfold sw01; split
    · unfold swp; rw [if_pos rfl]; exact (h.base.wat i hi h2).2
    · exact (h.base.wat i hi h2).1
  have s0 : swp 1 at_ c1 0 = c1 0 := by unfold swp; rw [if_neg (by omega), if_neg (by omega)]
  have s1 : swp 1 at_ c1 1 = c1 at_ := by unfold swp; rw [if_pos rfl]
  have ha := hlit at_ aN
  have hane : c1 at_ ≠ -m := fun e => hf (e ▸ hnm)
  have hnotin : i ∉ Wl (plc (c1 at_)) := fun hin => by
    obtain ⟨_, _, hh⟩ := h.base.wok _ ha i hin
    rcases hpair _ (hh.resolve_left hf) with e | e
    · have := hinj at_ 0 aN (by omega) e; omega
    · exact hane e
  refine ⟨⟨fun j hj x => ?_, fun j hj => ?_, fun j hj j2 => ?_, fun x hx j hin => ?_, fun x hx hn => ?_⟩, ?_, h.nd, fun j i' hj hj' => ?_, fun j hj hno => ?_⟩
  · by_cases e : j = i
    · subst e; rw [if_pos rfl]; exact ((swp_mem (by omega) aN x).trans (hmem x)).trans (h.base.perm j hj x)
    · rw [if_neg e]; exact h.base.perm j hj x
  · by_cases e : j = i
    · subst e; rw [if_pos rfl]; exact swp_inj (by omega) aN hinj
    · rw [if_neg e]; exact h.base.inj j hj
  · have grow : ∀ p j', j' ∈ Wl p → j' ∈ (if p = plc (c1 at_) then Wl p ++ [i] else Wl p) := fun p j' hh => by
      split
      · exact List.mem_append_left _ hh
      · exact hh
    by_cases e : j = i
    · subst e
      simp only [↓reduceIte]
      rw [s0, s1]
      exact ⟨grow _ _ hw, by rw [if_pos rfl]; exact List.mem_append_right _ (List.mem_singleton.2 rfl)⟩
    · simp only [if_neg e]
      exact ⟨grow _ _ (h.base.wat j hj j2).1, grow _ _ (h.base.wat j hj j2).2⟩
  · have old : j ∈ Wl (plc x) → j < n ∧ 2 ≤ L.N j ∧ (atU (T ++ [m]) x = -1 ∨ (if j = i then swp 1 at_ c1 else C j) 0 = x ∨ (if j = i then swp 1 at_ c1 else C j) 1 = x) := fun hin => by
      obtain ⟨a, b, c⟩ := h.base.wok x hx j hin
      refine ⟨a, b, ?_⟩
      by_cases e : j = i
      · subst e
        rw [if_pos rfl, s0]
        rcases c with c | c
        · exact .inl c
        · rcases hpair x c with c | c
          · exact .inr (.inl c.symm)
          · exact .inl (c ▸ hnm)
      · rw [if_neg e]; exact c
    by_cases ep : plc x = plc (c1 at_)
    · rw [if_pos ep] at hin
      rcases List.mem_append.1 hin with hin | hin
      · exact old hin
      · obtain rfl := List.mem_singleton.1 hin
        exact ⟨hi, h2, .inr (.inr (by rw [if_pos rfl, s1]; exact (plc_inj hx ha ep).symm))⟩
    · rw [if_neg ep] at hin
      exact old hin
  · by_cases ep : plc x = plc (c1 at_)
    · rw [if_pos ep, List.nodup_append]
      refine ⟨h.base.nod x hx hn, List.nodup_cons.2 ⟨List.not_mem_nil, List.nodup_nil⟩, fun a ha' b hb => ?_⟩
      obtain rfl := List.mem_singleton.1 hb
      rintro rfl
      exact hnotin (ep ▸ ha')
    · rw [if_neg ep]; exact h.base.nod x hx hn
  · rw [if_neg (fun e => hane (plc_inj hmn ha e).symm)]; exact h.hl
  · have hne : i' ≠ i := fun e => by
      subst e
      have := (List.getElem?_inj (by exact (List.getElem?_eq_some_iff.1 hq).1) h.nd).1 (hq.trans hj'.symm)
      omega
    rw [if_neg hne, if_neg hne]
    exact h.rest j i' (by omega) hj'
  · by_cases e : j = i
    · subst e
      rw [if_pos rfl, if_pos rfl]
      unfold Dd
      rw [if_neg (by simp)]
      rcases fr with fr | fr | fr
      · exact absurd (fr at_ aN hane) hf
      · exact .inl ⟨by omega, .inl (by rw [s0]; exact fr)⟩
      · exact .inr ⟨h2, by rw [s0]; exact fr, by rw [s1]; exact hf⟩
    · rw [if_neg e, if_neg e]
      refine h.done j hj fun p hp hpe => ?_
      by_cases ee : p = q
      · subst ee; rw [hq] at hpe; exact e (Option.some.inj hpe).symm
      · exact hno p (by omega) hpe
/-- no other literal can be watched -/
theorem mid_due (hL : LitL n L) (h : Mid n L C Wl due T m l q) {i : Nat} (hq : l[q]? = some i) (hm : ofC m 60 = true) (h0 : atU T m = 0) (hf : ∀ k, 2 ≤ k → k < L.N i → atU (T ++ [m]) (sw01 (-m) (C i) k) = -1) :
    Mid n L (fun j => if j = i then sw01 (-m) (C i) else C j) Wl (fun j => if j = i then true else due j) T m l (q + 1) := by
  obtain ⟨hi, h2, hc⟩ := mid_at hL h hq hm
  obtain ⟨f1, f0, fr⟩ := mid_front hL h hq hm h0
  have hm0 : m ≠ 0 := (ofC_iff.1 hm).1
  have hnm : atU (T ++ [m]) (-m) = -1 := by rw [atU_push h0 hm0, if_neg (by omega), if_pos rfl]
  generalize hc1 : sw01 (-m) (C i) = c1 at *
  have hmem : ∀ x, MemC (L.N i) c1 x ↔ MemC (L.N i) (C i) x := fun x => by rw [← hc1]; exact sw01_mem h2 x
  have hinj : InjC (L.N i) c1 := by rw [← hc1]; exact sw01_inj h2 (h.base.inj i hi)
  have hpair : ∀ x, (C i 0 = x ∨ C i 1 = x) → c1 0 = x ∨ c1 1 = x := fun x hx => by
    rw [← hc1]; unfold sw01
    by_cases e : C i 0 = -m
    · rw [if_pos e]; unfold swp; rw [if_pos rfl, if_neg (by omega), if_pos rfl]; exact hx.symm
    · rw [if_neg e]; exact hx
  have hw : i ∈ Wl (plc (c1 0)) ∧ i ∈ Wl (plc (c1 1)) := by
    rw [← hc1]; unfold sw01; split
    · unfold swp; rw [if_pos rfl, if_neg (by omega), if_pos rfl]; exact (h.base.wat i hi h2).symm
    · exact h.base.wat i hi h2
  refine ⟨⟨fun j hj x => ?_, fun j hj => ?_, fun j hj j2 => ?_, fun x hx j hin => ?_, h.base.nod⟩, h.hl, h.nd, fun j i' hj hj' => ?_, fun j hj hno => ?_⟩
  · by_cases e : j = i
    · subst e; rw [if_pos rfl]; exact (hmem x).trans (h.base.perm j hj x)
    · rw [if_neg e]; exact h.base.perm j hj x
  · by_cases e : j = i
    · subst e; rw [if_pos rfl]; exact hinj
    · rw [if_neg e]; exact h.base.inj j hj
  · by_cases e : j = i
    · subst e; simp only [↓reduceIte]; exact hw
    · simp only [if_neg e]; exact h.base.wat j hj j2
  · obtain ⟨a, b, c⟩ := h.base.wok x hx j hin
    refine ⟨a, b, ?_⟩
    by_cases e : j = i
    · subst e; simp only [↓reduceIte]; exact c.imp id (hpair x)
    · simp only [if_neg e]; exact c
  · have hne : i' ≠ i := fun e => by
      subst e
      have := (List.getElem?_inj (by exact (List.getElem?_eq_some_iff.1 hq).1) h.nd).1 (hq.trans hj'.symm)
      omega
    rw [if_neg hne, if_neg hne]
    exact h.rest j i' (by omega) hj'
  · by_cases e : j = i
    · subst e
      rw [if_pos rfl, if_pos rfl]
      unfold Dd
      rw [if_pos rfl]
      intro k k1 k2
      by_cases kk : k = 1
      · subst kk; rw [f1]; exact hnm
      · exact hf k (by omega) k2
    · rw [if_neg e, if_neg e]
      refine h.done j hj fun p hp hpe => ?_
      by_cases ee : p = q
      · subst ee; rw [hq] at hpe; exact e (Option.some.inj hpe).symm
      · exact hno p (by omega) hpe
/-- a clause that is not due tells nothing -/
theorem inv_idle (h : InvB n L C Wl T) {i : Nat} (hi : i < n) (hd : D2 (L.N i) (C i) T 0) (h0 : ∀ k, k < L.N i → C i k ≠ 0) : Idle (L.N i) (L.Z i) T := by
  rcases hd with ⟨a, b⟩ | ⟨a, b, c⟩
  · exact idle_true ((h.perm i hi _).1 ⟨0, a, rfl⟩) (b.resolve_right (h0 0 a))
  · exact idle_two ((h.perm i hi _).1 ⟨0, by omega, rfl⟩) ((h.perm i hi _).1 ⟨1, by omega, rfl⟩) (fun e => by have := h.inj i hi 0 1 (by omega) (by omega) e; omega) b c
/-- a clause that is due, by its first literal -/
theorem inv_fal (h : InvB n L C Wl T) {i : Nat} (hi : i < n) (hd : D1 (L.N i) (C i) T) (h0 : L.N i = 0 ∨ atU T (C i 0) = -1) : Fal (L.N i) (L.Z i) T := fun x hx => by
  obtain ⟨k, hk, rfl⟩ := (h.perm i hi x).2 hx
  by_cases e : k = 0
  · subst e; exact h0.resolve_left (by omega)
  · exact hd k (by omega) hk
theorem inv_uni (h : InvB n L C Wl T) {i : Nat} (hi : i < n) (hd : D1 (L.N i) (C i) T) (hN : 0 < L.N i) (h0 : atU T (C i 0) = 0) : Uni (L.N i) (L.Z i) T (C i 0) :=
  ⟨(h.perm i hi _).1 ⟨0, hN, rfl⟩, h0, fun y hy hne => by
    obtain ⟨k, hk, rfl⟩ := (h.perm i hi y).2 hy
    by_cases e : k = 0
    · subst e; exact absurd rfl hne
    · exact hd k (by omega) hk⟩
end
end Go.Proofs.Ytjnngijilkdhbaa

namespace Go.Proofs.Ytjnngijilkdhbaa
set_option linter.unusedVariables false
set_option linter.unusedSimpArgs false
open Go.RowKit
/-- what stays: the blocks of the rows, the clauses' slices -/
structure Pq where
  gc : Nat
  gd : Nat
  n : Nat
  N : Nat → Nat
  CA : Nat → Option Addr
  CC : Nat → Nat
/-- what turns -/
structure Ps where
  C : Nat → Nat → Int
  WV : Nat → Value
  Wl : Nat → List Nat
  due : Nat → Bool
  S : Nat → Int
  TV : Value
  T : List Int
def Pq.cv (k : Pq) (i : Nat) : Value := .slice (k.CA i) (k.N i) (k.CC i)
def prF (k : Pq) (s : Ps) : Nat → Value := fun j =>
  if j = 0 then .slice (some ⟨k.gc, 0, none⟩) k.n k.n else if j ≤ 121 then s.WV (j - 1) else if j = 122 then .slice (some ⟨k.gd, 0, none⟩) k.n k.n else if j ≤ 183 then .int .i64 (s.S (j - 123)) else s.TV
def valsN (l : List Nat) : List Value := l.map fun (i : Nat) => Value.int .i64 (i : Int)
def valsC (N : Nat) (c : Nat → Int) : List Value := (List.range N).map fun k => Value.int .i64 (c k)
theorem valsC_at {N j : Nat} {c : Nat → Int} (h : j < N) : (valsC N c)[j]? = some (.int .i64 (c j)) := by
  unfold valsC; rw [List.getElem?_map, List.getElem?_range h]; rfl
theorem valsC_len (N : Nat) (c : Nat → Int) : (valsC N c).length = N := by unfold valsC; rw [List.length_map, List.length_range]
theorem valsN_at {l : List Nat} {j i : Nat} (h : l[j]? = some i) : (valsN l)[j]? = some (.int .i64 (i : Int)) := by
  unfold valsN; rw [List.getElem?_map, h]; rfl
structure PrM (lo b : Nat) (k : Pq) (s : Ps) (w : World) : Prop where
  lob : lo ≤ b
  loc : lo ≤ k.gc
  lod : lo ≤ k.gd
  box : w.rowIs b 60 185 (prF k s)
  row : w.rowIs k.gc 71 k.n k.cv
  du : w.rowIs k.gd 4 k.n (fun i => .bool (s.due i))
  cl : ∀ i, i < k.n → w.ownsRow lo 52 1 (k.cv i) (k.N i) (valsC (k.N i) (s.C i))
  cne : ∀ i j g, i < k.n → j < k.n → i ≠ j → (k.cv i).ownBlock = some g → (k.cv j).ownBlock ≠ some g
  wl : ∀ p, p < 121 → w.ownsRow lo 3 1 (s.WV p) (s.Wl p).length (valsN (s.Wl p))
  wne : ∀ p q g, p < 121 → q < 121 → p ≠ q → (s.WV p).ownBlock = some g → (s.WV q).ownBlock ≠ some g
  tr : w.ownsRow lo 3 1 s.TV s.T.length (valsI s.T)
  tne : ∀ p g, p < 121 → (s.WV p).ownBlock = some g → s.TV.ownBlock ≠ some g
theorem own_ty {w : World} {base n size m g : Nat} {e t : TypeId} {v : Value} {xs : List Value} {f : Nat → Value} (h : w.ownsRow base e size v n xs) (hp : w.rowIs g t m f) (hv : v.ownBlock = some g) : e = t := by
  obtain ⟨cs, hcs, _⟩ := hp
  rcases h.2 with ⟨rfl, _⟩ | ⟨g', cap, cur, rfl, _, hh, _⟩
  · simp [Value.ownBlock] at hv
  · simp only [Value.ownBlock, Option.some.injEq] at hv
    subst hv
    rw [hh] at hcs
    injection hcs with hcs
    injection hcs with _ h _
theorem own_ty2 {w : World} {base n size base' n' size' g : Nat} {e t : TypeId} {v v' : Value} {xs xs' : List Value} (h : w.ownsRow base e size v n xs) (h' : w.ownsRow base' t size' v' n' xs') (hv : v.ownBlock = some g) (hv' : v'.ownBlock = some g) : e = t := by
  rcases h.2 with ⟨rfl, _⟩ | ⟨g1, cap, cur, rfl, _, hh, _⟩
  · simp [Value.ownBlock] at hv
  · simp only [Value.ownBlock, Option.some.injEq] at hv
    subst hv
    rcases h'.2 with ⟨rfl, _⟩ | ⟨g2, cap2, cur2, rfl, _, hh2, _⟩
    · simp [Value.ownBlock] at hv'
    · simp only [Value.ownBlock, Option.some.injEq] at hv'
      subst hv'
      rw [hh] at hh2
      injection hh2 with hh2
      injection hh2 with _ h _
theorem row_ty {w : World} {m m' g : Nat} {t t' : TypeId} {f f' : Nat → Value} (h : w.rowIs g t m f) (h' : w.rowIs g t' m' f') : t = t' := by
  obtain ⟨cs, hcs, _⟩ := h
  obtain ⟨cs', hcs', _⟩ := h'
  rw [hcs] at hcs'
  injection hcs' with hcs'
  injection hcs' with _ h _
theorem own_slot {w : World} {base n g : Nat} {e : TypeId} {v : Value} {xs : List Value} (h : w.ownsRow base e 1 v n xs) (hv : v.ownBlock = some g) : ∃ cap, v = .slice (some ⟨g, 0, none⟩) n cap := by
  rcases h.2 with ⟨rfl, _⟩ | ⟨g1, cap, cur, rfl, _⟩
  · simp [Value.ownBlock] at hv
  · simp only [Value.ownBlock, Option.some.injEq] at hv
    subst hv
    exact ⟨cap, rfl⟩
theorem own_belowU {w w' : World} {base n size : Nat} {e : TypeId} {v : Value} {xs : List Value} (hb : Below w.heap.size w w') (h : w.ownsRow base e size v n xs) : w'.ownsRow base e size v n xs := by
  refine ⟨h.1, ?_⟩
  rcases h.2 with hn | ⟨g, cap, cur, rfl, hb2, hgg, rest⟩
  · exact .inl hn
  · exact .inr ⟨g, cap, cur, rfl, hb2, (hb.block g (Array.getElem?_eq_some_iff.1 hgg).1).trans hgg, rest⟩
section
variable {lo b : Nat} {k : Pq} {s : Ps} {w w' : World}
theorem PrM.below (h : PrM lo b k s w) (hb : Below w.heap.size w w') : PrM lo b k s w' :=
  ⟨h.lob, h.loc, h.lod, row_below h.box hb, row_below h.row hb, row_below h.du hb, fun i hi => own_belowU hb (h.cl i hi), h.cne, fun p hp => own_belowU hb (h.wl p hp), h.wne, own_belowU hb h.tr, h.tne⟩
/-- the world grows, and one block that is none of the propagation's rows of clauses and flags may turn -/
theorem PrM.c0 (h : PrM lo b k s w) : w.cell? ⟨b, 0, none⟩ = some (.slice (some ⟨k.gc, 0, none⟩) k.n k.n) := h.box.cell (i := 0) (by decide)
theorem PrM.c122 (h : PrM lo b k s w) : w.cell? ⟨b, 122, none⟩ = some (.slice (some ⟨k.gd, 0, none⟩) k.n k.n) := h.box.cell (i := 122) (by decide)
theorem PrM.c184 (h : PrM lo b k s w) : w.cell? ⟨b, 184, none⟩ = some s.TV := h.box.cell (i := 184) (by decide)
theorem prF_w {p : Nat} (hp : p < 121) : prF k s (1 + p) = s.WV p := by
  unfold prF; rw [if_neg (by omega), if_pos (by omega), show 1 + p - 1 = p by omega]
theorem prF_s {v : Nat} (hv : v < 61) : prF k s (123 + v) = .int .i64 (s.S v) := by
  unfold prF; rw [if_neg (by omega), if_neg (by omega), if_neg (by omega), if_pos (by omega), show 123 + v - 123 = v by omega]
theorem PrM.cw (h : PrM lo b k s w) {p : Nat} (hp : p < 121) : w.cell? ⟨b, 1 + p, none⟩ = some (s.WV p) := by
  rw [← prF_w (k := k) hp]; exact h.box.cell (by omega)
theorem PrM.cs (h : PrM lo b k s w) {v : Nat} (hv : v < 61) : w.cell? ⟨b, 123 + v, none⟩ = some (.int .i64 (s.S v)) := by
  rw [← prF_s (k := k) hv]; exact h.box.cell (by omega)
theorem PrM.cc (h : PrM lo b k s w) {i : Nat} (hi : i < k.n) : w.cell? ⟨k.gc, i, none⟩ = some (.slice (k.CA i) (k.N i) (k.CC i)) := h.row.cell hi
theorem PrM.cd (h : PrM lo b k s w) {i : Nat} (hi : i < k.n) : w.cell? ⟨k.gd, i, none⟩ = some (.bool (s.due i)) := h.du.cell hi
theorem PrM.cg (h : PrM lo b k s w) {i : Nat} (hi : i < k.n) (hN : 0 < k.N i) : ∃ g, k.CA i = some ⟨g, 0, none⟩ ∧ g < w.heap.size ∧ lo ≤ g ∧ (k.cv i).ownBlock = some g ∧ (∀ j, j < k.N i → w.cell? ⟨g, j, none⟩ = some (.int .i64 (s.C i j))) ∧ ∀ j, w.frozen? ⟨g, j, none⟩ = false := by
  have h0 := h.cl i hi
  rcases h0.2 with ⟨_, e⟩ | ⟨g, cap, cur, e, hg, hh, _⟩
  · omega
  · have e0 := e
    unfold Pq.cv at e0
    injection e0 with e1 e2 e3
    refine ⟨g, e1, (Array.getElem?_eq_some_iff.1 hh).1, hg, by rw [e]; rfl, fun j hj => ?_, fun j => ?_⟩
    · rw [e] at h0
      exact (h0.cellAt j (by omega)).trans (valsC_at hj)
    · rw [e] at h0
      exact h0.frozenAt j
theorem PrM.box_ne (h : PrM lo b k s w) : b ≠ k.gc ∧ b ≠ k.gd ∧ k.gc ≠ k.gd :=
  ⟨fun e => by have h1 := h.box; rw [e] at h1; exact absurd (row_ty h1 h.row) (by decide), fun e => by have h1 := h.box; rw [e] at h1; exact absurd (row_ty h1 h.du) (by decide), fun e => by have h1 := h.row; rw [e] at h1; exact absurd (row_ty h1 h.du) (by decide)⟩
/-- a write into the propagation's own cells keeps all but the box -/
theorem PrM.setBox (h : PrM lo b k s w) {s' : Ps} {j : Nat} {v : Value} (hj : ∀ i, i < 185 → (if i = j then v else prF k s i) = prF k s' i) (hC : s'.C = s.C) (hd : s'.due = s.due)
    (hwl : ∀ p, p < 121 → (w.setCell ⟨b, j, none⟩ v).ownsRow lo 3 1 (s'.WV p) (s'.Wl p).length (valsN (s'.Wl p)))
    (hwne : ∀ p q g, p < 121 → q < 121 → p ≠ q → (s'.WV p).ownBlock = some g → (s'.WV q).ownBlock ≠ some g)
    (htr : (w.setCell ⟨b, j, none⟩ v).ownsRow lo 3 1 s'.TV s'.T.length (valsI s'.T))
    (htne : ∀ p g, p < 121 → (s'.WV p).ownBlock = some g → s'.TV.ownBlock ≠ some g) : PrM lo b k s' (w.setCell ⟨b, j, none⟩ v) := by
  obtain ⟨n1, n2, n3⟩ := h.box_ne
  refine ⟨h.lob, h.loc, h.lod, (h.box.set j v).congr hj, h.row.setOther (Ne.symm n1) v, by rw [hd]; exact h.du.setOther (Ne.symm n2) v, fun i hi => ?_, h.cne, hwl, hwne, htr, htne⟩
  rw [hC]
  exact (h.cl i hi).kept (grow_set w b j v) (.inr fun e => absurd (own_ty (h.cl i hi) h.box e) (by decide))
theorem PrM.keepBox (h : PrM lo b k s w) (j : Nat) (u : Value) {e : TypeId} {n size : Nat} {v : Value} {xs : List Value} (hv : w.ownsRow lo e size v n xs) (he : e ≠ 60) : (w.setCell ⟨b, j, none⟩ u).ownsRow lo e size v n xs :=
  hv.kept (grow_set w b j u) (.inr fun e' => he (own_ty hv h.box e'))
theorem PrM.setS (h : PrM lo b k s w) {v : Nat} (hv : v < 61) (x : Int) : PrM lo b k {s with S := fun u => if u = v then x else s.S u} (w.setCell ⟨b, 123 + v, none⟩ (.int .i64 x)) := by
  refine h.setBox (fun i hi => ?_) rfl rfl (fun p hp => h.keepBox _ _ (h.wl p hp) (by decide)) h.wne (h.keepBox _ _ h.tr (by decide)) h.tne
  unfold prF
  by_cases e : i = 123 + v
  · subst e
    rw [if_pos rfl, if_neg (by omega), if_neg (by omega), if_neg (by omega), if_pos (by omega), show 123 + v - 123 = v by omega]
    simp only [↓reduceIte]
  · rw [if_neg e]
    simp only
    split
    · rfl
    · split
      · rfl
      · split
        · rfl
        · split
          · rw [if_neg (by omega)]
          · rfl
/-- the row of numbers v was lengthened into v', in place or in a new block: the others stay -/
theorem PrM.keepW (h : PrM lo b k s w) {v : Value} {n : Nat} {xs : List Value} (hv : w.ownsRow lo 3 1 v n xs) (hg : w.grownBy w' v.ownBlock) :
    w'.rowIs b 60 185 (prF k s) ∧ w'.rowIs k.gc 71 k.n k.cv ∧ w'.rowIs k.gd 4 k.n (fun i => .bool (s.due i)) ∧ (∀ i, i < k.n → w'.ownsRow lo 52 1 (k.cv i) (k.N i) (valsC (k.N i) (s.C i))) := by
  have hr : ∀ {g : Nat} {t : TypeId} {m : Nat} {f : Nat → Value}, w.rowIs g t m f → 3 ≠ t → w'.rowIs g t m f := fun {g t m f} hx ht =>
    hx.of_block (hg.block g hx.lt fun e => ht (own_ty hv hx e.symm))
  exact ⟨hr h.box (by decide), hr h.row (by decide), hr h.du (by decide), fun i hi => (h.cl i hi).kept hg (by
    cases e : (k.cv i).ownBlock with
    | none => exact .inl rfl
    | some g => exact .inr fun e2 => absurd (own_ty2 (h.cl i hi) hv e e2.symm) (by decide))⟩
theorem PrM.push (h : PrM lo b k s w) {v' : Value} {x : Int} (hg : w.grownBy w' s.TV.ownBlock) (ho : w'.ownsRow lo 3 1 v' (s.T.length + 1) (valsI s.T ++ [.int .i64 x])) (hf : ∀ g, v'.ownBlock = some g → s.TV.ownBlock = some g ∨ w.heap.size ≤ g) :
    PrM lo b k {s with TV := v', T := s.T ++ [x]} (w'.setCell ⟨b, 184, none⟩ v') := by
  obtain ⟨k1, k2, k3, k4⟩ := h.keepW h.tr hg
  have hw : ∀ p, p < 121 → w'.ownsRow lo 3 1 (s.WV p) (s.Wl p).length (valsN (s.Wl p)) := fun p hp => (h.wl p hp).kept hg (by
    cases e : (s.WV p).ownBlock with
    | none => exact .inl rfl
    | some g => exact .inr fun e2 => h.tne p g hp e e2.symm)
  have ho' : w'.ownsRow lo 3 1 v' (s.T ++ [x]).length (valsI (s.T ++ [x])) := by
    have e2 : valsI (s.T ++ [x]) = valsI s.T ++ [.int .i64 x] := by unfold valsI; rw [List.map_append]; rfl
    rw [e2, List.length_append]; exact ho
  have hb := h.box_ne
  refine ⟨h.lob, h.loc, h.lod, (k1.set 184 v').congr fun i hi => ?_, k2.setOther (Ne.symm hb.1) v', k3.setOther (Ne.symm hb.2.1) v', fun i hi => (k4 i hi).kept (grow_set w' b 184 v') (.inr fun e => absurd (own_ty (k4 i hi) k1 e) (by decide)), h.cne,
    fun p hp => (hw p hp).kept (grow_set w' b 184 v') (.inr fun e => absurd (own_ty (hw p hp) k1 e) (by decide)), h.wne, ho'.kept (grow_set w' b 184 v') (.inr fun e => absurd (own_ty ho' k1 e) (by decide)), fun p g hp e e2 => ?_⟩
  · unfold prF
    by_cases e : i = 184
    · subst e; rfl
    · rw [if_neg e]
      simp only
      by_cases e3 : i ≤ 183
      · rw [if_pos e3]
        split
        · rfl
        · split
          · rfl
          · split <;> rfl
      · omega
  · rcases hf g e2 with e3 | e3
    · exact h.tne p g hp e e3
    · have := ((h.wl p hp).lt g e).2; omega
/-- clause i watches the literal of place p too -/
theorem PrM.watch (h : PrM lo b k s w) {v' : Value} {p i : Nat} (hp : p < 121) (hg : w.grownBy w' (s.WV p).ownBlock) (ho : w'.ownsRow lo 3 1 v' ((s.Wl p).length + 1) (valsN (s.Wl p) ++ [.int .i64 (i : Int)])) (hf : ∀ g, v'.ownBlock = some g → (s.WV p).ownBlock = some g ∨ w.heap.size ≤ g) :
    PrM lo b k {s with WV := fun q => if q = p then v' else s.WV q, Wl := fun q => if q = p then s.Wl p ++ [i] else s.Wl q} (w'.setCell ⟨b, 1 + p, none⟩ v') := by
  obtain ⟨k1, k2, k3, k4⟩ := h.keepW (h.wl p hp) hg
  have hw : ∀ q, q < 121 → q ≠ p → w'.ownsRow lo 3 1 (s.WV q) (s.Wl q).length (valsN (s.Wl q)) := fun q hq hne => (h.wl q hq).kept hg (by
    cases e : (s.WV q).ownBlock with
    | none => exact .inl rfl
    | some g => exact .inr fun e2 => h.wne q p g hq hp hne e e2.symm)
  have htr : w'.ownsRow lo 3 1 s.TV s.T.length (valsI s.T) := h.tr.kept hg (by
    cases e : s.TV.ownBlock with
    | none => exact .inl rfl
    | some g => exact .inr fun e2 => h.tne p g hp e2.symm e)
  have ho' : w'.ownsRow lo 3 1 v' (s.Wl p ++ [i]).length (valsN (s.Wl p ++ [i])) := by
    have e2 : valsN (s.Wl p ++ [i]) = valsN (s.Wl p) ++ [.int .i64 (i : Int)] := by unfold valsN; rw [List.map_append]; rfl
    rw [e2, List.length_append]; exact ho
  have hb := h.box_ne
  refine ⟨h.lob, h.loc, h.lod, (k1.set (1 + p) v').congr fun j hj => ?_, k2.setOther (Ne.symm hb.1) v', k3.setOther (Ne.symm hb.2.1) v', fun j hj => (k4 j hj).kept (grow_set w' b (1 + p) v') (.inr fun e => absurd (own_ty (k4 j hj) k1 e) (by decide)), h.cne,
    fun q hq => ?_, fun q q' g hq hq' hne e e2 => ?_, htr.kept (grow_set w' b (1 + p) v') (.inr fun e => absurd (own_ty htr k1 e) (by decide)), fun q g hq e e2 => ?_⟩
  · unfold prF
    simp only
    by_cases e : j = 1 + p
    · subst e
      rw [if_pos rfl, if_neg (by omega), if_pos (by omega), if_pos (by omega)]
    · rw [if_neg e]
      split
      · rfl
      · split
        · rw [if_neg (by omega)]
        · rfl
  · simp only
    by_cases e : q = p
    · rw [if_pos e, if_pos e]
      exact ho'.kept (grow_set w' b (1 + p) v') (.inr fun e => absurd (own_ty ho' k1 e) (by decide))
    · rw [if_neg e, if_neg e]
      exact (hw q hq e).kept (grow_set w' b (1 + p) v') (.inr fun e2 => absurd (own_ty (hw q hq e) k1 e2) (by decide))
  · simp only at e e2
    by_cases e3 : q = p
    · rw [if_pos e3] at e
      rw [if_neg (by omega)] at e2
      rcases hf g e with e4 | e4
      · exact h.wne p q' g hp hq' (by omega) e4 e2
      · have := ((h.wl q' hq').lt g e2).2; omega
    · rw [if_neg e3] at e
      by_cases e5 : q' = p
      · rw [if_pos e5] at e2
        rcases hf g e2 with e4 | e4
        · exact h.wne q p g hq hp e3 e e4
        · have := ((h.wl q hq).lt g e).2; omega
      · rw [if_neg e5] at e2
        exact h.wne q q' g hq hq' hne e e2
  · simp only at e e2
    by_cases e3 : q = p
    · rw [if_pos e3] at e
      rcases hf g e with e4 | e4
      · exact h.tne p g hp e4 e2
      · have := (h.tr.lt g e2).2; omega
    · rw [if_neg e3] at e
      exact h.tne q g hq e e2
theorem own_setU {base n g j : Nat} {e : TypeId} {v u : Value} {xs : List Value} (h : w.ownsRow base e 1 v n xs) (hv : v.ownBlock = some g) (hj : j < n) : (w.setCell ⟨g, j, none⟩ u).ownsRow base e 1 v n (xs.set j u) := by
  obtain ⟨cap, rfl⟩ := own_slot h hv
  exact (h.stored j u).1
theorem valsC_set {N j : Nat} {c : Nat → Int} {x : Int} (hj : j < N) : (valsC N c).set j (.int .i64 x) = valsC N (fun t => if t = j then x else c t) := by
  apply List.ext_getElem?
  intro i
  by_cases hi : i < N
  · rw [valsC_at hi, List.getElem?_set, valsC_at hi]
    by_cases e : j = i
    · subst e
      rw [if_pos rfl, if_pos (by rw [valsC_len]; exact hj), if_pos rfl]
    · rw [if_neg e, if_neg (Ne.symm e)]
  · rw [List.getElem?_eq_none (by rw [List.length_set, valsC_len]; omega), List.getElem?_eq_none (by rw [valsC_len]; omega)]
/-- a literal of a clause is written -/
theorem PrM.setC (h : PrM lo b k s w) {i j g : Nat} (hi : i < k.n) (hj : j < k.N i) (hg : (k.cv i).ownBlock = some g) (x : Int) :
    PrM lo b k {s with C := fun i' => if i' = i then (fun t => if t = j then x else s.C i t) else s.C i'} (w.setCell ⟨g, j, none⟩ (.int .i64 x)) := by
  have hr : ∀ {g' : Nat} {t : TypeId} {m : Nat} {f : Nat → Value}, w.rowIs g' t m f → 52 ≠ t → (w.setCell ⟨g, j, none⟩ (.int .i64 x)).rowIs g' t m f := fun {g' t m f} hx ht =>
    hx.setOther (fun e => ht (own_ty (h.cl i hi) hx (hg.trans (congrArg some e.symm)))) _
  have ho : ∀ {v : Value} {m : Nat} {xs : List Value}, w.ownsRow lo 3 1 v m xs → (w.setCell ⟨g, j, none⟩ (.int .i64 x)).ownsRow lo 3 1 v m xs := fun {v m xs} hx =>
    hx.kept (grow_set w g j _) (.inr fun e => absurd (own_ty2 hx (h.cl i hi) e hg) (by decide))
  refine ⟨h.lob, h.loc, h.lod, hr h.box (by decide), hr h.row (by decide), hr h.du (by decide), fun i' hi' => ?_, h.cne, fun p hp => ho (h.wl p hp), h.wne, ho h.tr, h.tne⟩
  simp only
  by_cases e : i' = i
  · subst e
    rw [if_pos rfl, ← valsC_set hj]
    exact own_setU (h.cl i' hi') hg hj
  · rw [if_neg e]
    exact (h.cl i' hi').kept (grow_set w g j _) (.inr (h.cne i i' g hi hi' (Ne.symm e) hg))
theorem PrM.setD (h : PrM lo b k s w) (i : Nat) (d : Bool) : PrM lo b k {s with due := fun i' => if i' = i then d else s.due i'} (w.setCell ⟨k.gd, i, none⟩ (.bool d)) := by
  obtain ⟨n1, n2, n3⟩ := h.box_ne
  have ho : ∀ {e : TypeId} {v : Value} {m : Nat} {xs : List Value}, w.ownsRow lo e 1 v m xs → e ≠ 4 → (w.setCell ⟨k.gd, i, none⟩ (.bool d)).ownsRow lo e 1 v m xs := fun {e v m xs} hx he =>
    hx.kept (grow_set w k.gd i _) (.inr fun e' => he (own_ty hx h.du e'))
  refine ⟨h.lob, h.loc, h.lod, h.box.setOther n2 _, h.row.setOther n3 _, (h.du.set i (.bool d)).congr fun j hj => ?_, fun i' hi' => ho (h.cl i' hi') (by decide), h.cne, fun p hp => ho (h.wl p hp) (by decide), h.wne, ho h.tr (by decide), h.tne⟩
  simp only
  split <;> rfl
end
end Go.Proofs.Ytjnngijilkdhbaa

namespace Go.Proofs.Ytjnngijilkdhbaa
set_option linter.unusedVariables false
set_option linter.unusedSimpArgs false
open Go.RowKit
/-- an append to a row of one's own: the row that comes back is the old one or new -/
theorem run_append_freshU {P : Program} (w : World) (base : Nat) (t ty e : TypeId) (i : TypeInfo) (z : Value) (size bytes : Nat) (ht : P.underlying t = some (.slice e)) (hi : P.info? e = some i) (hz : i.zero = some z)
    (hsize : i.size = size) (hby : i.bytes = bytes) (hzs : z.cells.size = size) (hsz : 0 < size)
    (v : Value) (n : Nat) (xs : List Value) (hown : w.ownsRow base e size v n xs)
    (a : Addr) (m c : Nat) (news : List Value) (hl : news.length = m * size) (hnews : ∀ j u, news[j]? = some u → w.cell? (a.add j) = some u) (h1 : ∀ u ∈ news, u.oneCell' = true)
    (h63 : n + m ≤ maxLen) (hbytes : (n + m) * bytes ≤ 140737488355328) (hbase : base ≤ w.heap.size) :
    ∃ v' w', (Builtin.append_ #[t, t] ty #[v, .slice (some a) m c]).run P w = .ok v' w' ∧ w'.ownsRow base e size v' (n + m) (xs ++ news) ∧ w.grownBy w' v.ownBlock ∧ ∀ g, v'.ownBlock = some g → v.ownBlock = some g ∨ w.heap.size ≤ g := by
  obtain ⟨v', w', hr, h2, h3, h4⟩ := run_append_own (P := P) w base t ty e i z size bytes ht hi hz hsize hby hzs hsz v n xs hown a m c news hl hnews h1 h63 hbytes hbase
  refine ⟨v', w', hr, h2, h3, ?_⟩
  have hmx : maxLen ≤ 9223372036854775807 := by unfold maxLen; omega
  have hown' := hown
  obtain ⟨hlx, ⟨rfl, rfl⟩ | ⟨g0, cap, cur, rfl, hbg, hg, hnc, hcm, hcs, htake⟩⟩ := hown'
  · have hx : xs = [] := List.eq_nil_of_length_eq_zero (by simpa using hlx)
    subst hx
    obtain ⟨v2, w2, hr2, k2, _, _⟩ := run_append_own (P := P) w w.heap.size t ty e i z size bytes ht hi hz hsize hby hzs hsz _ _ _ (World.ownsRow_nil w w.heap.size e size) a m c news hl hnews h1 h63 hbytes (Nat.le_refl _)
    rw [hr] at hr2
    injection hr2 with e1 _
    subst e1
    exact fun g hg => .inr (k2.lt g hg).1
  · subst hsize
    by_cases hroom : n + m ≤ cap
    · have hfit : n * i.size + news.length ≤ cur.size := by rw [hl, hcs, ← Nat.add_mul]; exact Nat.mul_le_mul_right _ hroom
      have hr2 := run_append_room (P := P) w t ty e i ht hi g0 n cap cur hg a m c news hl hnews h1 hroom hfit
      rw [hr] at hr2
      injection hr2 with e1 _
      subst e1
      exact fun g hg => .inl hg
    · have holds : ∀ j u, xs[j]? = some u → w.cell? ((⟨g0, 0, none⟩ : Addr).add j) = some u := hown.cells (g := g0) rfl
      subst hby
      have hr2 := run_append_grow (P := P) w t ty e i z ht hi hz ⟨g0, 0, none⟩ n cap xs hown.1 holds a m c news hl hnews (by omega) (by omega) (growslice_fits (by omega) hbytes)
      rw [hr] at hr2
      injection hr2 with e1 _
      subst e1
      intro g hg
      simp only [Value.ownBlock, Option.some.injEq] at hg
      exact .inr (by omega)
section
variable {P : Program} {ops : Array Oper} {l : List Oper} {K : Act → World → Prop} {a : Act} {w : World} {m : Nat} {k : Pl} {om : Oper} {C : World → Prop}
theorem planC_appendU (hl : l[m]? = some om) (hg : om.guard = none) (s x : Operand) (t : TypeId) (ho : om.op = .call { callee := .builtin .append, args := #[s, x], argTypes := #[t, t] })
    (base : Nat) (e : TypeId) (i : TypeInfo) (z : Value) (size bytes : Nat) (ht : P.underlying t = some (.slice e)) (hi : P.info? e = some i) (hz : i.zero = some z)
    (hsize : i.size = size) (hby : i.bytes = bytes) (hzs : z.cells.size = size) (hsz : 0 < size)
    (v : Value) (n : Nat) (xs : List Value) (hs : a.eval s = v) (hown : w.ownsRow base e size v n xs)
    (ad : Addr) (mm c : Nat) (news : List Value) (hx : a.eval x = .slice (some ad) mm c) (hll : news.length = mm * size) (hnews : ∀ j u, news[j]? = some u → w.cell? (ad.add j) = some u) (h1 : ∀ u ∈ news, u.oneCell' = true)
    (h63 : n + mm ≤ maxLen) (hbytes : (n + mm) * bytes ≤ 140737488355328) (hbase : base ≤ w.heap.size)
    (hk : ∀ v' w', w'.ownsRow base e size v' (n + mm) (xs ++ news) → w.grownBy w' v.ownBlock → (∀ g, v'.ownBlock = some g → v.ownBlock = some g ∨ w.heap.size ≤ g) → C w' ∧ ObPl P ops C l K k (a.put om.dst v') w') : ObPl P ops C l K (.make m k) a w := by
  obtain ⟨v', w', hr, h2, h3, h4⟩ := run_append_freshU (P := P) w base t om.type e i z size bytes ht hi hz hsize hby hzs hsz v n xs hown ad mm c news hll hnews h1 h63 hbytes hbase
  refine ⟨om, hl, .inl ⟨wanted_none hg, ?_⟩⟩
  have e1 : (execOp a.eval om).run P w = .ok (.value v') w' := by
    unfold execOp
    simp only [ho, resolve, invoke, builtin, Sem.run_bind, Sem.run_pure, Result.andThen_ok, List.map_toArray, List.map_cons, List.map_nil, hs, hx, hr]
  rw [e1]
  exact hk v' w' h2 h3 h4
end
section
variable {P : Program} {w : World} {a : Act}
theorem wpList_appendU {ops : Array Oper} {rest : List Oper} {o : Oper} {Q : Exit → Act → World → Prop} (hgd : o.guard = none) (s x : Operand) (t : TypeId)
    (ho : o.op = .call { callee := .builtin .append, args := #[s, x], argTypes := #[t, t] })
    (base : Nat) (e : TypeId) (i : TypeInfo) (z : Value) (size bytes : Nat) (ht : P.underlying t = some (.slice e)) (hi : P.info? e = some i) (hz : i.zero = some z)
    (hsize : i.size = size) (hby : i.bytes = bytes) (hzs : z.cells.size = size) (hsz : 0 < size)
    (v : Value) (n : Nat) (xs : List Value) (hs : a.eval s = v) (hown : w.ownsRow base e size v n xs)
    (ad : Addr) (m c : Nat) (news : List Value) (hx : a.eval x = .slice (some ad) m c) (hl : news.length = m * size) (hnews : ∀ j u, news[j]? = some u → w.cell? (ad.add j) = some u) (h1 : ∀ u ∈ news, u.oneCell' = true)
    (h63 : n + m ≤ maxLen) (hbytes : (n + m) * bytes ≤ 140737488355328) (hbase : base ≤ w.heap.size)
    (h : ∀ v' w', w'.ownsRow base e size v' (n + m) (xs ++ news) → w.grownBy w' v.ownBlock → (∀ g, v'.ownBlock = some g → v.ownBlock = some g ∨ w.heap.size ≤ g) → wpList P ops Q rest (a.put o.dst v') w') : wpList P ops Q (o :: rest) a w := by
  obtain ⟨v', w', hr, h2, h3, h4⟩ := run_append_freshU (P := P) w base t o.type e i z size bytes ht hi hz hsize hby hzs hsz v n xs hown ad m c news hl hnews h1 h63 hbytes hbase
  refine wpList_plain hgd fun K hK => ?_
  unfold Oper.wp
  have e1 : (execOp a.eval o).run P w = .ok (.value v') w' := by
    unfold execOp
    simp only [ho, resolve, invoke, builtin, Sem.run_bind, Sem.run_pure, Result.andThen_ok, List.map_toArray, List.map_cons, List.map_nil, hs, hx, hr]
  simp only [e1]
  exact hK _ _ (h v' w' h2 h3 h4)
end
end Go.Proofs.Ytjnngijilkdhbaa

namespace Go.Proofs.Ytjnngijilkdhbaa
set_option linter.unusedVariables false
set_option linter.unusedSimpArgs false
open Go.RowKit
theorem plc_lt {x : Int} (h : ofC x 60 = true) : plc x < 121 ∧ (plc x : Int) = 60 + x := by have := ofC_iff.1 h; unfold plc; omega
theorem place_any (x : Int) (w : World) (hx : ofC x 60 = true) :
    Calls Try.prog 58 #[.int .i64 x] w fun e w' => e = .returned (.int .i64 (plc x : Int)) ∧ w = w' := by
  obtain ⟨_, x1, x2⟩ := ofC_iff.1 hx
  rw [(plc_lt hx).2]
  clear hx
  go_enter Try.func58, Try.ntmps58
  go_wp2
  go_ret
  exact ⟨rfl, rfl⟩
set_option maxHeartbeats 2000000 in
theorem hasU_any (b o v : Nat) (x y : Int) (w : World) (c0 : w.cell? ⟨b, o + v, none⟩ = some (.int .i64 y)) (hx : -9223372036854775807 ≤ x ∧ x ≤ 9223372036854775807) (hv : vrC x = (v : Int)) (hv1 : v ≤ 60) :
    Calls Try.prog 61 #[.pointer (some ⟨b, o, none⟩), .int .i64 x] w fun e w' => e = .returned (.bool (y == x)) ∧ Below w.heap.size w w' := by
  have hlt := cell_lt c0
  have hV := fun X : Gro w => (variable_any x (gro w X) hx).mono fun e w' h => (⟨h.1.trans (by rw [hv]), h.2 ▸ Below.refl _ _⟩ : e = .returned (.int .i64 (v : Int)) ∧ Below (gro w X).heap.size (gro w X) w')
  have gc := @gro_cell w
  go_enter Try.func61, Try.ntmps61
  go_upto_region 1 with fail
  refine wp_region_grow_lit (by kernel_rfl) (by kernel_rfl) ?_
  repeat (go_big_quiet_step ((go_at_call 55; exact grow_call _ (hV _))))
  refine wpQuiet_nil ?_
  rintro _ ⟨X, rfl⟩
  clear gc
  go_wp2
  go_ret
  exact ⟨rfl, X.h⟩
set_option maxHeartbeats 2000000 in
theorem freeU_any (b o v : Nat) (x y : Int) (w : World) (c0 : w.cell? ⟨b, o + v, none⟩ = some (.int .i64 y)) (hx : -9223372036854775807 ≤ x ∧ x ≤ 9223372036854775807) (hv : vrC x = (v : Int)) (hv1 : v ≤ 60) :
    Calls Try.prog 42 #[.pointer (some ⟨b, o, none⟩), .int .i64 x] w fun e w' => e = .returned (.bool (y == 0)) ∧ Below w.heap.size w w' := by
  have hlt := cell_lt c0
  have hV := fun X : Gro w => (variable_any x (gro w X) hx).mono fun e w' h => (⟨h.1.trans (by rw [hv]), h.2 ▸ Below.refl _ _⟩ : e = .returned (.int .i64 (v : Int)) ∧ Below (gro w X).heap.size (gro w X) w')
  have gc := @gro_cell w
  go_enter Try.func42, Try.ntmps42
  go_upto_region 1 with fail
  refine wp_region_grow_lit (by kernel_rfl) (by kernel_rfl) ?_
  repeat (go_big_quiet_step ((go_at_call 55; exact grow_call _ (hV _))))
  refine wpQuiet_nil ?_
  rintro _ ⟨X, rfl⟩
  clear gc
  go_wp2
  go_ret
  exact ⟨rfl, X.h⟩
set_option maxHeartbeats 2000000 in
theorem addU_any (b o v : Nat) (x y : Int) (w : World) (c0 : w.cell? ⟨b, o + v, none⟩ = some (.int .i64 y)) (f0 : w.frozen? ⟨b, o + v, none⟩ = false) (hx : -9223372036854775807 ≤ x ∧ x ≤ 9223372036854775807) (hv : vrC x = (v : Int)) (hv1 : v ≤ 60) :
    Calls Try.prog 56 #[.pointer (some ⟨b, o, none⟩), .int .i64 x] w fun e w' => e = .returned (.tuple #[]) ∧ ∃ w1, Below w.heap.size w w1 ∧ w' = w1.setCell ⟨b, o + v, none⟩ (.int .i64 x) := by
  have hlt := cell_lt c0
  have hV := fun X : Gro w => (variable_any x (gro w X) hx).mono fun e w' h => (⟨h.1.trans (by rw [hv]), h.2 ▸ Below.refl _ _⟩ : e = .returned (.int .i64 (v : Int)) ∧ Below (gro w X).heap.size (gro w X) w')
  have gc := @gro_cell w
  go_enter Try.func56, Try.ntmps56
  go_upto_region 0 with fail
  refine region_grow_tail 6 (by kernel_rfl) (by kernel_rfl) ?_; simp only [List.take_succ_cons, List.take_zero, List.drop_succ_cons, List.drop_zero]; (repeat (go_big_quiet_step ((go_at_call 55; exact grow_call _ (hV _))))); refine wpQuiet_nil ?_
  intro w1 hq
  clear gc
  have d0 := carry hq c0
  have g0 := carryf hq f0 hlt
  go_wp2
  go_end0
  exact ⟨rfl, w1, hq, rfl⟩
theorem own_sliceU {w : World} {base n size : Nat} {e : TypeId} {v : Value} {xs : List Value} (h : w.ownsRow base e size v n xs) : ∃ a c, v = .slice a n c := by
  obtain ⟨_, ⟨rfl, h0⟩ | ⟨g, cap, cur, rfl, _, _, h1, h2, _⟩⟩ := h
  · exact ⟨none, 0, by rw [h0]⟩
  · exact ⟨_, cap, rfl⟩
theorem news_one (x : World) (v : Value) (t : TypeId) : ∀ (j : Nat) (u : Value), ([v] : List Value)[j]? = some u → (x.alloc (.cells #[v] t)).cell? ((⟨x.heap.size, 0, none⟩ : Addr).add j) = some u := by
  intro j u h
  match j with
  | 0 => simp at h; subst h; simp [go_sem, Addr.add]
  | j + 1 => simp at h
/-- worlds in which a cell of the list of a literal's watchers still stands -/
def WaC (lo b p : Nat) (v : Value) (w0 W : World) : Prop := Below lo w0 W ∧ W.cell? ⟨b, 1 + p, none⟩ = some v
set_option maxHeartbeats 8000000 in
set_option maxRecDepth 100000 in
theorem watch_any (lo b i : Nat) (k : Pq) (s : Ps) (x : Int) (w : World) (hP : PrM lo b k s w) (hx : ofC x 60 = true) (hlen : (s.Wl (plc x)).length ≤ 1000000) (hlo : lo ≤ w.heap.size) :
    Calls Try.prog 54 #[.pointer (some ⟨b, 0, none⟩), .int .i64 (i : Int), .int .i64 x] w fun e w' => e = .returned (.tuple #[]) ∧ (∃ v', PrM lo b k {s with WV := fun q => if q = plc x then v' else s.WV q, Wl := fun q => if q = plc x then s.Wl (plc x) ++ [i] else s.Wl q} w') ∧ Below lo w w' := by
  have hpl := fun W => place_any x W hx
  have hp := (plc_lt hx).1
  generalize plc x = p at *
  have hcw := hP.cw hp
  have hpI : (p : Int) < 121 := by omega
  obtain ⟨i0, hi, hz0, hz1, hz2⟩ := info_parts infoI
  obtain ⟨av, cv, hav⟩ := own_sliceU (hP.wl p hp)
  rw [hav] at hcw
  have HP := hid hP; clear hP
  have HI := hid hi; clear hi
  have HAV := hid hav; clear hav
  have hn9 : (s.Wl p).length ≤ 1000000 := hlen
  generalize hnn : (s.Wl p).length = nn at *
  have HNN := hid hnn; clear hnn
  go_enter Try.func54, Try.ntmps54
  go_upto_region 0 with fail
  have qd := (Below.refl w.heap.size w).drew
  have hb0 := qd.mono hlo
  have hcw0 := carry qd hcw
  have HP0 := hid (HP.out.below qd)
  have hlo0 : lo ≤ w.drew.heap.size := Nat.le_trans hlo qd.size
  refine region_planC (WaC lo b p (.slice av nn cv) w) (.takes [0, 1, 3, 4, 6, 7, 10, 13, 14] (.fork 2 11 (.fork 5 11 (.takes [8, 9] (.make 11 (.make 12 (.takes [15] .fin)))) (.make 5 (.takes [8, 9] (.make 12 (.takes [15] .fin))))) (.make 2 (.make 5 (.takes [8, 9] (.make 12 (.takes [15] .fin))))))) 16 rfl (by kernel_rfl) ⟨hb0, hcw0⟩ ?_
  generalize w.drew = x0 at *
  clear qd hcw
  have hZ : WaC lo b p (.slice av nn cv) w x0 := ⟨hb0, hcw0⟩
  refine plan_takes ?_; simp only [pickOps, List.getElem?_cons_zero, List.getElem?_cons_succ]
  refine quiet_doC rfl (.pointer (some ⟨b, 0, none⟩)) (fun W hW => by simp [execOp, go_sem]) ?_
  refine quiet_doC rfl (.int .i64 x) (fun W hW => by simp [execOp, go_sem]) ?_
  refine quiet_doC rfl (.pointer (some ⟨b, 0, none⟩)) (fun W hW => by simp [execOp, go_sem]) ?_
  refine quiet_doC rfl (.int .i64 x) (fun W hW => by simp [execOp, go_sem]) ?_
  refine quiet_doC rfl (.pointer (some ⟨b, 0, none⟩)) (fun W hW => by simp [execOp, go_sem]) ?_
  refine quiet_doC rfl (.pointer (some ⟨b, 1, none⟩)) (fun W hW => by simp [execOp, go_sem]) ?_
  refine quiet_doC rfl (.int .i64 (i : Int)) (fun W hW => by simp [execOp, go_sem]) ?_
  refine quiet_doC rfl (.pointer (some ⟨b, 0, none⟩)) (fun W hW => by simp [execOp, go_sem]) ?_
  refine quiet_doC rfl (.pointer (some ⟨b, 1, none⟩)) (fun W hW => by simp [execOp, go_sem]) ?_
  refine wpQuiet_nil ?_
  simp only [Act.put, List.setIfInBounds_toArray, List.set_cons_succ, List.set_cons_zero]
  refine plan_fork ?_ ?_
  · skip
    refine planC_call rfl rfl 58 #[.int .i64 x] (by kernel_rfl) ((hpl _).mono ?_)
    rintro e _ ⟨rfl, rfl⟩
    refine ⟨_, rfl, hZ, ?_⟩
    simp only [Act.put, List.setIfInBounds_toArray, List.set_cons_succ, List.set_cons_zero]
    refine plan_fork ?_ ?_
    · skip
      refine planC_call rfl rfl 58 #[.int .i64 x] (by kernel_rfl) ((hpl _).mono ?_)
      rintro e _ ⟨rfl, rfl⟩
      refine ⟨_, rfl, hZ, ?_⟩
      simp only [Act.put, List.setIfInBounds_toArray, List.set_cons_succ, List.set_cons_zero]
      refine plan_takes ?_; simp only [pickOps, List.getElem?_cons_zero, List.getElem?_cons_succ]
      refine quiet_doC rfl (.pointer (some ⟨b, 1 + p, none⟩)) (fun W hW => by simp [execOp, go_sem, hpI]) ?_
      refine quiet_doC rfl (.slice av nn cv) (fun W hW => by simp [execOp, go_sem, hW.2]) ?_
      refine wpQuiet_nil ?_
      simp only [Act.put, List.setIfInBounds_toArray, List.set_cons_succ, List.set_cons_zero]
      have CX := bal (Below.refl x0.heap.size x0) (.cells #[.int .i64 (i : Int)] 3)
      have hZ1 : WaC lo b p (.slice av nn cv) w (x0.alloc (.cells #[.int .i64 (i : Int)] 3)) := ⟨hb0.trans (CX.mono hlo0), carry CX hcw0⟩
      have hlo1 : lo ≤ (x0.alloc (.cells #[.int .i64 (i : Int)] 3)).heap.size := Nat.le_trans hlo0 CX.size
      refine planC_val rfl rfl (.slice (some ⟨x0.heap.size, 0, none⟩) 1 1) (w'' := x0.alloc (.cells #[.int .i64 (i : Int)] 3)) (by simp [execOp, go_sem]) hZ1 ?_
      have hnews := news_one x0 (.int .i64 (i : Int)) 3
      have HP1 := hid (HP0.out.below CX)
      clear hZ CX
      generalize x0.heap.size = nb at *
      generalize x0.alloc (.cells #[.int .i64 (i : Int)] 3) = x1 at *
      have hZ := hZ1
      simp only [Act.put, List.setIfInBounds_toArray, List.set_cons_succ, List.set_cons_zero]
      have hO1 := HP1.out.wl p hp
      rw [HAV.out, HNN.out] at hO1
      refine planC_appendU rfl rfl _ _ 38 rfl lo 3 i0 _ 1 8 Try.underlying38 HI.out hz0 hz1 hz2 rfl (by decide) (.slice av nn cv) nn (valsN (s.Wl p)) (by kernel_rfl) hO1 ⟨nb, 0, none⟩ 1 1 [.int .i64 (i : Int)] (by kernel_rfl) rfl hnews (fun u hu => by simp at hu; subst hu; rfl) (by unfold maxLen; omega) (by omega) hlo1 ?_
      intro v' w6 hown6 hgrow hfresh
      have hgb : ∀ r, (Value.slice av nn cv).ownBlock = some r → lo ≤ r := fun r hr => (hO1.lt r hr).1
      have hk1 := (HP1.out.keepW hO1 hgrow).1
      have hb6 : Below lo w w6 := hZ.1.grown hgrow hlo1 hgb
      have d0 : w6.cell? ⟨b, 1 + p, none⟩ = some (.slice av nn cv) := by
        have h1 := hk1.cell (i := 1 + p) (by omega)
        rw [prF_w hp, HAV.out] at h1
        exact h1
      refine ⟨⟨hb6, d0⟩, ?_⟩
      have g0 : w6.frozen? ⟨b, 1 + p, none⟩ = false := hk1.frozen (1 + p)
      have hlob := HP1.out.lob
      have HF := hid (HP1.out.watch (v' := v') (w' := w6) (i := i) hp (by rw [HAV.out]; exact hgrow) (by rw [HNN.out]; exact hown6) (by rw [HAV.out]; exact hfresh))
      obtain ⟨av', cv', rfl⟩ := own_sliceU hown6
      clear hown6 hgrow hfresh hk1 hO1 hgb
      simp only [Act.put, List.setIfInBounds_toArray, List.set_cons_succ, List.set_cons_zero]
      refine plan_takes ?_; simp only [pickOps, List.getElem?_cons_zero, List.getElem?_cons_succ]
      refine quiet_doC rfl (.pointer (some ⟨b, 1 + p, none⟩)) (fun W hW => by simp [execOp, go_sem, hpI]) ?_
      refine wpQuiet_nil ?_
      simp only [Act.put, List.setIfInBounds_toArray, List.set_cons_succ, List.set_cons_zero]
      refine plan_fin ?_
      simp only [List.drop_succ_cons, List.drop_zero, Act.put, List.setIfInBounds_toArray, List.set_cons_succ, List.set_cons_zero]
      go_wp2
      go_end0
      exact ⟨rfl, ⟨_, HF.out⟩, hb6.setCell hlob _⟩
    · skip
      have CX := bal (Below.refl x0.heap.size x0) (.cells #[.int .i64 (i : Int)] 3)
      have hZ1 : WaC lo b p (.slice av nn cv) w (x0.alloc (.cells #[.int .i64 (i : Int)] 3)) := ⟨hb0.trans (CX.mono hlo0), carry CX hcw0⟩
      have hlo1 : lo ≤ (x0.alloc (.cells #[.int .i64 (i : Int)] 3)).heap.size := Nat.le_trans hlo0 CX.size
      refine planC_val rfl rfl (.slice (some ⟨x0.heap.size, 0, none⟩) 1 1) (w'' := x0.alloc (.cells #[.int .i64 (i : Int)] 3)) (by simp [execOp, go_sem]) hZ1 ?_
      have hnews := news_one x0 (.int .i64 (i : Int)) 3
      have HP1 := hid (HP0.out.below CX)
      clear hZ CX
      generalize x0.heap.size = nb at *
      generalize x0.alloc (.cells #[.int .i64 (i : Int)] 3) = x1 at *
      have hZ := hZ1
      simp only [Act.put, List.setIfInBounds_toArray, List.set_cons_succ, List.set_cons_zero]
      refine planC_call rfl rfl 58 #[.int .i64 x] (by kernel_rfl) ((hpl _).mono ?_)
      rintro e _ ⟨rfl, rfl⟩
      refine ⟨_, rfl, hZ, ?_⟩
      simp only [Act.put, List.setIfInBounds_toArray, List.set_cons_succ, List.set_cons_zero]
      refine plan_takes ?_; simp only [pickOps, List.getElem?_cons_zero, List.getElem?_cons_succ]
      refine quiet_doC rfl (.pointer (some ⟨b, 1 + p, none⟩)) (fun W hW => by simp [execOp, go_sem, hpI]) ?_
      refine quiet_doC rfl (.slice av nn cv) (fun W hW => by simp [execOp, go_sem, hW.2]) ?_
      refine wpQuiet_nil ?_
      simp only [Act.put, List.setIfInBounds_toArray, List.set_cons_succ, List.set_cons_zero]
      have hO1 := HP1.out.wl p hp
      rw [HAV.out, HNN.out] at hO1
      refine planC_appendU rfl rfl _ _ 38 rfl lo 3 i0 _ 1 8 Try.underlying38 HI.out hz0 hz1 hz2 rfl (by decide) (.slice av nn cv) nn (valsN (s.Wl p)) (by kernel_rfl) hO1 ⟨nb, 0, none⟩ 1 1 [.int .i64 (i : Int)] (by kernel_rfl) rfl hnews (fun u hu => by simp at hu; subst hu; rfl) (by unfold maxLen; omega) (by omega) hlo1 ?_
      intro v' w6 hown6 hgrow hfresh
      have hgb : ∀ r, (Value.slice av nn cv).ownBlock = some r → lo ≤ r := fun r hr => (hO1.lt r hr).1
      have hk1 := (HP1.out.keepW hO1 hgrow).1
      have hb6 : Below lo w w6 := hZ.1.grown hgrow hlo1 hgb
      have d0 : w6.cell? ⟨b, 1 + p, none⟩ = some (.slice av nn cv) := by
        have h1 := hk1.cell (i := 1 + p) (by omega)
        rw [prF_w hp, HAV.out] at h1
        exact h1
      refine ⟨⟨hb6, d0⟩, ?_⟩
      have g0 : w6.frozen? ⟨b, 1 + p, none⟩ = false := hk1.frozen (1 + p)
      have hlob := HP1.out.lob
      have HF := hid (HP1.out.watch (v' := v') (w' := w6) (i := i) hp (by rw [HAV.out]; exact hgrow) (by rw [HNN.out]; exact hown6) (by rw [HAV.out]; exact hfresh))
      obtain ⟨av', cv', rfl⟩ := own_sliceU hown6
      clear hown6 hgrow hfresh hk1 hO1 hgb
      simp only [Act.put, List.setIfInBounds_toArray, List.set_cons_succ, List.set_cons_zero]
      refine plan_takes ?_; simp only [pickOps, List.getElem?_cons_zero, List.getElem?_cons_succ]
      refine quiet_doC rfl (.pointer (some ⟨b, 1 + p, none⟩)) (fun W hW => by simp [execOp, go_sem, hpI]) ?_
      refine wpQuiet_nil ?_
      simp only [Act.put, List.setIfInBounds_toArray, List.set_cons_succ, List.set_cons_zero]
      refine plan_fin ?_
      simp only [List.drop_succ_cons, List.drop_zero, Act.put, List.setIfInBounds_toArray, List.set_cons_succ, List.set_cons_zero]
      go_wp2
      go_end0
      exact ⟨rfl, ⟨_, HF.out⟩, hb6.setCell hlob _⟩
  · skip
    have CX := bal (Below.refl x0.heap.size x0) (.cells #[.int .i64 (i : Int)] 3)
    have hZ1 : WaC lo b p (.slice av nn cv) w (x0.alloc (.cells #[.int .i64 (i : Int)] 3)) := ⟨hb0.trans (CX.mono hlo0), carry CX hcw0⟩
    have hlo1 : lo ≤ (x0.alloc (.cells #[.int .i64 (i : Int)] 3)).heap.size := Nat.le_trans hlo0 CX.size
    refine planC_val rfl rfl (.slice (some ⟨x0.heap.size, 0, none⟩) 1 1) (w'' := x0.alloc (.cells #[.int .i64 (i : Int)] 3)) (by simp [execOp, go_sem]) hZ1 ?_
    have hnews := news_one x0 (.int .i64 (i : Int)) 3
    have HP1 := hid (HP0.out.below CX)
    clear hZ CX
    generalize x0.heap.size = nb at *
    generalize x0.alloc (.cells #[.int .i64 (i : Int)] 3) = x1 at *
    have hZ := hZ1
    simp only [Act.put, List.setIfInBounds_toArray, List.set_cons_succ, List.set_cons_zero]
    refine planC_call rfl rfl 58 #[.int .i64 x] (by kernel_rfl) ((hpl _).mono ?_)
    rintro e _ ⟨rfl, rfl⟩
    refine ⟨_, rfl, hZ, ?_⟩
    simp only [Act.put, List.setIfInBounds_toArray, List.set_cons_succ, List.set_cons_zero]
    refine planC_call rfl rfl 58 #[.int .i64 x] (by kernel_rfl) ((hpl _).mono ?_)
    rintro e _ ⟨rfl, rfl⟩
    refine ⟨_, rfl, hZ, ?_⟩
    simp only [Act.put, List.setIfInBounds_toArray, List.set_cons_succ, List.set_cons_zero]
    refine plan_takes ?_; simp only [pickOps, List.getElem?_cons_zero, List.getElem?_cons_succ]
    refine quiet_doC rfl (.pointer (some ⟨b, 1 + p, none⟩)) (fun W hW => by simp [execOp, go_sem, hpI]) ?_
    refine quiet_doC rfl (.slice av nn cv) (fun W hW => by simp [execOp, go_sem, hW.2]) ?_
    refine wpQuiet_nil ?_
    simp only [Act.put, List.setIfInBounds_toArray, List.set_cons_succ, List.set_cons_zero]
    have hO1 := HP1.out.wl p hp
    rw [HAV.out, HNN.out] at hO1
    refine planC_appendU rfl rfl _ _ 38 rfl lo 3 i0 _ 1 8 Try.underlying38 HI.out hz0 hz1 hz2 rfl (by decide) (.slice av nn cv) nn (valsN (s.Wl p)) (by kernel_rfl) hO1 ⟨nb, 0, none⟩ 1 1 [.int .i64 (i : Int)] (by kernel_rfl) rfl hnews (fun u hu => by simp at hu; subst hu; rfl) (by unfold maxLen; omega) (by omega) hlo1 ?_
    intro v' w6 hown6 hgrow hfresh
    have hgb : ∀ r, (Value.slice av nn cv).ownBlock = some r → lo ≤ r := fun r hr => (hO1.lt r hr).1
    have hk1 := (HP1.out.keepW hO1 hgrow).1
    have hb6 : Below lo w w6 := hZ.1.grown hgrow hlo1 hgb
    have d0 : w6.cell? ⟨b, 1 + p, none⟩ = some (.slice av nn cv) := by
      have h1 := hk1.cell (i := 1 + p) (by omega)
      rw [prF_w hp, HAV.out] at h1
      exact h1
    refine ⟨⟨hb6, d0⟩, ?_⟩
    have g0 : w6.frozen? ⟨b, 1 + p, none⟩ = false := hk1.frozen (1 + p)
    have hlob := HP1.out.lob
    have HF := hid (HP1.out.watch (v' := v') (w' := w6) (i := i) hp (by rw [HAV.out]; exact hgrow) (by rw [HNN.out]; exact hown6) (by rw [HAV.out]; exact hfresh))
    obtain ⟨av', cv', rfl⟩ := own_sliceU hown6
    clear hown6 hgrow hfresh hk1 hO1 hgb
    simp only [Act.put, List.setIfInBounds_toArray, List.set_cons_succ, List.set_cons_zero]
    refine plan_takes ?_; simp only [pickOps, List.getElem?_cons_zero, List.getElem?_cons_succ]
    refine quiet_doC rfl (.pointer (some ⟨b, 1 + p, none⟩)) (fun W hW => by simp [execOp, go_sem, hpI]) ?_
    refine wpQuiet_nil ?_
    simp only [Act.put, List.setIfInBounds_toArray, List.set_cons_succ, List.set_cons_zero]
    refine plan_fin ?_
    simp only [List.drop_succ_cons, List.drop_zero, Act.put, List.setIfInBounds_toArray, List.set_cons_succ, List.set_cons_zero]
    go_wp2
    go_end0
    exact ⟨rfl, ⟨_, HF.out⟩, hb6.setCell hlob _⟩
end Go.Proofs.Ytjnngijilkdhbaa

namespace Go.Proofs.Ytjnngijilkdhbaa
set_option linter.unusedVariables false
set_option linter.unusedSimpArgs false
open Go.RowKit
/-- two literals of a clause changed places -/
theorem PrM.swap {lo b : Nat} {k : Pq} {s : Ps} {w : World} (h : PrM lo b k s w) {i j j' g : Nat} (hi : i < k.n) (hj : j < k.N i) (hj' : j' < k.N i) (hg : (k.cv i).ownBlock = some g) (hne : j ≠ j') :
    PrM lo b k {s with C := fun i' => if i' = i then swp j j' (s.C i) else s.C i'} ((w.setCell ⟨g, j, none⟩ (.int .i64 (s.C i j'))).setCell ⟨g, j', none⟩ (.int .i64 (s.C i j))) := by
  have h2 := (h.setC hi hj hg (s.C i j')).setC hi hj' hg (s.C i j)
  refine cast (congrArg (fun c => PrM lo b k {s with C := c} _) ?_) h2
  funext i'
  simp only
  by_cases e : i' = i
  · simp only [if_pos e, ↓reduceIte]
    funext t
    unfold swp
    by_cases e1 : t = j'
    · rw [if_pos e1, if_neg (by omega), if_pos e1]
    · rw [if_neg e1]
      by_cases e2 : t = j
      · rw [if_pos e2, if_pos e2]
      · rw [if_neg e2, if_neg e2, if_neg e1]
  · simp only [if_neg e]
/-- what comes of a clause whose second literal is gone: r whether another one is watched -/
def WaP (lo b : Nat) (k : Pq) (s : Ps) (i : Nat) (c : Nat → Int) (r : Bool) (w' : World) : Prop :=
  (r = true ∧ ∃ a v', 2 ≤ a ∧ a < k.N i ∧ s.S (vrC (c a)).toNat ≠ -(c a) ∧ PrM lo b k {s with C := fun i' => if i' = i then swp 1 a c else s.C i', WV := fun q => if q = plc (c a) then v' else s.WV q, Wl := fun q => if q = plc (c a) then s.Wl (plc (c a)) ++ [i] else s.Wl q} w') ∨
  (r = false ∧ (∀ a, 2 ≤ a → a < k.N i → s.S (vrC (c a)).toNat = -(c a)) ∧ PrM lo b k {s with C := fun i' => if i' = i then c else s.C i'} w')
theorem lit_rng {x : Int} (h : ofC x 60 = true) : ∃ v : Nat, vrC x = (v : Int) ∧ (vrC x).toNat = v ∧ v ≤ 60 ∧ -9223372036854775807 ≤ x ∧ x ≤ 9223372036854775807 ∧ -9223372036854775807 ≤ -x ∧ -x ≤ 9223372036854775807 ∧ vrC (-x) = (v : Int) := by
  obtain ⟨v, e1, e2, e3, e4, e5, e6, e7⟩ := of_rng h
  have := ofC_iff.1 h
  exact ⟨v, e5, by rw [e5]; rfl, e3, by omega, by omega, by omega, by omega, by rw [vrC_neg]; exact e5⟩
/-- the clause's row, read -/
theorem PrM.cg' {lo b : Nat} {k : Pq} {s : Ps} {w : World} (h : PrM lo b k s w) {i g : Nat} (hi : i < k.n) (hN : 0 < k.N i) (hCA : k.CA i = some ⟨g, 0, none⟩) :
    (k.cv i).ownBlock = some g ∧ lo ≤ g ∧ (∀ j, j < k.N i → w.cell? ⟨g, j, none⟩ = some (.int .i64 (s.C i j))) ∧ ∀ j, w.frozen? ⟨g, j, none⟩ = false := by
  obtain ⟨g', e1, e2, e3, e4, e5, e6⟩ := h.cg hi hN
  rw [hCA] at e1
  injection e1 with e1
  injection e1 with e1 _ _
  subst e1
  exact ⟨e4, e3, e5, e6⟩
theorem Ps.sameC (s : Ps) (i : Nat) : ({s with C := fun i' => if i' = i then s.C i else s.C i'} : Ps) = s := by
  cases s with
  | mk C WV Wl due S TV T =>
    simp only [Ps.mk.injEq, and_true, and_self]
    funext i'
    split
    · rename_i e; subst e; rfl
    · rfl
set_option maxHeartbeats 8000000 in
set_option maxRecDepth 100000 in
theorem wanother_any (lo b i : Nat) (k : Pq) (s : Ps) (x : Int) (w : World) (hP : PrM lo b k s w) (hi : i < k.n) (hN : 2 ≤ k.N i) (hN6 : k.N i ≤ 1000) (hl : ∀ j, j < k.N i → ofC (s.C i j) 60 = true) (hlen : ∀ y, ofC y 60 = true → s.S (vrC y).toNat ≠ -y → (s.Wl (plc y)).length ≤ 1000000) (hlo : lo ≤ w.heap.size) :
    Calls Try.prog 59 #[.pointer (some ⟨b, 0, none⟩), .int .i64 (i : Int), .int .i64 x] w fun e w' => (∃ r : Bool, e = .returned (.bool r) ∧ WaP lo b k s i (sw01 x (s.C i)) r w') ∧ Below lo w w' := by
  obtain ⟨g, hCA, hgl, hlg, hob, hcells, hfr⟩ := hP.cg hi (by omega)
  have p0 := hP.c0
  have pc := hP.cc hi
  rw [hCA] at pc
  have HC := hid hcells
  have HFR := hid hfr
  have c0 := hcells 0 (by omega)
  have c1 := hcells 1 (by omega)
  have f0 := hfr 0
  have f1 := hfr 1
  have hNb : (1 : Int) < (k.N i : Int) := by omega
  have hiI : (i : Int) < (k.n : Int) := by omega
  have HP := hid hP
  clear hcells hfr hP
  by_cases e : s.C i 0 = x
  · have d1 : (s.C i 0 == x) = true := by simpa using e
    have hc : sw01 x (s.C i) = swp 0 1 (s.C i) := by unfold sw01; rw [if_pos e]
    rw [hc]
    obtain ⟨c, hcc⟩ : ∃ c, c = swp 0 1 (s.C i) := ⟨_, rfl⟩
    rw [← hcc]
    have HCC := hid hcc
    clear e hc hcc
    go_enter Try.func59, Try.ntmps59
    go_wp2
    go_region
    have HPs := hid (HP.out.swap (j := 0) (j' := 1) hi (by omega) (by omega) hob (by omega))
    have HCL : Hid (∀ j, j < k.N i → ofC (swp 0 1 (s.C i) j) 60 = true) := hid (fun j hj => by
      unfold swp
      split
      · exact hl 1 (by omega)
      · split
        · exact hl 0 (by omega)
        · exact hl j hj)
    have q1 : Below lo w ((w.setCell ⟨g, 0, none⟩ (.int .i64 (s.C i 1))).setCell ⟨g, 1, none⟩ (.int .i64 (s.C i 0))).drew := (((Below.refl lo w).setCell hlg _).setCell hlg _).drew
    have HP1 := hid (HPs.out.below ((Below.refl _ _).drew))
    clear HPs hl
    obtain ⟨w1, hw1⟩ : ∃ w1, w1 = ((w.setCell ⟨g, 0, none⟩ (.int .i64 (s.C i 1))).setCell ⟨g, 1, none⟩ (.int .i64 (s.C i 0))).drew := ⟨_, rfl⟩
    rw [← hw1] at q1 HP1 ⊢
    have hlo1 : lo ≤ w1.heap.size := Nat.le_trans hlo q1.size
    clear hw1 c0 c1 f0 f1 p0 pc HFR
    rw [← HCC.out] at HCL HP1
    clear HCC
    have hcl : ∀ j, j < k.N i → ofC (c j) 60 = true := HCL.out
    have HP2 := hid (show PrM lo b k {s with C := fun i' => if i' = i then c else s.C i'} w1 from HP1.out)
    have hloW : lo ≤ w1.heap.size := hlo1
    go_wp2
    go_loopw [8] (fun v wr => ∃ a : Nat, 2 ≤ a ∧ a ≤ k.N i ∧ v = .int .i64 (a : Int) ∧ Below w1.heap.size w1 wr ∧ ∀ j, 2 ≤ j → j < a → s.S (vrC (c j)).toNat = -(c j)) (fun v _ => k.N i - (intOf v).toNat)
    case atStart => exact ⟨2, Nat.le_refl _, hN, rfl, Below.refl _ _, fun j h1 h2 => by omega⟩
    case round =>
      obtain ⟨a, a2, haN, rfl, hb, he⟩ := hrel
      have HE := hid he; clear he
      by_cases hlt : a < k.N i
      · have HPr := hid (HP2.out.below hb)
        obtain ⟨hob, hlog, hcells, hfr⟩ := HPr.out.cg' hi (by omega) hCA
        have ca : wr.cell? ⟨g, a, none⟩ = some (.int .i64 (c a)) := by have := hcells a hlt; simpa using this
        obtain ⟨v, e1, e2, e3, e4, e5, e6, e7, e8⟩ := lit_rng (hcl a hlt)
        have hsc := HPr.out.cs (v := v) (by omega)
        replace hsc : wr.cell? ⟨b, 123 + v, none⟩ = some (.int .i64 (s.S v)) := hsc
        have hNt := fun X : Gro wr => (not_any (c a) (gro wr X) ⟨by omega, by omega⟩).mono fun e w' h => (⟨h.1, h.2 ▸ Below.refl _ _⟩ : e = .returned (.int .i64 (-(c a))) ∧ Below (gro wr X).heap.size (gro wr X) w')
        have hHs := fun X : Gro wr => hasU_any b 123 v (-(c a)) (s.S v) (gro wr X) (carry X.h hsc) ⟨by omega, by omega⟩ e8 e3
        have hsz := cell_lt ca
        have hsb := cell_lt hsc
        have gc := @gro_cell wr
        have hNa : (a : Int) < (k.N i : Int) := by omega
        cases hv : (s.S v == -(c a))
        · rw [hv] at hHs
          have hv' : s.S (vrC (c a)).toNat ≠ -(c a) := by rw [e2]; simpa using hv
          have HV := hid hv'
          have HCA2 := hid (hcl a hlt)
          clear hv hv' e1 e2 e3 e4 e5 e6 e7 e8 hsc
          have c1 : wr.cell? ⟨g, 1, none⟩ = some (.int .i64 (c 1)) := by have := hcells 1 (by omega); simpa using this
          have HF := hid hfr
          clear hcells hfr
          go_upto_region 7 with fail
          refine wp_region_grow_lit (by kernel_rfl) (by kernel_rfl) ?_
          repeat (go_big_quiet_step (first | (go_at_call 57; exact grow_call _ (hNt _)) | (go_at_call 61; exact grow_call _ (hHs _))))
          refine wpQuiet_nil ?_
          rintro _ ⟨X, rfl⟩
          clear gc hNt hHs
          have XH : Below wr.heap.size wr (gro wr X) := X.h
          have HX := hid XH
          have x1 := carry XH c1
          have xa := carry XH ca
          have f1 : (gro wr X).frozen? ⟨g, 1, none⟩ = false := carryf XH (HF.out 1) hsz
          have fa : (gro wr X).frozen? ⟨g, a, none⟩ = false := carryf XH (HF.out a) hsz
          have HPx := hid (HPr.out.below XH)
          have hszx : wr.heap.size ≤ (gro wr X).heap.size := XH.size
          generalize gro wr X = wx at *
          clear c1 ca X XH
          have hNb : (1 : Int) < (k.N i : Int) := by omega
          have ha1 : ¬ ((a : Int) = 1) := by omega
          have ha1' : ¬ (a = 1) := by omega
          go_wp2
          go_region
          have HPs := hid (HPx.out.swap (j := 1) (j' := a) hi (by omega) hlt hob (by omega))
          simp only [↓reduceIte] at HPs
          have hs1 : swp 1 a c 1 = c a := by unfold swp; rw [if_pos rfl]
          have hsw : (swp 1 a c) = swp 1 a c := rfl
          have q2 : Below lo wx ((wx.setCell ⟨g, 1, none⟩ (.int .i64 (c a))).setCell ⟨g, a, none⟩ (.int .i64 (c 1))).drew := (((Below.refl lo wx).setCell hlog _).setCell hlog _).drew
          have HP3 := hid (HPs.out.below ((Below.refl _ _).drew))
          have q3 : Below lo w ((wx.setCell ⟨g, 1, none⟩ (.int .i64 (c a))).setCell ⟨g, a, none⟩ (.int .i64 (c 1))).drew := (q1.trans ((btr hb HX.out).mono hloW)).trans q2
          clear HPs q2
          obtain ⟨w3, hw3⟩ : ∃ w3, w3 = ((wx.setCell ⟨g, 1, none⟩ (.int .i64 (c a))).setCell ⟨g, a, none⟩ (.int .i64 (c 1))).drew := ⟨_, rfl⟩
          rw [← hw3] at q3 HP3 ⊢
          have hlo3 : lo ≤ w3.heap.size := Nat.le_trans hlo q3.size
          clear hw3 x1 xa f1 fa HX
          have y1 : w3.cell? ⟨g, 1, none⟩ = some (.int .i64 (c a)) := by
            have h2 := (HP3.out.cg' hi (by omega) hCA).2.2.1 1 (by omega)
            simp only [↓reduceIte] at h2
            rw [hs1] at h2
            exact h2
          have hlenp := hlen (c a) HCA2.out HV.out
          have hWt := watch_any lo b i k _ (c a) w3 HP3.out HCA2.out hlenp hlo3
          clear hs1 hsw
          go_wp2_with (go_at_call 54; refine hWt.mono ?_; rintro e w4 ⟨rfl, ⟨v', hP4⟩, hq4⟩)
          go_ret
          refine ⟨⟨true, rfl, .inl ⟨rfl, a, v', a2, hlt, HV.out, ?_⟩⟩, q3.trans hq4⟩
          have he : (fun i' => if i' = i then swp 1 a c else if i' = i then c else s.C i') = (fun i' => if i' = i then swp 1 a c else s.C i') := by
            funext i'
            by_cases e : i' = i <;> simp [e]
          simp only [he] at hP4
          exact hP4
        · rw [hv] at hHs
          have hv' : s.S (vrC (c a)).toNat = -(c a) := by rw [e2]; simpa using hv
          have HV := hid hv'
          clear hv hv' e1 e2 e3 e4 e5 e6 e7 e8 hsc hcells hfr
          go_upto_region 7 with fail
          refine wp_region_grow_lit (by kernel_rfl) (by kernel_rfl) ?_
          repeat (go_big_quiet_step (first | (go_at_call 57; exact grow_call _ (hNt _)) | (go_at_call 61; exact grow_call _ (hHs _))))
          refine wpQuiet_nil ?_
          rintro _ ⟨X, rfl⟩
          clear gc hNt hHs
          go_wp2
          go_roundw
          case rel =>
            refine ⟨a + 1, by omega, by omega, by go_num, btr hb X.h, fun j h1 h2 => ?_⟩
            by_cases e : j = a
            · subst e; exact HV.out
            · exact HE.out j h1 (by omega)
          case measure => simp [intOf]; omega
      · have hke : a = k.N i := by omega
        subst hke
        go_wp2
        go_ret
        exact ⟨⟨false, rfl, .inr ⟨rfl, HE.out, HP2.out.below hb⟩⟩, q1.trans (hb.mono hloW)⟩
  · have d1 : (s.C i 0 == x) = false := by simpa using e
    have hc : sw01 x (s.C i) = s.C i := by unfold sw01; rw [if_neg e]
    rw [hc]
    have HP1 : Hid (PrM lo b k {s with C := fun i' => if i' = i then s.C i else s.C i'} w) := hid (by rw [s.sameC i]; exact HP.out)
    have HCL := hid hl
    have hlo1 := hlo
    have q1 : Below lo w w := Below.refl _ _
    obtain ⟨c, hcc⟩ : ∃ c, c = s.C i := ⟨_, rfl⟩
    rw [← hcc]
    have HCC := hid hcc
    clear e hc hl hcc
    go_enter Try.func59, Try.ntmps59
    go_upto_region 4 with fail
    clear c0 c1 f0 f1 p0 pc HFR HC d1
    rw [← HCC.out] at HCL HP1
    clear HCC
    obtain ⟨w1, hw1⟩ : ∃ w1, w1 = w := ⟨_, rfl⟩
    rw [← hw1] at HP1 hlo1 ⊢
    replace q1 : Below lo w w1 := by rw [hw1]; exact q1
    clear hw1
    have hcl : ∀ j, j < k.N i → ofC (c j) 60 = true := HCL.out
    have HP2 := hid (show PrM lo b k {s with C := fun i' => if i' = i then c else s.C i'} w1 from HP1.out)
    have hloW : lo ≤ w1.heap.size := hlo1
    go_wp2
    go_loopw [8] (fun v wr => ∃ a : Nat, 2 ≤ a ∧ a ≤ k.N i ∧ v = .int .i64 (a : Int) ∧ Below w1.heap.size w1 wr ∧ ∀ j, 2 ≤ j → j < a → s.S (vrC (c j)).toNat = -(c j)) (fun v _ => k.N i - (intOf v).toNat)
    case atStart => exact ⟨2, Nat.le_refl _, hN, rfl, Below.refl _ _, fun j h1 h2 => by omega⟩
    case round =>
      obtain ⟨a, a2, haN, rfl, hb, he⟩ := hrel
      have HE := hid he; clear he
      by_cases hlt : a < k.N i
      · have HPr := hid (HP2.out.below hb)
        obtain ⟨hob, hlog, hcells, hfr⟩ := HPr.out.cg' hi (by omega) hCA
        have ca : wr.cell? ⟨g, a, none⟩ = some (.int .i64 (c a)) := by have := hcells a hlt; simpa using this
        obtain ⟨v, e1, e2, e3, e4, e5, e6, e7, e8⟩ := lit_rng (hcl a hlt)
        have hsc := HPr.out.cs (v := v) (by omega)
        replace hsc : wr.cell? ⟨b, 123 + v, none⟩ = some (.int .i64 (s.S v)) := hsc
        have hNt := fun X : Gro wr => (not_any (c a) (gro wr X) ⟨by omega, by omega⟩).mono fun e w' h => (⟨h.1, h.2 ▸ Below.refl _ _⟩ : e = .returned (.int .i64 (-(c a))) ∧ Below (gro wr X).heap.size (gro wr X) w')
        have hHs := fun X : Gro wr => hasU_any b 123 v (-(c a)) (s.S v) (gro wr X) (carry X.h hsc) ⟨by omega, by omega⟩ e8 e3
        have hsz := cell_lt ca
        have hsb := cell_lt hsc
        have gc := @gro_cell wr
        have hNa : (a : Int) < (k.N i : Int) := by omega
        cases hv : (s.S v == -(c a))
        · rw [hv] at hHs
          have hv' : s.S (vrC (c a)).toNat ≠ -(c a) := by rw [e2]; simpa using hv
          have HV := hid hv'
          have HCA2 := hid (hcl a hlt)
          clear hv hv' e1 e2 e3 e4 e5 e6 e7 e8 hsc
          have c1 : wr.cell? ⟨g, 1, none⟩ = some (.int .i64 (c 1)) := by have := hcells 1 (by omega); simpa using this
          have HF := hid hfr
          clear hcells hfr
          go_upto_region 7 with fail
          refine wp_region_grow_lit (by kernel_rfl) (by kernel_rfl) ?_
          repeat (go_big_quiet_step (first | (go_at_call 57; exact grow_call _ (hNt _)) | (go_at_call 61; exact grow_call _ (hHs _))))
          refine wpQuiet_nil ?_
          rintro _ ⟨X, rfl⟩
          clear gc hNt hHs
          have XH : Below wr.heap.size wr (gro wr X) := X.h
          have HX := hid XH
          have x1 := carry XH c1
          have xa := carry XH ca
          have f1 : (gro wr X).frozen? ⟨g, 1, none⟩ = false := carryf XH (HF.out 1) hsz
          have fa : (gro wr X).frozen? ⟨g, a, none⟩ = false := carryf XH (HF.out a) hsz
          have HPx := hid (HPr.out.below XH)
          have hszx : wr.heap.size ≤ (gro wr X).heap.size := XH.size
          generalize gro wr X = wx at *
          clear c1 ca X XH
          have hNb : (1 : Int) < (k.N i : Int) := by omega
          have ha1 : ¬ ((a : Int) = 1) := by omega
          have ha1' : ¬ (a = 1) := by omega
          go_wp2
          go_region
          have HPs := hid (HPx.out.swap (j := 1) (j' := a) hi (by omega) hlt hob (by omega))
          simp only [↓reduceIte] at HPs
          have hs1 : swp 1 a c 1 = c a := by unfold swp; rw [if_pos rfl]
          have hsw : (swp 1 a c) = swp 1 a c := rfl
          have q2 : Below lo wx ((wx.setCell ⟨g, 1, none⟩ (.int .i64 (c a))).setCell ⟨g, a, none⟩ (.int .i64 (c 1))).drew := (((Below.refl lo wx).setCell hlog _).setCell hlog _).drew
          have HP3 := hid (HPs.out.below ((Below.refl _ _).drew))
          have q3 : Below lo w ((wx.setCell ⟨g, 1, none⟩ (.int .i64 (c a))).setCell ⟨g, a, none⟩ (.int .i64 (c 1))).drew := (q1.trans ((btr hb HX.out).mono hloW)).trans q2
          clear HPs q2
          obtain ⟨w3, hw3⟩ : ∃ w3, w3 = ((wx.setCell ⟨g, 1, none⟩ (.int .i64 (c a))).setCell ⟨g, a, none⟩ (.int .i64 (c 1))).drew := ⟨_, rfl⟩
          rw [← hw3] at q3 HP3 ⊢
          have hlo3 : lo ≤ w3.heap.size := Nat.le_trans hlo q3.size
          clear hw3 x1 xa f1 fa HX
          have y1 : w3.cell? ⟨g, 1, none⟩ = some (.int .i64 (c a)) := by
            have h2 := (HP3.out.cg' hi (by omega) hCA).2.2.1 1 (by omega)
            simp only [↓reduceIte] at h2
            rw [hs1] at h2
            exact h2
          have hlenp := hlen (c a) HCA2.out HV.out
          have hWt := watch_any lo b i k _ (c a) w3 HP3.out HCA2.out hlenp hlo3
          clear hs1 hsw
          go_wp2_with (go_at_call 54; refine hWt.mono ?_; rintro e w4 ⟨rfl, ⟨v', hP4⟩, hq4⟩)
          go_ret
          refine ⟨⟨true, rfl, .inl ⟨rfl, a, v', a2, hlt, HV.out, ?_⟩⟩, q3.trans hq4⟩
          have he : (fun i' => if i' = i then swp 1 a c else if i' = i then c else s.C i') = (fun i' => if i' = i then swp 1 a c else s.C i') := by
            funext i'
            by_cases e : i' = i <;> simp [e]
          simp only [he] at hP4
          exact hP4
        · rw [hv] at hHs
          have hv' : s.S (vrC (c a)).toNat = -(c a) := by rw [e2]; simpa using hv
          have HV := hid hv'
          clear hv hv' e1 e2 e3 e4 e5 e6 e7 e8 hsc hcells hfr
          go_upto_region 7 with fail
          refine wp_region_grow_lit (by kernel_rfl) (by kernel_rfl) ?_
          repeat (go_big_quiet_step (first | (go_at_call 57; exact grow_call _ (hNt _)) | (go_at_call 61; exact grow_call _ (hHs _))))
          refine wpQuiet_nil ?_
          rintro _ ⟨X, rfl⟩
          clear gc hNt hHs
          go_wp2
          go_roundw
          case rel =>
            refine ⟨a + 1, by omega, by omega, by go_num, btr hb X.h, fun j h1 h2 => ?_⟩
            by_cases e : j = a
            · subst e; exact HV.out
            · exact HE.out j h1 (by omega)
          case measure => simp [intOf]; omega
      · have hke : a = k.N i := by omega
        subst hke
        go_wp2
        go_ret
        exact ⟨⟨false, rfl, .inr ⟨rfl, HE.out, HP2.out.below hb⟩⟩, q1.trans (hb.mono hloW)⟩
end Go.Proofs.Ytjnngijilkdhbaa

namespace Go.Proofs.Ytjnngijilkdhbaa
set_option linter.unusedVariables false
set_option linter.unusedSimpArgs false
open Go.RowKit
theorem nodup_le : ∀ (n : Nat) (l : List Nat), l.Nodup → (∀ i ∈ l, i < n) → l.length ≤ n
  | 0, l, _, h => by
    cases l with
    | nil => exact Nat.le_refl _
    | cons a l => exact absurd (h a (by simp)) (by omega)
  | n + 1, l, hd, h => by
    by_cases hm : n ∈ l
    · have h1 := List.length_erase_of_mem hm
      have h2 := nodup_le n (l.erase n) (hd.erase n) (fun i hi => by
        have h3 := (List.Nodup.mem_erase_iff hd).1 hi
        have := h i h3.2
        omega)
      omega
    · have := nodup_le n l hd (fun i hi => by
        have := h i hi
        by_cases e : i = n
        · subst e; exact absurd hi hm
        · omega)
      omega
/-- the set of literals is that of the trail -/
def SetS (S : Nat → Int) (T : List Int) : Prop := ∀ v, v < 61 → S v = setU T v
theorem SetS.at {S : Nat → Int} {T : List Int} (h : SetS S T) {x : Int} (hx : ofC x 60 = true) : (S (vrC x).toNat = x ↔ atU T x = 1) ∧ (S (vrC x).toNat = -x ↔ atU T x = -1) ∧ (S (vrC x).toNat = 0 ↔ atU T x = 0) := by
  obtain ⟨v, e1, e2, e3, _⟩ := lit_rng hx
  rw [e2, h v (by omega)]
  exact setU_at e1 (ofC_iff.1 hx).1
theorem SetS.push {S : Nat → Int} {T : List Int} (h : SetS S T) {x : Int} {v : Nat} (hv : vrC x = (v : Int)) (hx : x ≠ 0) (h0 : atU T x = 0) : SetS (fun u => if u = v then x else S u) (T ++ [x]) := fun u hu => by
  rw [setU_push hv hx h0]
  simp only
  split
  · rfl
  · exact h u hu
theorem vals_app (T : List Int) (x : Int) : valsI T ++ [.int .i64 x] = valsI (T ++ [x]) := by unfold valsI; rw [List.map_append]; rfl
/-- the state while the clauses that watch the negation of x are looked at -/
def AsS (lo b : Nat) (k : Pq) (L : Lls) (T : List Int) (x : Int) (l : List Nat) (wv : Value) (q : Nat) (W : World) : Prop :=
  ∃ s : Ps, PrM lo b k s W ∧ s.T = T ++ [x] ∧ SetS s.S (T ++ [x]) ∧ Mid k.n L s.C s.Wl s.due T x l q ∧ s.WV (plc (-x)) = wv
theorem own_atU {w : World} {base n j ln lc : Nat} {e : TypeId} {la : Option Addr} {xs : List Value} (h : w.ownsRow base e 1 (.slice la ln lc) n xs) (hj : j < n) : ∃ g, la = some ⟨g, 0, none⟩ ∧ w.cell? ⟨g, j, none⟩ = xs[j]? ∧ g < w.heap.size := by
  have h0 := h
  rcases h.2 with ⟨_, e⟩ | ⟨g, cap, cur, e, hg, hh, _⟩
  · omega
  · rw [e] at h0
    injection e with e1 e2 e3
    exact ⟨g, e1, h0.cellAt j (by omega), (Array.getElem?_eq_some_iff.1 hh).1⟩
set_option maxHeartbeats 8000000 in
set_option maxRecDepth 100000 in
theorem assign_any (lo b : Nat) (k : Pq) (s : Ps) (L : Lls) (x : Int) (w : World) (hP : PrM lo b k s w) (hkL : k.N = L.N) (hn : k.n ≤ 400) (hL : LitL k.n L) (hN : ∀ i, i < k.n → L.N i ≤ 61) (hI : InvB k.n L s.C s.Wl s.T) (hD : InvD k.n L s.C s.due s.T x)
    (hS : SetS s.S s.T) (hx : ofC x 60 = true) (h0 : atU s.T x = 0) (hlen : s.T.length ≤ 61) (hlo : lo ≤ w.heap.size) :
    Calls Try.prog 43 #[.pointer (some ⟨b, 0, none⟩), .int .i64 x] w fun e w' => e = .returned (.tuple #[]) ∧ (∃ s', PrM lo b k s' w' ∧ s'.T = s.T ++ [x] ∧ SetS s'.S s'.T ∧ InvB k.n L s'.C s'.Wl s'.T ∧ InvD k.n L s'.C s'.due s'.T 0) ∧ Below lo w w' := by
  obtain ⟨v, e1, e2, e3, e4, e5, e6, e7, e8⟩ := lit_rng hx
  have hx0 : x ≠ 0 := (ofC_iff.1 hx).1
  have hxn : ofC (-x) 60 = true := by have := ofC_iff.1 hx; exact ofC_iff.2 ⟨by omega, by omega, by omega⟩
  have hM := hid (mid_start hL hI hD hx h0)
  have hSS := hid (hS.push e1 hx0 h0)
  have hpn := (plc_lt hxn).1
  have hl4 : (s.Wl (plc (-x))).length ≤ 400 := Nat.le_trans (nodup_le k.n _ hM.out.nd fun i hi => (hI.wok _ hxn i hi).1) hn
  have hAdd := addU_any b 123 v x (s.S v) w (hP.cs (by omega)) (hP.box.frozen _) ⟨e4, e5⟩ e1 e3
  have HP := hid hP
  have HL := hid hL; have HNN := hid hN; have HN := hid hkL
  clear hI hD hS hL hN hkL
  obtain ⟨i0, hi, hz0, hz1, hz2⟩ := info_parts infoI
  have HI := hid hi; clear hi
  obtain ⟨ta, tc, hta⟩ := own_sliceU hP.tr
  obtain ⟨la, lc, hla⟩ := own_sliceU (hP.wl _ hpn)
  have HTA := hid hta; have HLA := hid hla
  clear hta hla hP
  have hbl : lo ≤ b := HP.out.lob
  go_enter Try.func43, Try.ntmps43
  go_wp2_with fail
  refine hAdd.mono ?_
  rintro e w1 ⟨rfl, w0, hq0, hw1⟩
  have HP1 := hid ((HP.out.below hq0).setS (v := v) (by omega) x)
  rw [← hw1] at HP1
  have q1 : Below lo w w1 := by rw [hw1]; exact (hq0.mono hlo).setCell hbl _
  have hlo1 : lo ≤ w1.heap.size := Nat.le_trans hlo q1.size
  clear hAdd hw1 hq0
  have t1 : w1.cell? ⟨b, 184, none⟩ = some (.slice ta s.T.length tc) := by have h2 := HP1.out.c184; rw [← HTA.out]; exact h2
  have hb1 := cell_lt t1
  have CX := bal (Below.refl w1.heap.size w1) (.cells #[.int .i64 x] 3)
  have HP2 := hid (HP1.out.below CX)
  have hlo2 : lo ≤ (w1.alloc (.cells #[.int .i64 x] 3)).heap.size := Nat.le_trans hlo1 CX.size
  have q2 : Below lo w (w1.alloc (.cells #[.int .i64 x] 3)) := q1.trans (CX.mono hlo1)
  have hO := hid (show (w1.alloc (.cells #[.int .i64 x] 3)).ownsRow lo 3 1 (.slice ta s.T.length tc) s.T.length (valsI s.T) from by have h2 := HP2.out.tr; rw [← HTA.out]; exact h2)
  have hnews := news_one w1 (.int .i64 x) 3
  go_wp2_with ((at_builtin; refine wpList_appendU rfl _ _ 38 rfl lo 3 i0 (.int .i64 0) 1 8 Try.underlying38 HI.out hz0 hz1 hz2 rfl (by decide) (.slice ta s.T.length tc) s.T.length (valsI s.T) rfl hO.out ⟨w1.heap.size, 0, none⟩ 1 1 [.int .i64 x] rfl rfl hnews (fun u hu => by simp at hu; subst hu; rfl) (by unfold maxLen; omega) (by omega) hlo2 ?_; intro v' w5 hown hgrow hfresh; obtain ⟨av', cv', rfl⟩ := own_sliceU hown; obtain ⟨k1, _⟩ := HP2.out.keepW hO.out hgrow; have d0 := k1.cell (i := 184) (by decide); have g0 := k1.frozen 184; clear k1))
  have HP6 := hid (HP2.out.push (v' := .slice av' (s.T.length + 1) cv') (w' := w5) (x := x) (by show World.grownBy _ _ (Value.ownBlock s.TV); rw [HTA.out]; exact hgrow) hown (by show ∀ g, _ → Value.ownBlock s.TV = some g ∨ _; rw [HTA.out]; exact hfresh))
  have q6 : Below lo w (w5.setCell ⟨b, 184, none⟩ (.slice av' (s.T.length + 1) cv')) := (q2.grown hgrow hlo2 (fun r hr => (hO.out.lt r hr).1)).setCell hbl _
  clear hown hgrow hfresh hnews CX d0 g0 t1 hO
  obtain ⟨w6, hw6⟩ : ∃ w6, w6 = w5.setCell ⟨b, 184, none⟩ (.slice av' (s.T.length + 1) cv') := ⟨_, rfl⟩
  rw [← hw6] at HP6 q6 ⊢
  have hlo6 : lo ≤ w6.heap.size := Nat.le_trans hlo q6.size
  clear hw6
  have H6 : Hid (AsS lo b k L s.T x (s.Wl (plc (-x))) (s.WV (plc (-x))) 0 w6) := hid ⟨_, HP6.out, rfl, hSS.out, hM.out, rfl⟩
  have hNt := fun X : Gro w6 => (not_any x (gro w6 X) ⟨e4, e5⟩).mono fun e w' h => (⟨h.1, h.2 ▸ Below.refl _ _⟩ : e = .returned (.int .i64 (-x)) ∧ Below (gro w6 X).heap.size (gro w6 X) w')
  have hPl := fun X : Gro w6 => (place_any (-x) (gro w6 X) hxn).mono fun e w' h => (⟨h.1, h.2 ▸ Below.refl _ _⟩ : e = .returned (.int .i64 (plc (-x) : Int)) ∧ Below (gro w6 X).heap.size (gro w6 X) w')
  have hcw := HP6.out.cw hpn
  replace hcw : w6.cell? ⟨b, 1 + plc (-x), none⟩ = some (.slice la (s.Wl (plc (-x))).length lc) := by rw [← HLA.out]; exact hcw
  rw [HLA.out] at H6
  have HPL := hid (show plc (-x) = plc (-x) from rfl)
  obtain ⟨p, hp⟩ : ∃ p, p = plc (-x) := ⟨_, rfl⟩
  have HPE := hid hp
  rw [← hp] at hcw hPl H6 hpn hl4
  have hsb := cell_lt hcw
  have hpI : (p : Int) < 121 := by omega
  generalize hll : s.Wl p = l at *
  have hlI : (l.length : Int) ≤ 400 := by omega
  clear hp hll HPL hSS hM HP6 HP2 HP1 HP HTA HLA
  have gc := @gro_cell w6
  refine wp_region_grow_lit (by kernel_rfl) (by kernel_rfl) ?_
  repeat (go_big_quiet_step (first | (go_at_call 57; exact grow_call _ (hNt _)) | (go_at_call 58; exact grow_call _ (hPl _))))
  refine wpQuiet_nil ?_
  rintro _ ⟨X, rfl⟩
  clear gc hNt hPl
  have XH : Below w6.heap.size w6 (gro w6 X) := X.h
  obtain ⟨s6, hs6⟩ := H6.out
  have H7 : Hid (AsS lo b k L s.T x l (.slice la l.length lc) 0 (gro w6 X)) := hid ⟨s6, hs6.1.below XH, hs6.2⟩
  have q7 : Below lo w (gro w6 X) := q6.trans (XH.mono hlo6)
  clear hs6 H6 hcw XH q6 hlo6 q2 q1
  generalize gro w6 X = w7 at *
  go_wp2
  go_loopw [30] (fun v wr => ∃ q : Nat, q ≤ l.length ∧ v = .int .i64 (q : Int) ∧ AsS lo b k L s.T x l (.slice la l.length lc) q wr ∧ Below lo w wr) (fun v _ => l.length - (intOf v).toNat)
  case atStart => exact ⟨0, Nat.zero_le _, rfl, H7.out, q7⟩
  case round =>
    clear H7 q7
    obtain ⟨q, hq, rfl, ⟨s1, hP1, hT1, hS1, hMd, hWV⟩, hb⟩ := hrel
    by_cases hlt : q < l.length
    · obtain ⟨i, hqi⟩ : ∃ i, l[q]? = some i := ⟨l[q], List.getElem?_eq_getElem hlt⟩
      obtain ⟨hi, hN2, _⟩ := mid_at HL.out hMd hqi hx
      have hlw : lo ≤ wr.heap.size := Nat.le_trans hlo hb.size
      have hOl := hP1.wl p hpn
      rw [HPE.out, hWV, hMd.hl] at hOl
      obtain ⟨gl, rfl, cl, hgl⟩ := own_atU hOl hlt
      rw [valsN_at hqi] at cl
      have hqI : (q : Int) < (l.length : Int) := by omega
      have hmem : ∀ j, j < k.N i → ofC (s1.C i j) 60 = true := fun j hj => mem_lit HL.out hMd.base hi (by rw [← HN.out]; exact hj)
      have hle : ∀ y, ofC y 60 = true → s1.S (vrC y).toNat ≠ -y → (s1.Wl (plc y)).length ≤ 1000000 := fun y hy hne => by
        have h2 := nodup_le k.n _ (hMd.base.nod y hy (fun e => hne ((SetS.at hS1 hy).2.1.2 e))) (fun j hj => (hMd.base.wok y hy j hj).1)
        omega
      have hN60 : k.N i ≤ 1000 := by rw [HN.out]; have := HNN.out i hi; omega
      have hWA := fun W (h : Below wr.heap.size wr W) => wanother_any lo b i k s1 (-x) W (hP1.below h) hi (by rw [HN.out]; exact hN2) hN60 hmem hle (Nat.le_trans hlw h.size)
      have c122 := hP1.c122
      have hiI : (i : Int) < (k.n : Int) := by omega
      have HQI := hid hqi; have HP1 := hid hP1; have HS1 := hid hS1; have HMd := hid hMd; have HWV := hid hWV; have HT1 := hid hT1
      have hNx := fun W => not_any x W ⟨e4, e5⟩
      clear hqi hP1 hS1 hMd hWV hT1 hmem hle hOl
      go_upto_region 5 with fail
      have qd := (Below.refl wr.heap.size wr).drew
      refine region_planC (fun W => W.cell? ⟨b, 122, none⟩ = some (.slice (some ⟨k.gd, 0, none⟩) k.n k.n)) (.takes [0, 1, 2, 3, 4, 5, 6, 7] (.make 8 (.make 9 (.takes [10] .fin)))) 11 rfl (by kernel_rfl) c122 ?_
      refine plan_takes ?_; simp only [pickOps, List.getElem?_cons_zero, List.getElem?_cons_succ]
      refine quiet_doC rfl (.pointer (some ⟨b, 0, none⟩)) (fun W hW => by simp [execOp, go_sem]) ?_
      refine quiet_doC rfl (.pointer (some ⟨b, 0, none⟩)) (fun W hW => by simp [execOp, go_sem]) ?_
      refine quiet_doC rfl (.pointer (some ⟨b, 122, none⟩)) (fun W hW => by simp [execOp, go_sem]) ?_
      refine quiet_doC rfl (.slice (some ⟨k.gd, 0, none⟩) k.n k.n) (fun W hW => by simp [execOp, go_sem, hW]) ?_
      refine quiet_doC rfl (.int .i64 (i : Int)) (fun W hW => by simp [execOp, go_sem]) ?_
      refine quiet_doC rfl (.pointer (some ⟨b, 0, none⟩)) (fun W hW => by simp [execOp, go_sem]) ?_
      refine quiet_doC rfl (.int .i64 (i : Int)) (fun W hW => by simp [execOp, go_sem]) ?_
      refine quiet_doC rfl (.int .i64 x) (fun W hW => by simp [execOp, go_sem]) ?_
      refine wpQuiet_nil ?_
      simp only [Act.put, List.setIfInBounds_toArray, List.set_cons_succ, List.set_cons_zero]
      refine planC_call rfl rfl 57 #[.int .i64 x] (by kernel_rfl) ((hNx _).mono ?_)
      rintro e _ ⟨rfl, rfl⟩
      refine ⟨_, rfl, c122, ?_⟩
      simp only [Act.put, List.setIfInBounds_toArray, List.set_cons_succ, List.set_cons_zero]
      refine planC_call rfl rfl 59 #[.pointer (some ⟨b, 0, none⟩), .int .i64 (i : Int), .int .i64 (-x)] (by kernel_rfl) ((hWA _ qd).mono ?_)
      rintro e w9 ⟨⟨r, rfl, hWa⟩, hq9⟩
      have hD9 : ∃ s9, PrM lo b k s9 w9 := by
        rcases hWa with ⟨_, a, v', _, _, _, hp⟩ | ⟨_, _, hp⟩
        · exact ⟨_, hp⟩
        · exact ⟨_, hp⟩
      obtain ⟨s9, hP9⟩ := hD9
      refine ⟨_, rfl, hP9.c122, ?_⟩
      have d9 := hP9.cd hi
      have f9 := hP9.du.frozen i
      have hb9 : Below lo w w9 := hb.trans (((qd.mono hlw)).trans hq9)
      have hlod := hP9.lod
      have HWa := hid hWa
      clear hWa hP9
      simp only [Act.put, List.setIfInBounds_toArray, List.set_cons_succ, List.set_cons_zero]
      refine plan_takes ?_; simp only [pickOps, List.getElem?_cons_zero, List.getElem?_cons_succ]
      refine quiet_doC rfl (.bool (!r)) (fun W hW => by simp [execOp, go_sem]) ?_
      refine wpQuiet_nil ?_
      simp only [Act.put, List.setIfInBounds_toArray, List.set_cons_succ, List.set_cons_zero]
      refine plan_fin ?_
      simp only [List.drop_succ_cons, List.drop_zero, Act.put, List.setIfInBounds_toArray, List.set_cons_succ, List.set_cons_zero]
      go_wp2
      go_roundw
      case rel =>
        refine ⟨q + 1, by omega, by go_num, ?_, hb9.setCell hlod _⟩
        rcases HWa.out with ⟨rfl, a, v', a2, aN, hne, hp⟩ | ⟨rfl, hall, hp⟩
        · have hof : ∀ j, j < L.N i → ofC (s1.C i j) 60 = true := fun j hj => mem_lit HL.out HMd.out.base hi hj
          have hcm : ∀ j, j < L.N i → ofC (sw01 (-x) (s1.C i) j) 60 = true := fun j hj => by
            obtain ⟨j', hj', e'⟩ := (sw01_mem (N := L.N i) (c := s1.C i) (g := -x) hN2 _).1 ⟨j, hj, rfl⟩
            rw [← e']
            exact hof _ hj'
          have aL : a < L.N i := by rw [← HN.out]; exact aN
          have hca := hcm a aL
          have hfa : atU (s.T ++ [x]) (sw01 (-x) (s1.C i) a) ≠ -1 := fun e => hne ((SetS.at HS1.out hca).2.1.2 e)
          have hM2 := mid_found HL.out HMd.out HQI.out hx h0 a2 aL hfa
          have hpx : plc (-x) ≠ plc (sw01 (-x) (s1.C i) a) := fun e => hfa (by rw [← plc_inj hxn hca e, atU_push h0 hx0, if_neg (by omega), if_pos rfl])
          refine ⟨_, hp.setD i false, HT1.out, HS1.out, ?_, ?_⟩
          · have he : (fun q => if q = plc (sw01 (-x) (s1.C i) a) then s1.Wl (plc (sw01 (-x) (s1.C i) a)) ++ [i] else s1.Wl q) = (fun p => if p = plc (sw01 (-x) (s1.C i) a) then s1.Wl p ++ [i] else s1.Wl p) := by
              funext q'
              by_cases e' : q' = plc (sw01 (-x) (s1.C i) a)
              · rw [if_pos e', if_pos e', e']
              · rw [if_neg e', if_neg e']
            show Mid k.n L _ (fun q => if q = plc (sw01 (-x) (s1.C i) a) then s1.Wl (plc (sw01 (-x) (s1.C i) a)) ++ [i] else s1.Wl q) _ s.T x l (q + 1)
            rw [he]
            exact hM2
          · show (if plc (-x) = plc (sw01 (-x) (s1.C i) a) then v' else s1.WV (plc (-x))) = _
            rw [if_neg hpx]
            exact HWV.out
        · have hM2 := mid_due HL.out HMd.out HQI.out hx h0 (fun j j2 jN => by
            have hof : ∀ j, j < L.N i → ofC (s1.C i j) 60 = true := fun j hj => mem_lit HL.out HMd.out.base hi hj
            have hcj : ofC (sw01 (-x) (s1.C i) j) 60 = true := by
              obtain ⟨j', hj', e'⟩ := (sw01_mem (N := L.N i) (c := s1.C i) (g := -x) hN2 _).1 ⟨j, jN, rfl⟩
              rw [← e']
              exact hof _ hj'
            exact (SetS.at HS1.out hcj).2.1.1 (hall j j2 (by rw [HN.out]; exact jN)))
          exact ⟨_, hp.setD i true, HT1.out, HS1.out, hM2, HWV.out⟩
      case measure => simp [intOf]; omega
    · have hke : q = l.length := by omega
      subst hke
      obtain ⟨hB, hD⟩ := mid_end hMd
      go_wp2
      go_end0
      exact ⟨rfl, ⟨s1, hP1, hT1, by rw [hT1]; exact hS1, by rw [hT1]; exact hB, by rw [hT1]; exact hD⟩, hb⟩
end Go.Proofs.Ytjnngijilkdhbaa

namespace Go.Proofs.Ytjnngijilkdhbaa
set_option linter.unusedVariables false
set_option linter.unusedSimpArgs false
open Go.RowKit
theorem valsC_push (N : Nat) (c : Nat → Int) (x : Int) : valsC (N + 1) (fun t => if t = N then x else c t) = valsC N c ++ [.int .i64 x] := by
  unfold valsC
  rw [List.range_succ, List.map_append]
  congr 1
  · apply List.map_congr_left
    intro t ht
    have := List.mem_range.1 ht
    simp only
    rw [if_neg (by omega)]
  · simp
section
variable {lo b : Nat} {k : Pq} {s : Ps} {w w' : World}
theorem PrM.pushC (h : PrM lo b k s w) {a : Option Addr} {c i : Nat} {x : Int} (hi : i < k.n) (hg : w.grownBy w' (k.cv i).ownBlock)
    (ho : w'.ownsRow lo 52 1 (.slice a (k.N i + 1) c) (k.N i + 1) (valsC (k.N i) (s.C i) ++ [.int .i64 x])) (hf : ∀ g, (Value.slice a (k.N i + 1) c).ownBlock = some g → (k.cv i).ownBlock = some g ∨ w.heap.size ≤ g) :
    PrM lo b {k with N := fun j => if j = i then k.N i + 1 else k.N j, CA := fun j => if j = i then a else k.CA j, CC := fun j => if j = i then c else k.CC j} {s with C := fun j => if j = i then (fun t => if t = k.N i then x else s.C i t) else s.C j} (w'.setCell ⟨k.gc, i, none⟩ (.slice a (k.N i + 1) c)) := by
  have hv := h.cl i hi
  have hr : ∀ {g : Nat} {t : TypeId} {m : Nat} {f : Nat → Value}, w.rowIs g t m f → 52 ≠ t → w'.rowIs g t m f := fun {g t m f} hx ht =>
    hx.of_block (hg.block g hx.lt fun e => ht (own_ty hv hx e.symm))
  have hint : ∀ {v : Value} {m : Nat} {xs : List Value}, w.ownsRow lo 3 1 v m xs → w'.ownsRow lo 3 1 v m xs := fun {v m xs} hx => hx.kept hg (by
    cases e : v.ownBlock with
    | none => exact .inl rfl
    | some g => exact .inr fun e2 => absurd (own_ty2 hx hv e e2.symm) (by decide))
  have hcl : ∀ j, j < k.n → j ≠ i → w'.ownsRow lo 52 1 (k.cv j) (k.N j) (valsC (k.N j) (s.C j)) := fun j hj hne => (h.cl j hj).kept hg (by
    cases e : (k.cv j).ownBlock with
    | none => exact .inl rfl
    | some g => exact .inr fun e2 => h.cne j i g hj hi hne e e2.symm)
  have k1 := hr h.box (by decide)
  have k2 := hr h.row (by decide)
  have k3 := hr h.du (by decide)
  obtain ⟨n1, n2, n3⟩ := h.box_ne
  have hs : ∀ {e : TypeId} {v : Value} {m : Nat} {xs : List Value}, w'.ownsRow lo e 1 v m xs → e ≠ 71 → (w'.setCell ⟨k.gc, i, none⟩ (.slice a (k.N i + 1) c)).ownsRow lo e 1 v m xs := fun {e v m xs} hx he =>
    hx.kept (grow_set w' k.gc i _) (.inr fun e' => he (own_ty hx k2 e'))
  refine ⟨h.lob, h.loc, h.lod, k1.setOther n1 _, (k2.set i (.slice a (k.N i + 1) c)).congr fun j hj => ?_, k3.setOther (Ne.symm n3) _, fun j hj => ?_, fun j j' g hj hj' hne e e2 => ?_, fun p hp => hs (hint (h.wl p hp)) (by decide), h.wne, hs (hint h.tr) (by decide), h.tne⟩
  · unfold Pq.cv
    simp only
    by_cases e : j = i
    · rw [if_pos e, if_pos e, if_pos e, if_pos e]
    · rw [if_neg e, if_neg e, if_neg e, if_neg e]
  · unfold Pq.cv
    simp only
    by_cases e : j = i
    · rw [if_pos e, if_pos e, if_pos e, if_pos e, valsC_push]
      exact hs ho (by decide)
    · rw [if_neg e, if_neg e, if_neg e, if_neg e]
      exact hs (hcl j hj e) (by decide)
  · have key : ∀ j, j < k.n → j ≠ i → ∀ g, (k.cv j).ownBlock = some g → (Value.slice a (k.N i + 1) c).ownBlock ≠ some g := fun j hj hne g e e2 => by
      rcases hf g e2 with e3 | e3
      · exact h.cne j i g hj hi hne e e3
      · have := ((h.cl j hj).lt g e).2; omega
    unfold Pq.cv at e e2
    simp only at e e2
    by_cases ej : j = i
    · rw [if_pos ej, if_pos ej, if_pos ej] at e
      rw [if_neg (by omega), if_neg (by omega), if_neg (by omega)] at e2
      exact key j' hj' (by omega) g e2 e
    · rw [if_neg ej, if_neg ej, if_neg ej] at e
      by_cases ej' : j' = i
      · rw [if_pos ej', if_pos ej', if_pos ej'] at e2
        exact key j hj ej g e e2
      · rw [if_neg ej', if_neg ej', if_neg ej'] at e2
        exact h.cne j j' g hj hj' hne e e2
theorem PrM.congrN (h : PrM lo b k s w) {N' : Nat → Nat} (hN : ∀ i, i < k.n → k.N i = N' i) : PrM lo b {k with N := N'} s w := by
  have hcv : ∀ i, i < k.n → k.cv i = ({k with N := N'} : Pq).cv i := fun i hi => by unfold Pq.cv; simp only; rw [hN i hi]
  exact ⟨h.lob, h.loc, h.lod, h.box, h.row.congr hcv, h.du, fun i hi => by
    show w.ownsRow lo 52 1 (({k with N := N'} : Pq).cv i) (N' i) (valsC (N' i) (s.C i))
    rw [← hcv i hi, ← hN i hi]
    exact h.cl i hi, fun i j g hi hj hne => by rw [← hcv i hi, ← hcv j hj]; exact h.cne i j g hi hj hne, h.wl, h.wne, h.tr, h.tne⟩
end
/-- the cells of a propagation at the start -/
def arrP (v0 v2 : Value) : Array Value := (v0 :: (List.replicate 121 (Value.slice none 0 0) ++ (v2 :: (List.replicate 61 (Value.int .i64 0) ++ [Value.slice none 0 0])))).toArray
def ps0 : Ps := ⟨fun _ _ => 0, fun _ => .slice none 0 0, fun _ => [], fun _ => false, fun _ => 0, .slice none 0 0, []⟩
def pq0 (gc gd n : Nat) : Pq := ⟨gc, gd, n, fun _ => 0, fun _ => none, fun _ => 0⟩
theorem arrP_at (gc gd n : Nat) : ∀ i, i < 185 → (arrP (.slice (some ⟨gc, 0, none⟩) n n) (.slice (some ⟨gd, 0, none⟩) n n))[i]? = some (prF (pq0 gc gd n) ps0 i) := by
  intro i hi
  unfold arrP prF pq0 ps0
  simp only [List.getElem?_toArray]
  by_cases e0 : i = 0
  · subst e0; rfl
  · obtain ⟨j, rfl⟩ : ∃ j, i = j + 1 := ⟨i - 1, by omega⟩
    rw [if_neg e0, List.getElem?_cons_succ]
    by_cases e1 : j < 121
    · rw [List.getElem?_append_left (by rw [List.length_replicate]; exact e1), List.getElem?_replicate, if_pos e1, if_pos (by omega)]
    · rw [List.getElem?_append_right (by rw [List.length_replicate]; omega), List.length_replicate, if_neg (by omega)]
      by_cases e2 : j = 121
      · subst e2; rfl
      · obtain ⟨t, rfl⟩ : ∃ t, j = t + 122 := ⟨j - 122, by omega⟩
        rw [show t + 122 - 121 = t + 1 by omega, List.getElem?_cons_succ, if_neg (by omega)]
        by_cases e3 : t < 61
        · rw [List.getElem?_append_left (by rw [List.length_replicate]; exact e3), List.getElem?_replicate, if_pos e3, if_pos (by omega)]
        · rw [List.getElem?_append_right (by rw [List.length_replicate]; omega), List.length_replicate, if_neg (by omega)]
          have : t = 61 := by omega
          subst this
          rfl
theorem arrP_len (v0 v2 : Value) : (arrP v0 v2).size = 185 := by unfold arrP; rw [List.size_toArray, List.length_cons, List.length_append, List.length_replicate, List.length_cons, List.length_append, List.length_replicate]; rfl
/-- the propagation at the start -/
theorem prm_new (lo gc gd n : Nat) (w : World) (h1 : lo ≤ gc) (h2 : lo ≤ gd) (h3 : lo ≤ w.heap.size) (hr : w.rowIs gc 71 n (fun _ => .slice none 0 0)) (hd : w.rowIs gd 4 n (fun _ => .bool false)) :
    PrM lo w.heap.size (pq0 gc gd n) ps0 (w.alloc (.cells (arrP (.slice (some ⟨gc, 0, none⟩) n n) (.slice (some ⟨gd, 0, none⟩) n n)) 60)) := by
  refine ⟨h3, h1, h2, ⟨_, Deep.blk_alloc_new _ _, arrP_len _ _, arrP_at gc gd n⟩, hr.alloc _, hd.alloc _, fun i hi => World.ownsRow_nil _ _ _ _, fun i j g hi hj hne e => ?_, fun p hp => World.ownsRow_nil _ _ _ _, fun p q g hp hq hne e => ?_, World.ownsRow_nil _ _ _ _, fun p g hp e => ?_⟩
  · simp [Pq.cv, pq0, Value.ownBlock] at e
  · simp [ps0, Value.ownBlock] at e
  · simp [ps0, Value.ownBlock] at e
end Go.Proofs.Ytjnngijilkdhbaa

namespace Go.Proofs.Ytjnngijilkdhbaa
set_option linter.unusedVariables false
set_option linter.unusedSimpArgs false
open Go.RowKit
def NpI (L : Lls) (j n : Nat) (s : Ps) : Prop :=
  (∀ i, i < j → ∀ t, t < L.N i → s.C i t = L.Z i t) ∧ s.S = (fun _ => 0) ∧ s.T = [] ∧ (∀ i, i < j → 2 ≤ L.N i → i ∈ s.Wl (plc (L.Z i 0)) ∧ i ∈ s.Wl (plc (L.Z i 1))) ∧
  (∀ x, ofC x 60 = true → ∀ i, i ∈ s.Wl (plc x) → i < j ∧ 2 ≤ L.N i ∧ (L.Z i 0 = x ∨ L.Z i 1 = x)) ∧ (∀ x, ofC x 60 = true → (s.Wl (plc x)).Nodup) ∧ ∀ i, i < n → s.due i = decide (i < j ∧ L.N i < 2)
def NpN (L : Lls) (j t : Nat) : Nat → Nat := fun i => if i < j then L.N i else if i = j then t else 0
def NpS (lo b n : Nat) (L : Lls) (j t : Nat) (W : World) : Prop :=
  ∃ k s, PrM lo b k s W ∧ k.n = n ∧ k.N = NpN L j t ∧ NpI L j n s ∧ ∀ t', t' < t → s.C j t' = L.Z j t'
theorem NpI.nil (L : Lls) (n : Nat) : NpI L 0 n ps0 :=
  ⟨fun i hi => absurd hi (by omega), rfl, rfl, fun i hi => absurd hi (by omega), fun x _ i hi => absurd hi (by simp [ps0]), fun x _ => by simp [ps0], fun i _ => by simp [ps0]⟩
theorem NpI.short {L : Lls} {j n : Nat} {s : Ps} (h : NpI L j n s) (hj : j < n) (hC : ∀ t, t < L.N j → s.C j t = L.Z j t) (h2 : L.N j < 2) : NpI L (j + 1) n {s with due := fun i => if i = j then true else s.due i} := by
  obtain ⟨a1, a2, a3, a4, a5, a6, a7⟩ := h
  refine ⟨fun i hi t ht => ?_, a2, a3, fun i hi h3 => ?_, fun x hx i hi => ?_, a6, fun i hi => ?_⟩
  · by_cases e : i = j
    · subst e; exact hC t ht
    · exact a1 i (by omega) t ht
  · by_cases e : i = j
    · subst e; omega
    · exact a4 i (by omega) h3
  · obtain ⟨b1, b2⟩ := a5 x hx i hi
    exact ⟨by omega, b2⟩
  · simp only
    by_cases e : i = j
    · subst e; rw [if_pos rfl]; symm; exact decide_eq_true ⟨by omega, h2⟩
    · rw [if_neg e, a7 i hi]
      congr 1
      exact propext ⟨fun h => ⟨by omega, h.2⟩, fun h => ⟨by omega, h.2⟩⟩
theorem NpI.long {L : Lls} {j n : Nat} {s : Ps} (h : NpI L j n s) (hj : j < n) (hC : ∀ t, t < L.N j → s.C j t = L.Z j t) (h2 : 2 ≤ L.N j) (hne : L.Z j 0 ≠ L.Z j 1) (h0 : ofC (L.Z j 0) 60 = true) (h1 : ofC (L.Z j 1) 60 = true) (v v' : Value) :
    NpI L (j + 1) n {s with WV := fun q => if q = plc (L.Z j 1) then v' else (if q = plc (L.Z j 0) then v else s.WV q), Wl := fun q => if q = plc (L.Z j 1) then (if plc (L.Z j 1) = plc (L.Z j 0) then s.Wl (plc (L.Z j 0)) ++ [j] else s.Wl (plc (L.Z j 1))) ++ [j] else (if q = plc (L.Z j 0) then s.Wl (plc (L.Z j 0)) ++ [j] else s.Wl q)} := by
  obtain ⟨a1, a2, a3, a4, a5, a6, a7⟩ := h
  have hpp : plc (L.Z j 1) ≠ plc (L.Z j 0) := fun e => hne (plc_inj h0 h1 e.symm)
  have hnot : ∀ x, ofC x 60 = true → j ∉ s.Wl (plc x) := fun x hx hi => by have := (a5 x hx j hi).1; omega
  refine ⟨fun i hi t ht => ?_, a2, a3, fun i hi h3 => ?_, fun x hx i hi => ?_, fun x hx => ?_, fun i hi => ?_⟩
  · by_cases e : i = j
    · subst e; exact hC t ht
    · exact a1 i (by omega) t ht
  · simp only
    rw [if_neg hpp]
    have grow : ∀ p i, i ∈ s.Wl p → i ∈ (if p = plc (L.Z j 1) then s.Wl (plc (L.Z j 1)) ++ [j] else if p = plc (L.Z j 0) then s.Wl (plc (L.Z j 0)) ++ [j] else s.Wl p) := fun p i hm => by
      split
      · rename_i e; subst e; exact List.mem_append_left _ hm
      · split
        · rename_i e; subst e; exact List.mem_append_left _ hm
        · exact hm
    by_cases e : i = j
    · subst e
      refine ⟨?_, ?_⟩
      · rw [if_neg (Ne.symm hpp), if_pos rfl]; exact List.mem_append_right _ (List.mem_singleton.2 rfl)
      · rw [if_pos rfl]; exact List.mem_append_right _ (List.mem_singleton.2 rfl)
    · obtain ⟨b1, b2⟩ := a4 i (by omega) h3
      exact ⟨grow _ _ b1, grow _ _ b2⟩
  · simp only at hi
    rw [if_neg hpp] at hi
    split at hi
    · rename_i e
      rcases List.mem_append.1 hi with hi | hi
      · rw [← e] at hi
        obtain ⟨b1, b2⟩ := a5 x hx i hi
        exact ⟨by omega, b2⟩
      · obtain rfl := List.mem_singleton.1 hi
        exact ⟨by omega, h2, .inr (plc_inj h1 hx e.symm)⟩
    · split at hi
      · rename_i e
        rcases List.mem_append.1 hi with hi | hi
        · rw [← e] at hi
          obtain ⟨b1, b2⟩ := a5 x hx i hi
          exact ⟨by omega, b2⟩
        · obtain rfl := List.mem_singleton.1 hi
          exact ⟨by omega, h2, .inl (plc_inj h0 hx e.symm)⟩
      · obtain ⟨b1, b2⟩ := a5 x hx i hi
        exact ⟨by omega, b2⟩
  · simp only
    rw [if_neg hpp]
    have one : ∀ y, ofC y 60 = true → (s.Wl (plc y) ++ [j]).Nodup := fun y hy => by
      rw [List.nodup_append]
      refine ⟨a6 y hy, List.nodup_cons.2 ⟨List.not_mem_nil, List.nodup_nil⟩, fun a ha b hb => ?_⟩
      obtain rfl := List.mem_singleton.1 hb
      rintro rfl
      exact hnot y hy ha
    split
    · exact one _ h1
    · split
      · exact one _ h0
      · exact a6 x hx
  · simp only
    rw [a7 i hi]
    congr 1
    exact propext ⟨fun h => ⟨by omega, h.2⟩, fun h => by
      refine ⟨?_, h.2⟩
      by_cases e : i = j
      · subst e; omega
      · omega⟩
theorem NpI.fin {L : Lls} {n : Nat} {s : Ps} (h : NpI L n n s) (hinj : ∀ i, i < n → InjC (L.N i) (L.Z i)) : InvB n L s.C s.Wl s.T ∧ InvD n L s.C s.due s.T 0 ∧ SetS s.S s.T ∧ s.T = [] := by
  obtain ⟨a1, a2, a3, a4, a5, a6, a7⟩ := h
  rw [a3]
  refine ⟨⟨fun i hi x => ?_, fun i hi j k hj hk e => ?_, fun i hi h2 => ?_, fun x hx i hi => ?_, fun x hx _ => a6 x hx⟩, fun i hi => ?_, fun v hv => by rw [a2]; rfl, rfl⟩
  · exact ⟨fun ⟨k, hk, e⟩ => ⟨k, hk, by rw [← a1 i hi k hk]; exact e⟩, fun ⟨k, hk, e⟩ => ⟨k, hk, by rw [a1 i hi k hk]; exact e⟩⟩
  · rw [a1 i hi j hj, a1 i hi k hk] at e
    exact hinj i hi j k hj hk e
  · rw [a1 i hi 0 (by omega), a1 i hi 1 (by omega)]
    exact a4 i hi h2
  · obtain ⟨b1, b2, b3⟩ := a5 x hx i hi
    refine ⟨b1, b2, .inr ?_⟩
    rw [a1 i b1 0 (by omega), a1 i b1 1 (by omega)]
    exact b3
  · unfold Dd
    rw [a7 i hi]
    by_cases e : L.N i < 2
    · rw [if_pos (decide_eq_true ⟨hi, e⟩)]
      exact fun k k1 k2 => by omega
    · rw [if_neg (by simp; omega)]
      exact .inr ⟨by omega, by show (0 : Int) ≠ -1; decide, by show (0 : Int) ≠ -1; decide⟩
theorem infoMk : (Try.prog.info? 52).map (fun i => (i.zero, i.size, i.bytes)) = some (some (.int .i64 0), 1, 8) := by kernel_rfl
theorem infoMks : (Try.prog.info? 71).map (fun i => (i.zero, i.size, i.bytes)) = some (some (.slice none 0 0), 1, 24) := by kernel_rfl

theorem made_exec {P : Program} {o : Oper} {a : Act} {t : TypeId} {x y : Operand} {n : Nat} {v : Value} {w w' : World} (ho : o.op = .makeSlice t x y) (hx : a.eval x = .int .i64 (n : Int)) (hy : a.eval y = .int .i64 (n : Int)) (h : (Instr.makeSlice t (.int .i64 (n : Int)) (.int .i64 (n : Int))).run P w = .ok v w') : (execOp a.eval o).run P w = .ok (.value v) w' := by
  unfold execOp
  simp only [ho, hx, hy, Sem.run_bind, h, Result.andThen_ok, Sem.run_pure]
/-- worlds in which the clause's slice still stands -/
def NpC (w0 : World) (b j gc n : Nat) (v : Value) (W : World) : Prop := Below w0.heap.size w0 W ∧ W.cell? ⟨b, 0, none⟩ = some (.slice (some ⟨gc, 0, none⟩) n n) ∧ W.cell? ⟨gc, j, none⟩ = some v
/-- what newPropagation lays out: at b, in memory from lo up -/
def NewPr (lo : Nat) (n : Nat) (L : Lls) (e : Ending) (w' : World) : Prop :=
  ∃ b k s, e = .returned (.pointer (some ⟨b, 0, none⟩)) ∧ PrM lo b k s w' ∧ k.n = n ∧ k.N = L.N ∧ InvB n L s.C s.Wl s.T ∧ InvD n L s.C s.due s.T 0 ∧ SetS s.S s.T ∧ s.T = []
set_option maxHeartbeats 8000000 in
set_option maxRecDepth 100000 in
theorem newprop_any (A : Option Addr) (n c : Nat) (L : Lls) (m : Int) (w : World) (hn : n ≤ 400) (hA : IntSS w A n L) (hL : LitL n L) (hN : ∀ i, i < n → L.N i ≤ 61) (hinj : ∀ i, i < n → InjC (L.N i) (L.Z i)) :
    Calls Try.prog 40 #[.agg #[.int .i64 m, .slice A n c]] w fun e w' => NewPr w.heap.size n L e w' ∧ Below w.heap.size w w' := by
  have q0 := bal (Below.refl w.heap.size w) (.cells #[.int .i64 m, .slice A n c] 31)
  obtain ⟨c0, c1⟩ := pair_new w (.int .i64 m) (.slice A n c) 31
  go_enter Try.func40, Try.ntmps40
  go_upto_region 1 with fail
  generalize w.alloc (.cells #[.int .i64 m, .slice A n c] 31) = w1 at *
  have hlo1 : w.heap.size ≤ w1.heap.size := q0.size
  go_cut [3] (fun sp wx => ∃ b gc gd, sp = .pointer (some ⟨b, 0, none⟩) ∧ PrM w.heap.size b (pq0 gc gd n) ps0 wx ∧ Below w.heap.size w wx ∧ wx.cell? ⟨w.heap.size, 1, none⟩ = some (.slice A n c))
  case first =>
    have qd := (Below.refl w1.heap.size w1).drew
    refine region_planC (fun W => Below w.heap.size w W ∧ W.cell? ⟨w.heap.size, 1, none⟩ = some (.slice A n c)) (.takes [0, 1, 2, 4, 5, 6] (.fork 3 7 (.make 7 .fin) (.make 3 .fin))) 8 rfl (by kernel_rfl) ⟨btr q0 qd, carry qd c1⟩ ?_
    have hW1 := (show Below w.heap.size w w1.drew ∧ w1.drew.cell? ⟨w.heap.size, 1, none⟩ = some (.slice A n c) from ⟨btr q0 qd, carry qd c1⟩)
    have hlx : w.heap.size ≤ w1.drew.heap.size := Nat.le_trans hlo1 qd.size
    generalize w1.drew = x1 at *
    clear qd
    refine plan_takes ?_; simp only [pickOps, List.getElem?_cons_zero, List.getElem?_cons_succ]
    refine quiet_doC rfl (.pointer (some ⟨w.heap.size, 1, none⟩)) (fun W hW => by simp [execOp, go_sem]) ?_
    refine quiet_doC rfl (.slice A n c) (fun W hW => by simp [execOp, go_sem, hW.2]) ?_
    refine quiet_doC rfl (.int .i64 (n : Int)) (fun W hW => by simp [execOp, go_sem]) ?_
    refine quiet_doC rfl (.pointer (some ⟨w.heap.size, 1, none⟩)) (fun W hW => by simp [execOp, go_sem]) ?_
    refine quiet_doC rfl (.slice A n c) (fun W hW => by simp [execOp, go_sem, hW.2]) ?_
    refine quiet_doC rfl (.int .i64 (n : Int)) (fun W hW => by simp [execOp, go_sem]) ?_
    refine wpQuiet_nil ?_
    simp only [Act.put, List.setIfInBounds_toArray, List.set_cons_succ, List.set_cons_zero]
    refine plan_fork ?_ ?_
    · skip
      have CX := bal (Below.refl x1.heap.size x1) (.cells (madeCells #[(.slice none 0 0)] n) 71)
      have hW2 := (show Below w.heap.size w (x1.alloc (.cells (madeCells #[(.slice none 0 0)] n) 71)) ∧ (x1.alloc (.cells (madeCells #[(.slice none 0 0)] n) 71)).cell? ⟨w.heap.size, 1, none⟩ = some (.slice A n c) from ⟨btr hW1.1 CX, carry CX hW1.2⟩)
      refine planC_val rfl rfl (.slice (some ⟨x1.heap.size, 0, none⟩) n n) (w'' := x1.alloc (.cells (madeCells #[(.slice none 0 0)] n) 71)) (made_exec rfl rfl rfl (run_make_row' (P := Try.prog) 54 71 (.slice none 0 0) 24 Try.underlying54 infoMks rfl .i64 .i64 n (by omega) (by omega) _)) hW2 ?_
      have gcR := World.rowIs_made x1 (.slice none 0 0) n 71
      have hlz : w.heap.size ≤ (x1.alloc (.cells (madeCells #[(.slice none 0 0)] n) 71)).heap.size := Nat.le_trans hlx CX.size
      obtain ⟨gc, hb_c⟩ : ∃ g, g = x1.heap.size := ⟨_, rfl⟩
      rw [← hb_c] at gcR ⊢
      have hlc : w.heap.size ≤ gc := by rw [hb_c]; exact hlx
      clear CX
      generalize x1.alloc (.cells (madeCells #[(.slice none 0 0)] n) 71) = x2 at *
      have hly := hlz
      clear hlz
      simp only [Act.put, List.setIfInBounds_toArray, List.set_cons_succ, List.set_cons_zero]
      have CX := bal (Below.refl x2.heap.size x2) (.cells (madeCells #[(.bool false)] n) 4)
      have hW3 := (show Below w.heap.size w (x2.alloc (.cells (madeCells #[(.bool false)] n) 4)) ∧ (x2.alloc (.cells (madeCells #[(.bool false)] n) 4)).cell? ⟨w.heap.size, 1, none⟩ = some (.slice A n c) from ⟨btr hW2.1 CX, carry CX hW2.2⟩)
      refine planC_val rfl rfl (.slice (some ⟨x2.heap.size, 0, none⟩) n n) (w'' := x2.alloc (.cells (madeCells #[(.bool false)] n) 4)) (made_exec rfl rfl rfl (run_make_row' (P := Try.prog) 56 4 (.bool false) 1 Try.underlying56 infoBl rfl .i64 .i64 n (by omega) (by omega) _)) hW3 ?_
      have gdR := World.rowIs_made x2 (.bool false) n 4
      have hlz : w.heap.size ≤ (x2.alloc (.cells (madeCells #[(.bool false)] n) 4)).heap.size := Nat.le_trans hly CX.size
      replace gcR := row_below gcR CX
      obtain ⟨gd, hb_d⟩ : ∃ g, g = x2.heap.size := ⟨_, rfl⟩
      rw [← hb_d] at gdR ⊢
      have hld : w.heap.size ≤ gd := by rw [hb_d]; exact hly
      clear CX
      generalize x2.alloc (.cells (madeCells #[(.bool false)] n) 4) = x3 at *
      have hlw := hlz
      clear hlz
      simp only [Act.put, List.setIfInBounds_toArray, List.set_cons_succ, List.set_cons_zero]
      refine plan_fin ?_
      simp only [List.drop_succ_cons, List.drop_zero, Act.put, List.setIfInBounds_toArray, List.set_cons_succ, List.set_cons_zero]
      refine wpList_val rfl (v := .agg (arrP (.slice (some ⟨gc, 0, none⟩) n n) (.slice (some ⟨gd, 0, none⟩) n n))) (by kernel_rfl) ?_
      have hnew := prm_new w.heap.size gc gd n x3 hlc hld hlw gcR gdR
      generalize arrP (.slice (some ⟨gc, 0, none⟩) n n) (.slice (some ⟨gd, 0, none⟩) n n) = arr at *
      simp only [Act.put, List.setIfInBounds_toArray, List.set_cons_succ, List.set_cons_zero]
      have CX := bal (Below.refl x3.heap.size x3) (.cells arr 60)
      go_wp2_with fail
      go_meet
      exact ⟨_, gc, gd, rfl, hnew, btr hW3.1 CX, carry CX hW3.2⟩
    · skip
      have CX := bal (Below.refl x1.heap.size x1) (.cells (madeCells #[(.bool false)] n) 4)
      have hW2 := (show Below w.heap.size w (x1.alloc (.cells (madeCells #[(.bool false)] n) 4)) ∧ (x1.alloc (.cells (madeCells #[(.bool false)] n) 4)).cell? ⟨w.heap.size, 1, none⟩ = some (.slice A n c) from ⟨btr hW1.1 CX, carry CX hW1.2⟩)
      refine planC_val rfl rfl (.slice (some ⟨x1.heap.size, 0, none⟩) n n) (w'' := x1.alloc (.cells (madeCells #[(.bool false)] n) 4)) (made_exec rfl rfl rfl (run_make_row' (P := Try.prog) 56 4 (.bool false) 1 Try.underlying56 infoBl rfl .i64 .i64 n (by omega) (by omega) _)) hW2 ?_
      have gdR := World.rowIs_made x1 (.bool false) n 4
      have hlz : w.heap.size ≤ (x1.alloc (.cells (madeCells #[(.bool false)] n) 4)).heap.size := Nat.le_trans hlx CX.size
      obtain ⟨gd, hb_d⟩ : ∃ g, g = x1.heap.size := ⟨_, rfl⟩
      rw [← hb_d] at gdR ⊢
      have hld : w.heap.size ≤ gd := by rw [hb_d]; exact hlx
      clear CX
      generalize x1.alloc (.cells (madeCells #[(.bool false)] n) 4) = x2 at *
      have hly := hlz
      clear hlz
      simp only [Act.put, List.setIfInBounds_toArray, List.set_cons_succ, List.set_cons_zero]
      have CX := bal (Below.refl x2.heap.size x2) (.cells (madeCells #[(.slice none 0 0)] n) 71)
      have hW3 := (show Below w.heap.size w (x2.alloc (.cells (madeCells #[(.slice none 0 0)] n) 71)) ∧ (x2.alloc (.cells (madeCells #[(.slice none 0 0)] n) 71)).cell? ⟨w.heap.size, 1, none⟩ = some (.slice A n c) from ⟨btr hW2.1 CX, carry CX hW2.2⟩)
      refine planC_val rfl rfl (.slice (some ⟨x2.heap.size, 0, none⟩) n n) (w'' := x2.alloc (.cells (madeCells #[(.slice none 0 0)] n) 71)) (made_exec rfl rfl rfl (run_make_row' (P := Try.prog) 54 71 (.slice none 0 0) 24 Try.underlying54 infoMks rfl .i64 .i64 n (by omega) (by omega) _)) hW3 ?_
      have gcR := World.rowIs_made x2 (.slice none 0 0) n 71
      have hlz : w.heap.size ≤ (x2.alloc (.cells (madeCells #[(.slice none 0 0)] n) 71)).heap.size := Nat.le_trans hly CX.size
      replace gdR := row_below gdR CX
      obtain ⟨gc, hb_c⟩ : ∃ g, g = x2.heap.size := ⟨_, rfl⟩
      rw [← hb_c] at gcR ⊢
      have hlc : w.heap.size ≤ gc := by rw [hb_c]; exact hly
      clear CX
      generalize x2.alloc (.cells (madeCells #[(.slice none 0 0)] n) 71) = x3 at *
      have hlw := hlz
      clear hlz
      simp only [Act.put, List.setIfInBounds_toArray, List.set_cons_succ, List.set_cons_zero]
      refine plan_fin ?_
      simp only [List.drop_succ_cons, List.drop_zero, Act.put, List.setIfInBounds_toArray, List.set_cons_succ, List.set_cons_zero]
      refine wpList_val rfl (v := .agg (arrP (.slice (some ⟨gc, 0, none⟩) n n) (.slice (some ⟨gd, 0, none⟩) n n))) (by kernel_rfl) ?_
      have hnew := prm_new w.heap.size gc gd n x3 hlc hld hlw gcR gdR
      generalize arrP (.slice (some ⟨gc, 0, none⟩) n n) (.slice (some ⟨gd, 0, none⟩) n n) = arr at *
      simp only [Act.put, List.setIfInBounds_toArray, List.set_cons_succ, List.set_cons_zero]
      have CX := bal (Below.refl x3.heap.size x3) (.cells arr 60)
      go_wp2_with fail
      go_meet
      exact ⟨_, gc, gd, rfl, hnew, btr hW3.1 CX, carry CX hW3.2⟩
  case rest =>
    obtain ⟨b, gc, gd, rfl, hP, qx, cx⟩ := hcut
    have H0 := hid (show NpS w.heap.size b n L 0 0 _ from ⟨{pq0 gc gd n with N := NpN L 0 0}, ps0, hP.congrN (N' := NpN L 0 0) (fun i hi => by unfold NpN; rw [if_neg (by omega)]; split <;> rfl), rfl, rfl, NpI.nil L n, fun t ht => absurd ht (by omega)⟩)
    clear hP c0 c1
    have hnI : (n : Int) ≤ 400 := by omega
    have HLL := hid hL; have HNN := hid hN; have HIJ := hid hinj
    clear hL hN hinj
    obtain ⟨i0, hi0, hz0, hz1, hz2⟩ := info_parts infoMk
    have HI := hid hi0; clear hi0
    go_wp2
    go_loopw [21] (fun v wr => ∃ j : Nat, j ≤ n ∧ v = .int .i64 (j : Int) ∧ NpS w.heap.size b n L j 0 wr ∧ Below w.heap.size w wr) (fun v _ => n - (intOf v).toNat)
    case atStart => exact ⟨0, Nat.zero_le _, rfl, H0.out, qx⟩
    case round =>
      clear H0 qx cx
      obtain ⟨j, hj, rfl, hNp, hb⟩ := hrel
      by_cases hlt : j < n
      · rcases hA with h0 | ⟨g, off, rfl, hg, hcA⟩
        · omega
        obtain ⟨a, ca, a0, hNk, hZ⟩ := hcA j hlt
        have a1 := carry hb a0
        have HA := hid (show ∀ k, k < n → ∃ a c, w.cell? ⟨g, off + k, none⟩ = some (.slice a (L.N k) c) ∧ L.N k ≤ 9223372036854775807 ∧ Ints w a (L.N k) (L.Z k) from hcA)
        clear hcA a0
        have hj61 := HNN.out j hlt
        have hNI : (L.N j : Int) ≤ 61 := by omega
        have hjI : (j : Int) < (n : Int) := by omega
        have hlit : ∀ t, t < L.N j → ofC (L.Z j t) 60 = true := fun t ht => HLL.out j hlt _ ⟨t, ht, rfl⟩
        have HNP := hid hNp; clear hNp
        go_wp2
        go_loopw [28] (fun v wy => ∃ t : Nat, t ≤ L.N j ∧ v = .int .i64 (t : Int) ∧ NpS w.heap.size b n L j t wy ∧ Below w.heap.size w wy) (fun v _ => L.N j - (intOf v).toNat)
        case atStart => exact ⟨0, Nat.zero_le _, rfl, HNP.out, hb⟩
        case round =>
          clear HNP hb a1
          obtain ⟨t, ht, rfl, ⟨k, s, hP, hkn, hkN, hI, hC⟩, hb⟩ := hrel
          have hlw : w.heap.size ≤ wr.heap.size := hb.size
          by_cases hlt2 : t < L.N j
          · rcases hZ with h0 | ⟨ga, oa, rfl, hga, hcz⟩
            · omega
            have z1 := carry hb (hcz t hlt2)
            have HZ := hid (show ∀ u, u < L.N j → w.cell? ⟨ga, oa + u, none⟩ = some (.int .i64 (L.Z j u)) from hcz)
            clear hcz
            have hjk : j < k.n := by omega
            have hNj : k.N j = t := by rw [hkN]; unfold NpN; rw [if_neg (by omega), if_pos rfl]
            have p0 := hP.c0
            have pc := hP.cc hjk
            rw [hkn] at p0
            have HP := hid hP; have HKN := hid hkN; have HIn := hid hI; have HC := hid hC; have HNJ := hid hNj
            have ht61 : k.N j ≤ 61 := by omega
            clear hP hkN hI hC hNj
            go_upto_region 8 with fail
            have qd := (Below.refl wr.heap.size wr).drew
            refine region_planC (NpC w b j k.gc n (k.cv j)) (.takes [0, 1, 2, 3, 4, 5, 6, 7, 8, 9, 10, 11, 12] (.make 13 (.make 14 .fin))) 15 rfl (by kernel_rfl) ⟨btr hb qd, carry qd p0, carry qd pc⟩ ?_
            have hZ0 : NpC w b j k.gc n (k.cv j) wr.drew := ⟨btr hb qd, carry qd p0, carry qd pc⟩
            have hlx : w.heap.size ≤ wr.drew.heap.size := Nat.le_trans hlw qd.size
            have HPd := hid (HP.out.below qd)
            clear z1 p0 pc qd
            generalize wr.drew = x0 at *
            refine plan_takes ?_; simp only [pickOps, List.getElem?_cons_zero, List.getElem?_cons_succ]
            refine quiet_doC rfl (.pointer (some ⟨b, 0, none⟩)) (fun W hW => by simp [execOp, go_sem]) ?_
            refine quiet_doC rfl (.pointer (some ⟨b, 0, none⟩)) (fun W hW => by simp [execOp, go_sem]) ?_
            refine quiet_doC rfl (.pointer (some ⟨b, 0, none⟩)) (fun W hW => by simp [execOp, go_sem]) ?_
            refine quiet_doC rfl (.slice (some ⟨k.gc, 0, none⟩) n n) (fun W hW => by simp [execOp, go_sem, hW.2.1]) ?_
            refine quiet_doC rfl (.int .i64 (j : Int)) (fun W hW => by simp [execOp, go_sem]) ?_
            refine quiet_doC rfl (.pointer (some ⟨b, 0, none⟩)) (fun W hW => by simp [execOp, go_sem]) ?_
            refine quiet_doC rfl (.pointer (some ⟨b, 0, none⟩)) (fun W hW => by simp [execOp, go_sem]) ?_
            refine quiet_doC rfl (.pointer (some ⟨b, 0, none⟩)) (fun W hW => by simp [execOp, go_sem]) ?_
            refine quiet_doC rfl (.slice (some ⟨k.gc, 0, none⟩) n n) (fun W hW => by simp [execOp, go_sem, hW.2.1]) ?_
            refine quiet_doC rfl (.int .i64 (j : Int)) (fun W hW => by simp [execOp, go_sem]) ?_
            refine quiet_doC rfl (.pointer (some ⟨k.gc, j, none⟩)) (fun W hW => by simp [execOp, go_sem, hjI]) ?_
            refine quiet_doC rfl (k.cv j) (fun W hW => by simp [execOp, go_sem, hW.2.2]) ?_
            refine quiet_doC rfl (.int .i64 (L.Z j t)) (fun W hW => by simp [execOp, go_sem]) ?_
            refine wpQuiet_nil ?_
            simp only [Act.put, List.setIfInBounds_toArray, List.set_cons_succ, List.set_cons_zero]
            have CX := bal (Below.refl x0.heap.size x0) (.cells #[.int .i64 (L.Z j t)] 52)
            have hZ1 : NpC w b j k.gc n (k.cv j) (x0.alloc (.cells #[.int .i64 (L.Z j t)] 52)) := ⟨btr hZ0.1 CX, carry CX hZ0.2.1, carry CX hZ0.2.2⟩
            have hlo1 : w.heap.size ≤ (x0.alloc (.cells #[.int .i64 (L.Z j t)] 52)).heap.size := Nat.le_trans hlx CX.size
            refine planC_val rfl rfl (.slice (some ⟨x0.heap.size, 0, none⟩) 1 1) (w'' := x0.alloc (.cells #[.int .i64 (L.Z j t)] 52)) (by simp [execOp, go_sem]) hZ1 ?_
            have hnews := news_one x0 (.int .i64 (L.Z j t)) 52
            have HP1 := hid (HPd.out.below CX)
            clear hZ0 CX
            generalize x0.heap.size = nb at *
            generalize x0.alloc (.cells #[.int .i64 (L.Z j t)] 52) = x1 at *
            simp only [Act.put, List.setIfInBounds_toArray, List.set_cons_succ, List.set_cons_zero]
            have hO1 := HP1.out.cl j hjk
            refine planC_appendU rfl rfl _ _ 71 rfl w.heap.size 52 i0 _ 1 8 Try.underlying71 HI.out hz0 hz1 hz2 rfl (by decide) (k.cv j) (k.N j) (valsC (k.N j) (s.C j)) (by kernel_rfl) hO1 ⟨nb, 0, none⟩ 1 1 [.int .i64 (L.Z j t)] (by kernel_rfl) rfl hnews (fun u hu => by simp at hu; subst hu; rfl) (by unfold maxLen; omega) (by omega) hlo1 ?_
            intro v' w6 hown6 hgrow hfresh
            obtain ⟨av', cv', rfl⟩ := own_sliceU hown6
            have hgb : ∀ r, (k.cv j).ownBlock = some r → w.heap.size ≤ r := fun r hr => (hO1.lt r hr).1
            have hb6 : Below w.heap.size w w6 := hZ1.1.grown hgrow hlo1 hgb
            have hne1 : some b ≠ (k.cv j).ownBlock := fun e => absurd (own_ty hO1 HP1.out.box e.symm) (by decide)
            have hne2 : some k.gc ≠ (k.cv j).ownBlock := fun e => absurd (own_ty hO1 HP1.out.row e.symm) (by decide)
            have d0 : w6.cell? ⟨k.gc, j, none⟩ = some (k.cv j) := hgrow.cell hZ1.2.2 hne2
            refine ⟨⟨hb6, hgrow.cell hZ1.2.1 hne1, d0⟩, ?_⟩
            have g0 : w6.frozen? ⟨k.gc, j, none⟩ = false := (HP1.out.row.of_block (hgrow.block k.gc HP1.out.row.lt (fun e => hne2 e))).frozen j
            have hlog := HP1.out.loc
            have HF := hid (HP1.out.pushC (i := j) hjk hgrow hown6 hfresh)
            clear hown6 hgrow hfresh hO1 hgb hne1 hne2
            simp only [Act.put, List.setIfInBounds_toArray, List.set_cons_succ, List.set_cons_zero]
            refine plan_fin ?_
            simp only [List.drop_succ_cons, List.drop_zero, Act.put, List.setIfInBounds_toArray, List.set_cons_succ, List.set_cons_zero]
            unfold Pq.cv at d0
            go_wp2
            go_roundw
            case rel =>
              refine ⟨t + 1, by omega, by go_num, ⟨_, _, HF.out, hkn, ?_, ?_, ?_⟩, hb6.setCell hlog _⟩
              · funext i
                simp only
                rw [HNJ.out, HKN.out]
                unfold NpN
                by_cases e : i = j
                · rw [if_pos e, if_neg (by omega), if_pos e]
                · rw [if_neg e, if_neg e, if_neg e]
              · obtain ⟨a1, a2⟩ := HIn.out
                refine ⟨fun i hi t' ht' => ?_, a2⟩
                simp only
                rw [if_neg (by omega)]
                exact a1 i hi t' ht'
              · intro t' ht'
                simp only [↓reduceIte]
                rw [HNJ.out]
                by_cases e : t' = t
                · rw [if_pos e, e]
                · rw [if_neg e]; exact HC.out t' (by omega)
            case measure => simp [intOf]; omega
          · have hke : t = L.N j := by omega
            subst hke
            have hjk : j < k.n := by omega
            have hN1 : k.N = NpN L (j + 1) 0 := by
              rw [hkN]
              funext i
              unfold NpN
              by_cases e : i = j
              · subst e; rw [if_neg (by omega), if_pos rfl, if_pos (by omega)]
              · by_cases e2 : i < j
                · rw [if_pos e2, if_pos (by omega)]
                · rw [if_neg e2, if_neg e, if_neg (by omega)]
                  split <;> rfl
            clear hkN
            by_cases h2 : L.N j < 2
            · have d2 : decide ((L.N j : Int) < 2) = true := decide_eq_true (by omega)
              have e122 := hP.c122
              rw [hkn] at e122
              have ed := hP.cd hjk
              have fd := hP.du.frozen j
              have hlod := hP.lod
              have HF := hid (hP.setD j true)
              have HIn := hid (hI.short hlt hC h2)
              clear hP hI hC h2
              go_wp2
              go_roundw
              case rel => exact ⟨j + 1, by omega, by go_num, ⟨k, _, HF.out, hkn, hN1, HIn.out, fun t ht => absurd ht (by omega)⟩, hb.setCell hlod _⟩
              case measure => simp [intOf]; omega
            · have d2 : decide ((L.N j : Int) < 2) = false := decide_eq_false (by omega)
              have h22 : 2 ≤ L.N j := by omega
              have l0 := hlit 0 (by omega)
              have l1 := hlit 1 (by omega)
              have hne : L.Z j 0 ≠ L.Z j 1 := fun e => by have := HIJ.out j hlt 0 1 (by omega) (by omega) e; omega
              have hpp : plc (L.Z j 1) ≠ plc (L.Z j 0) := fun e => hne (plc_inj l0 l1 e.symm)
              rcases hZ with h0 | ⟨ga, oa, rfl, hga, hcz⟩
              · omega
              have z0 := carry hb (hcz 0 (by omega))
              rw [Nat.add_zero] at z0
              have zw := hcz 1 (by omega)
              have hNI1 : (1 : Int) < (L.N j : Int) := by omega
              have hNI0 : (0 : Int) < (L.N j : Int) := by omega
              have hl0 : ∀ y, ofC y 60 = true → (s.Wl (plc y)).length ≤ 1000000 := fun y hy => by
                have h3 := nodup_le j _ (hI.2.2.2.2.2.1 y hy) (fun i hi => (hI.2.2.2.2.1 y hy i hi).1)
                omega
              have hW1 := watch_any w.heap.size b j k s (L.Z j 0) wr hP l0 (hl0 _ l0) hlw
              have hl1 := hl0 _ l1
              have HIn := hid (fun v v' => hI.long hlt hC h22 hne l0 l1 v v')
              clear hP hI hC h2 hcz hl0
              go_wp2_with fail
              refine hW1.mono ?_
              rintro e w2 ⟨rfl, ⟨v1, hP1⟩, hq1⟩
              have q2 := hb.trans hq1
              have z1 := carry q2 zw
              have hW2 := watch_any w.heap.size b j k _ (L.Z j 1) w2 hP1 l1 (by show (if plc (L.Z j 1) = plc (L.Z j 0) then _ else _ : List Nat).length ≤ _; rw [if_neg hpp]; exact hl1) q2.size
              clear hW1 z0 hP1
              go_wp2_with fail
              refine hW2.mono ?_
              rintro e w3 ⟨rfl, ⟨v2, hP2⟩, hq2⟩
              have HP2 := hid hP2
              clear hW2 z1 hP2
              go_wp2
              go_roundw
              case rel => exact ⟨j + 1, by omega, by go_num, ⟨k, _, HP2.out, hkn, hN1, HIn.out v1 v2, fun t ht => absurd ht (by omega)⟩, q2.trans hq2⟩
              case measure => simp [intOf]; omega
      · have hke : j = n := by omega
        subst hke
        obtain ⟨k, s, hP, hkn, hkN, hI, _⟩ := hNp
        obtain ⟨f1, f2, f3, f4⟩ := hI.fin HIJ.out
        go_wp2
        go_ret
        refine ⟨⟨b, {k with N := L.N}, s, rfl, hP.congrN (fun i hi => by rw [hkN]; unfold NpN; rw [if_pos (by omega)]), hkn, rfl, f1, f2, f3, f4⟩, hb⟩
end Go.Proofs.Ytjnngijilkdhbaa

namespace Go.Proofs.Ytjnngijilkdhbaa
set_option linter.unusedVariables false
set_option linter.unusedSimpArgs false
open Go.RowKit
/-- the first that is due, or -1 -/
def IdxP (n : Nat) (D : Nat → Bool) (r : Int) : Prop := (r = -1 ∧ ∀ i, i < n → D i = false) ∨ ∃ i : Nat, i < n ∧ r = (i : Int) ∧ D i = true ∧ ∀ j, j < i → D j = false
set_option maxHeartbeats 2000000 in
theorem sindex_any (gd n : Nat) (D : Nat → Bool) (w : World) (hn : n ≤ 400) (hr : w.rowIs gd 4 n (fun i => .bool (D i))) :
    Calls Try.prog 60 #[.slice (some ⟨gd, 0, none⟩) n n, .bool true] w fun e w' => (∃ r : Int, e = .returned (.int .i64 r) ∧ IdxP n D r) ∧ w = w' := by
  have hnI : (n : Int) ≤ 400 := by omega
  go_enter Try.func60, Try.ntmps60
  go_wp2
  go_loop [8] (fun v => ∃ k : Nat, k ≤ n ∧ v = .int .i64 (k : Int) ∧ ∀ j, j < k → D j = false) (fun v => n - (intOf v).toNat)
  case atStart => exact ⟨0, Nat.zero_le _, rfl, fun j hj => by omega⟩
  case round =>
    obtain ⟨k, hk, rfl, he⟩ := hrel
    have HE := hid he; clear he
    by_cases hlt : k < n
    · have c0 := hr.cell hlt
      have hkI : (k : Int) < (n : Int) := by omega
      cases hd : D k
      · rw [hd] at c0
        have HD := hid hd; clear hd
        go_wp2
        go_round
        case rel =>
          refine ⟨k + 1, by omega, by go_num, fun j hj => ?_⟩
          by_cases e : j = k
          · subst e; exact HD.out
          · exact HE.out j (by omega)
        case measure => simp [intOf]; omega
      · rw [hd] at c0
        have HD := hid hd; clear hd
        go_wp2
        go_ret
        exact ⟨⟨k, rfl, .inr ⟨k, hlt, rfl, HD.out, HE.out⟩⟩, rfl⟩
    · have hke : k = n := by omega
      subst hke
      go_wp2
      go_ret
      exact ⟨⟨-1, rfl, .inl ⟨rfl, HE.out⟩⟩, rfl⟩
def rdI (w : World) (b o : Nat) : Int := match w.cell? ⟨b, o, none⟩ with | some (.int _ z) => z | _ => 0
def rdB (w : World) (b o : Nat) : Bool := match w.cell? ⟨b, o, none⟩ with | some (.bool z) => z | _ => false
/-- how much is left to do -/
def measU (b gd n : Nat) (w : World) : Nat := cntP (fun v => decide (rdI w b (123 + (v + 1)) = 0)) 60 * (n + 1) + cntP (fun i => rdB w gd i) n
theorem measU_eq {lo b : Nat} {k : Pq} {s : Ps} {w : World} (h : PrM lo b k s w) (hS : SetS s.S s.T) : measU b k.gd k.n w = frU 60 s.T * (k.n + 1) + cntP s.due k.n := by
  unfold measU frU
  congr 1
  · congr 1
    refine cntP_congr fun v hv => ?_
    unfold rdI
    rw [h.cs (v := v + 1) (by omega)]
    simp only
    rw [hS (v + 1) (by omega)]
  · refine cntP_congr fun i hi => ?_
    unfold rdB
    rw [h.cd hi]
theorem GoU.mono {m m' : Int} {T : List Int} (h : GoU m T) (hm : m ≤ m') : GoU m' T := by
  induction h with
  | nil => exact .nil
  | push T x h h1 h0 ih => exact .push T x ih (by have := ofC_iff.1 h1; exact ofC_iff.2 ⟨this.1, by omega, by omega⟩) h0
theorem GoU.len60 {T : List Int} (h : GoU 60 T) : T.length ≤ 60 := by
  have := GoU.len (m := 60) h
  omega
theorem Ur.good {n : Nat} {L : Lls} {T T' : List Int} {r : Bool} (hL : LitL n L) (h : Ur n L T T' r) (hg : GoU 60 T) : GoU 60 T' := by
  induction h with
  | stop T h => exact hg
  | bad T i hi hf h => exact hg
  | step T i x T' r hi hu h hr ih => exact ih (.push T x hg (hL i hi x hu.1) hu.2.1)
/-- the state of a run on its way -/
def RunS (lo b : Nat) (k : Pq) (L : Lls) (T0 : List Int) (s : Ps) (W : World) : Prop :=
  PrM lo b k s W ∧ InvB k.n L s.C s.Wl s.T ∧ InvD k.n L s.C s.due s.T 0 ∧ SetS s.S s.T ∧ GoU 60 s.T ∧ ∀ T' r, Ur k.n L s.T T' r → Ur k.n L T0 T' r
theorem dd_mono {N : Nat} {c : Nat → Int} {T : List Int} {m : Int} {d : Bool} (h : Dd N c T 0 d) (h0 : 0 < N → c 0 ≠ 0) : Dd N c T m d := by
  unfold Dd at h ⊢
  split
  · rename_i e; rw [if_pos e] at h; exact h
  · rename_i e; rw [if_neg e] at h
    rcases h with ⟨a, h⟩ | h
    · exact .inl ⟨a, .inl (h.resolve_right (h0 a))⟩
    · exact .inr h
theorem RunS.idle {lo b : Nat} {k : Pq} {L : Lls} {T0 : List Int} {s : Ps} {W : World} (h : RunS lo b k L T0 s W) (hL : LitL k.n L) {j : Nat} (hj : j < k.n) (hd : s.due j = false) : Idle (L.N j) (L.Z j) s.T := by
  obtain ⟨_, hB, hD, _⟩ := h
  have := hD j hj
  unfold Dd at this
  rw [hd, if_neg (by simp)] at this
  exact inv_idle hB hj this fun t ht => (ofC_iff.1 (mem_lit hL hB hj ht)).1
theorem RunS.d1 {lo b : Nat} {k : Pq} {L : Lls} {T0 : List Int} {s : Ps} {W : World} (h : RunS lo b k L T0 s W) {j : Nat} (hj : j < k.n) (hd : s.due j = true) : D1 (L.N j) (s.C j) s.T := by
  have := h.2.2.1 j hj
  unfold Dd at this
  rw [hd, if_pos rfl] at this
  exact this
/-- a clause whose first literal is true is due no more -/
theorem RunS.pass {lo b : Nat} {k : Pq} {L : Lls} {T0 : List Int} {s : Ps} {W W' : World} (h : RunS lo b k L T0 s W) {i : Nat} (hi : i < k.n) (hN : 0 < L.N i) (ht : atU s.T (s.C i 0) = 1) (hP : PrM lo b k {s with due := fun j => if j = i then false else s.due j} W') :
    RunS lo b k L T0 {s with due := fun j => if j = i then false else s.due j} W' := by
  obtain ⟨_, hB, hD, hS, hG, hU⟩ := h
  refine ⟨hP, hB, fun j hj => ?_, hS, hG, hU⟩
  simp only
  by_cases e : j = i
  · subst e
    rw [if_pos rfl]
    unfold Dd
    rw [if_neg (by simp)]
    exact .inl ⟨hN, .inl ht⟩
  · rw [if_neg e]; exact hD j hj
theorem RunS.asg {lo b : Nat} {k : Pq} {L : Lls} {T0 : List Int} {s : Ps} {W : World} (h : RunS lo b k L T0 s W) (hL : LitL k.n L) {i : Nat} (hi : i < k.n) (hN : 0 < L.N i) :
    InvD k.n L s.C (fun j => if j = i then false else s.due j) s.T (s.C i 0) := by
  obtain ⟨_, hB, hD, hS, hG, hU⟩ := h
  intro j hj
  simp only
  by_cases e : j = i
  · subst e
    rw [if_pos rfl]
    unfold Dd
    rw [if_neg (by simp)]
    exact .inl ⟨hN, .inr rfl⟩
  · rw [if_neg e]
    exact dd_mono (hD j hj) fun h0 => (ofC_iff.1 (mem_lit hL hB hj h0)).1
theorem meas_less {a a' c c' n : Nat} (h : a = a' + 1) (hc : c' ≤ n) : a' * (n + 1) + c' < a * (n + 1) + c := by
  subst h; rw [Nat.add_mul, Nat.one_mul]; omega
set_option maxHeartbeats 8000000 in
set_option maxRecDepth 100000 in
theorem prrun_any (lo b : Nat) (k : Pq) (s : Ps) (L : Lls) (w : World) (hR : RunS lo b k L s.T s w) (hkL : k.N = L.N) (hn : k.n ≤ 400) (hL : LitL k.n L) (hN : ∀ i, i < k.n → L.N i ≤ 61) (hlo : lo ≤ w.heap.size) :
    Calls Try.prog 44 #[.pointer (some ⟨b, 0, none⟩)] w fun e w' => (∃ s' r, e = .returned (.bool r) ∧ PrM lo b k s' w' ∧ Ur k.n L s.T s'.T r) ∧ Below lo w w' := by
  have hIx := fun (s1 : Ps) W (h : PrM lo b k s1 W) => sindex_any k.gd k.n s1.due W hn h.du
  have HL := hid hL; have HNN := hid hN; have HKL := hid hkL; have HR := hid hR
  have b122 := hR.1.c122
  clear hL hN hkL
  have hnI : (k.n : Int) ≤ 400 := by omega
  go_enter Try.func44, Try.ntmps44
  go_wp2_with (go_at_call 60; refine (hIx s _ HR.out.1).mono ?_; rintro e w1 ⟨⟨r0, rfl, hr0⟩, rfl⟩)
  go_loopw [3] (fun v wr => ∃ (s1 : Ps) (r : Int), v = .int .i64 r ∧ IdxP k.n s1.due r ∧ RunS lo b k L s.T s1 wr ∧ Below lo w wr) (fun _ wr => measU b k.gd k.n wr)
  case atStart => exact ⟨s, r0, rfl, hr0, HR.out, Below.refl _ _⟩
  case round =>
    clear b122 hr0 HR hR
    obtain ⟨s1, r, rfl, hr, hS, hb⟩ := hrel
    rcases hr with ⟨rfl, hno⟩ | ⟨i, hi, rfl, hdi, hbefore⟩
    · have HF := hid (show Ur k.n L s.T s1.T false from hS.2.2.2.2.2 _ _ (Ur.stop _ fun j hj => hS.idle HL.out hj (hno j hj)))
      go_wp2
      go_ret
      exact ⟨⟨s1, false, rfl, hS.1, HF.out⟩, hb⟩
    · have hP1 := hS.1
      have hlw : lo ≤ wr.heap.size := Nat.le_trans hlo hb.size
      have c122 := hP1.c122
      have cd := hP1.cd hi
      have fd := hP1.du.frozen i
      have hiI : (i : Int) < (k.n : Int) := by omega
      have hlod := hP1.lod
      have HP2 := hid (hP1.setD i false)
      have HS := hid hS
      have hmeas := hid (measU_eq hP1 hS.2.2.2.1)
      have HD1 := hid (hS.d1 hi hdi)
      have HId := hid (fun j (hj : j < i) => hS.idle HL.out (by omega) (hbefore j hj))
      have HDI := hid hdi
      clear hbefore hS hdi
      go_upto_region 5 with fail
      have q2 : Below lo w (wr.setCell ⟨k.gd, i, none⟩ (.bool false)) := hb.setCell hlod _
      obtain ⟨w2, hw2⟩ : ∃ w2, w2 = wr.setCell ⟨k.gd, i, none⟩ (.bool false) := ⟨_, rfl⟩
      rw [← hw2] at HP2 q2 ⊢
      clear hw2 c122 cd fd
      have hlo2 : lo ≤ w2.heap.size := Nat.le_trans hlo q2.size
      have p0 := HP2.out.c0
      have pc := HP2.out.cc hi
      by_cases hN0 : k.N i = 0
      · have d0 : ((k.N i : Int) == 0) = true := by simp; omega
        have HF := hid (show Ur k.n L s.T s1.T true from HS.out.2.2.2.2.2 _ _ (Ur.bad _ i hi (inv_fal HS.out.2.1 hi HD1.out (.inl (by rw [← HKL.out]; exact hN0))) HId.out))
        clear hN0
        go_upto_region 6 with fail
        have gc := @gro_cell w2
        refine wp_region_grow_lit (by kernel_rfl) (by kernel_rfl) ?_
        repeat (go_big_quiet_step (fail))
        refine wpQuiet_nil ?_
        rintro _ ⟨X, rfl⟩
        clear gc
        have XH : Below w2.heap.size w2 (gro w2 X) := X.h
        go_wp2
        go_ret
        exact ⟨⟨_, true, rfl, HP2.out.below XH, HF.out⟩, q2.trans (XH.mono hlo2)⟩
      · have d0 : ((k.N i : Int) == 0) = false := by simp; omega
        have hNp : 0 < k.N i := by omega
        have hNp' : 0 < L.N i := by rw [← HKL.out]; exact hNp
        have hlit : ofC (s1.C i 0) 60 = true := mem_lit HL.out HS.out.2.1 hi hNp'
        obtain ⟨g, hCA, hgl, hlg, hob, hcells, hfr⟩ := HP2.out.cg hi hNp
        have z0 := hcells 0 hNp
        rw [hCA] at pc
        obtain ⟨v, e1, e2, e3, e4, e5, e6, e7, e8⟩ := lit_rng hlit
        have hsc := HP2.out.cs (v := v) (by omega)
        replace hsc : w2.cell? ⟨b, 123 + v, none⟩ = some (.int .i64 (s1.S v)) := hsc
        replace z0 : w2.cell? ⟨g, 0, none⟩ = some (.int .i64 (s1.C i 0)) := z0
        have hsb := cell_lt hsc
        have hAt := HS.out.2.2.2.1.at hlit
        rw [e2] at hAt
        have hAt' := hid hAt
        clear hAt hcells hfr hN0
        have hNpI : (0 : Int) < (k.N i : Int) := by omega
        have hNt := fun X : Gro w2 => (not_any (s1.C i 0) (gro w2 X) ⟨e4, e5⟩).mono fun e w' h => (⟨h.1, h.2 ▸ Below.refl _ _⟩ : e = .returned (.int .i64 (-(s1.C i 0))) ∧ Below (gro w2 X).heap.size (gro w2 X) w')
        have hHs := fun X : Gro w2 => hasU_any b 123 v (-(s1.C i 0)) (s1.S v) (gro w2 X) (carry X.h hsc) ⟨by omega, by omega⟩ e8 e3
        go_upto_region 6 with fail
        have gc := @gro_cell w2
        cases hv : (s1.S v == -(s1.C i 0))
        · rw [hv] at hHs
          have hv' : s1.S v ≠ -(s1.C i 0) := by simpa using hv
          have HV := hid hv'
          clear hv hv'
          refine wp_region_grow_lit (by kernel_rfl) (by kernel_rfl) ?_
          repeat (go_big_quiet_step (first | (go_at_call 57; exact grow_call _ (hNt _)) | (go_at_call 61; exact grow_call _ (hHs _))))
          refine wpQuiet_nil ?_
          rintro _ ⟨X, rfl⟩
          clear gc hHs hNt
          have XH : Below w2.heap.size w2 (gro w2 X) := X.h
          replace HP2 := hid (HP2.out.below XH)
          replace q2 := q2.trans (XH.mono hlo2)
          replace z0 := carry XH z0
          replace hsc := carry XH hsc
          replace hlo2 : lo ≤ (gro w2 X).heap.size := Nat.le_trans hlo q2.size
          replace p0 := carry XH p0
          clear XH pc hgl hsb
          generalize gro w2 X = w3 at *
          have hsb := cell_lt hsc
          have hgl := cell_lt z0
          have hFr := fun X : Gro w3 => freeU_any b 123 v (s1.C i 0) (s1.S v) (gro w3 X) (carry X.h hsc) ⟨e4, e5⟩ e1 e3
          go_upto_region 8 with fail
          have gc := @gro_cell w3
          cases hf : (s1.S v == 0)
          · rw [hf] at hFr
            have hf' : s1.S v ≠ 0 := by simpa using hf
            have ht : atU s1.T (s1.C i 0) = 1 := by
              have h1 := hAt'.out
              rcases atU_rng s1.T (s1.C i 0) with h | h | h
              · exact h
              · exact absurd (h1.2.2.2 h) hf'
              · exact absurd (h1.2.1.2 h) HV.out
            have HTt := hid ht
            have hme := hid (measU_eq HP2.out HS.out.2.2.2.1)
            clear hf hf' ht
            refine wp_region_grow_lit (by kernel_rfl) (by kernel_rfl) ?_
            repeat (go_big_quiet_step (first | (go_at_call 42; exact grow_call _ (hFr _))))
            refine wpQuiet_nil ?_
            rintro _ ⟨X, rfl⟩
            clear gc hFr
            have XH : Below w3.heap.size w3 (gro w3 X) := X.h
            have HP3 := hid (HP2.out.below XH)
            have q3 := q2.trans (XH.mono hlo2)
            have c122 := HP3.out.c122
            clear XH z0 hsc p0 hsb
            generalize gro w3 X = w4 at *
            have hIy := hIx _ _ HP3.out
            go_wp2_with (go_at_call 60; refine hIy.mono ?_; rintro e w5 ⟨⟨r1, rfl, hr1⟩, rfl⟩)
            go_roundw
            case rel => exact ⟨_, r1, rfl, hr1, HS.out.pass hi hNp' HTt.out HP3.out, q3⟩
            case measure =>
              rw [measU_eq HP3.out HS.out.2.2.2.1, hmeas.out]
              have := cntP_upd (p := s1.due) (q := fun j => if j = i then false else s1.due j) hi HDI.out (by simp) (fun t _ hne => by simp [hne])
              show frU 60 s1.T * (k.n + 1) + cntP (fun j => if j = i then false else s1.due j) k.n < _
              omega
          · rw [hf] at hFr
            have hf' : s1.S v = 0 := by simpa using hf
            have h0 : atU s1.T (s1.C i 0) = 0 := hAt'.out.2.2.1 hf'
            have H0 := hid h0
            clear hf hf'
            have HU := hid (show ∀ T' r, Ur k.n L (s1.T ++ [s1.C i 0]) T' r → Ur k.n L s.T T' r from fun T' r hu => HS.out.2.2.2.2.2 _ _ (Ur.step _ i _ _ _ hi (inv_uni HS.out.2.1 hi HD1.out hNp' h0) HId.out hu))
            have HG := hid (GoU.push s1.T _ HS.out.2.2.2.2.1 hlit h0)
            have hlen := HS.out.2.2.2.2.1.len60
            clear h0
            refine wp_region_grow_lit (by kernel_rfl) (by kernel_rfl) ?_
            repeat (go_big_quiet_step (first | (go_at_call 42; exact grow_call _ (hFr _))))
            refine wpQuiet_nil ?_
            rintro _ ⟨X, rfl⟩
            clear gc hFr
            have XH : Below w3.heap.size w3 (gro w3 X) := X.h
            have HP3 := hid (HP2.out.below XH)
            have q3 := q2.trans (XH.mono hlo2)
            have hlo3 : lo ≤ (gro w3 X).heap.size := Nat.le_trans hlo q3.size
            replace z0 := carry XH z0
            have hAs := assign_any lo b k _ L (s1.C i 0) _ HP3.out HKL.out hn HL.out HNN.out HS.out.2.1 (HS.out.asg HL.out hi hNp') HS.out.2.2.2.1 hlit H0.out (by show s1.T.length ≤ 61; omega) hlo3
            clear XH hsc p0 hsb
            generalize gro w3 X = w4 at *
            go_wp2_with fail
            refine hAs.mono ?_
            rintro e w5 ⟨rfl, ⟨s5, hP5, hT5, hS5, hB5, hD5⟩, hq5⟩
            have q5 := q3.trans hq5
            have c122 := hP5.c122
            have hIy := hIx _ _ hP5
            have hme5 := hid (measU_eq hP5 hS5)
            have HR5 : Hid (RunS lo b k L s.T s5 w5) := hid ⟨hP5, hB5, hD5, hS5, by rw [hT5]; exact HG.out, by rw [hT5]; exact HU.out⟩
            have hfr5 : frU 60 s1.T = frU 60 s5.T + 1 := by rw [hT5]; exact frU_push hlit H0.out
            clear hAs z0 hP5 hB5 hD5 hS5 hT5
            go_wp2_with (go_at_call 60; refine hIy.mono ?_; rintro e w6 ⟨⟨r1, rfl, hr1⟩, rfl⟩)
            go_roundw
            case rel => exact ⟨_, r1, rfl, hr1, HR5.out, q5⟩
            case measure =>
              rw [hme5.out, hmeas.out]
              exact meas_less hfr5 (cntP_le _ _)
        · rw [hv] at hHs
          have hv' : s1.S v = -(s1.C i 0) := by simpa using hv
          have HF := hid (show Ur k.n L s.T s1.T true from HS.out.2.2.2.2.2 _ _ (Ur.bad _ i hi (inv_fal HS.out.2.1 hi HD1.out (.inr (hAt'.out.2.1.1 hv'))) HId.out))
          clear hv hv'
          refine wp_region_grow_lit (by kernel_rfl) (by kernel_rfl) ?_
          repeat (go_big_quiet_step (first | (go_at_call 57; exact grow_call _ (hNt _)) | (go_at_call 61; exact grow_call _ (hHs _))))
          refine wpQuiet_nil ?_
          rintro _ ⟨X, rfl⟩
          clear gc hHs hNt
          have XH : Below w2.heap.size w2 (gro w2 X) := X.h
          go_wp2
          go_ret
          exact ⟨⟨_, .inr ⟨rfl, HP2.out.below XH, HF.out⟩⟩, q2.trans (XH.mono hlo2)⟩
end Go.Proofs.Ytjnngijilkdhbaa
