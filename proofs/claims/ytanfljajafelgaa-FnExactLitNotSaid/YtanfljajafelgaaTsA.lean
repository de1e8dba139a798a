/- When two terms are one: plain mathematics; forests of keys. -/
import Derived.Test.YtanfljajafelgaaBU
import Derived.Test.YtanfljajafelgaaMapM
namespace Go.Proofs.Ytanfljajafelgaa
set_option linter.unusedVariables false
set_option linter.unusedSimpArgs false
open Go.RowKit
/-- two lists of terms are one, as far as d levels -/
def EqL : Nat → Nat → (Nat → Tm) → Nat → (Nat → Tm) → Prop
  | 0, _, _, _, _ => True
  | d + 1, n, kid, m, kid' => n = m ∧ ∀ k, k < n → (kid k).nm = (kid' k).nm ∧ EqL d (kid k).n (kid k).kid (kid' k).n (kid' k).kid
theorem EqL.refl : ∀ (d n : Nat) (kid : Nat → Tm), EqL d n kid n kid
  | 0, _, _ => trivial
  | d + 1, n, kid => ⟨rfl, fun k _ => ⟨rfl, EqL.refl d _ _⟩⟩
theorem EqL.symm : ∀ {d n : Nat} {kid : Nat → Tm} {m : Nat} {kid' : Nat → Tm}, EqL d n kid m kid' → EqL d m kid' n kid
  | 0, _, _, _, _, _ => trivial
  | d + 1, n, kid, m, kid', ⟨h, hk⟩ => ⟨h.symm, fun k hm => ⟨(hk k (by omega)).1.symm, EqL.symm (hk k (by omega)).2⟩⟩
theorem EqL.trans : ∀ {d n : Nat} {kid : Nat → Tm} {m : Nat} {kid' : Nat → Tm} {l : Nat} {kid'' : Nat → Tm}, EqL d n kid m kid' → EqL d m kid' l kid'' → EqL d n kid l kid''
  | 0, _, _, _, _, _, _, _, _ => trivial
  | d + 1, n, kid, m, kid', l, kid'', ⟨h, hk⟩, ⟨h', hk'⟩ => ⟨h.trans h', fun k hm => ⟨(hk k hm).1.trans (hk' k (by omega)).1, EqL.trans (hk k hm).2 (hk' k (by omega)).2⟩⟩
theorem EqL.drop : ∀ {d n : Nat} {kid : Nat → Tm} {m : Nat} {kid' : Nat → Tm}, EqL (d + 1) n kid m kid' → EqL d n kid m kid'
  | 0, _, _, _, _, _ => trivial
  | d + 1, n, kid, m, kid', ⟨h, hk⟩ => ⟨h, fun k hm => ⟨(hk k hm).1, EqL.drop (hk k hm).2⟩⟩
/-- two terms are one -/
def TEq (t u : Tm) : Prop := t.nm = u.nm ∧ ∀ d, EqL d t.n t.kid u.n u.kid
theorem TEq.refl (t : Tm) : TEq t t := ⟨rfl, fun d => EqL.refl d _ _⟩
theorem TEq.symm {t u : Tm} (h : TEq t u) : TEq u t := ⟨h.1.symm, fun d => (h.2 d).symm⟩
theorem TEq.trans {t u v : Tm} (h : TEq t u) (k : TEq u v) : TEq t v := ⟨h.1.trans k.1, fun d => (h.2 d).trans (k.2 d)⟩
theorem TEq.n {t u : Tm} (h : TEq t u) : t.n = u.n := (h.2 1).1
theorem TEq.kid {t u : Tm} (h : TEq t u) {k : Nat} (hk : k < t.n) : TEq (t.kid k) (u.kid k) := ⟨((h.2 1).2 k hk).1, fun d => ((h.2 (d + 1)).2 k hk).2⟩
theorem tEq_iff {t u : Tm} : TEq t u ↔ t.nm = u.nm ∧ t.n = u.n ∧ ∀ k, k < t.n → TEq (t.kid k) (u.kid k) := by
  constructor
  · intro h; exact ⟨h.1, h.n, fun k hk => h.kid hk⟩
  · rintro ⟨h0, h1, h2⟩
    refine ⟨h0, fun d => ?_⟩
    cases d with
    | zero => trivial
    | succ d => exact ⟨h1, fun k hk => ⟨(h2 k hk).1, (h2 k hk).2 d⟩⟩
/-- all of two lists of terms is one -/
def AEq (n : Nat) (kid : Nat → Tm) (m : Nat) (kid' : Nat → Tm) : Prop := ∀ d, EqL d n kid m kid'
theorem aEq_iff {n m : Nat} {kid kid' : Nat → Tm} : AEq n kid m kid' ↔ n = m ∧ ∀ k, k < n → TEq (kid k) (kid' k) := by
  constructor
  · intro h; exact ⟨(h 1).1, fun k hk => ⟨((h 1).2 k hk).1, fun d => ((h (d + 1)).2 k hk).2⟩⟩
  · rintro ⟨h1, h2⟩ d
    cases d with
    | zero => trivial
    | succ d => exact ⟨h1, fun k hk => ⟨(h2 k hk).1, (h2 k hk).2 d⟩⟩
/-- a list of terms that is read -/
structure Lp where
  A : Option Addr
  n : Nat
  c : Nat
  kid : Nat → Tm
def Lp.ok (w : World) (p : Lp) : Prop := p.n ≤ p.c ∧ p.c ≤ 9223372036854775807 ∧ KidT 0 w (.mk ⟨#[]⟩ p.n p.kid) p.A
def Lp.val (p : Lp) : Value := .slice p.A p.n p.c
/-- the place of a list that is not empty -/
def Lp.key (p : Lp) : Value := .agg #[.pointer p.A, .int .i64 p.n]
def LpEq (d : Nat) (p q : Lp) : Prop := EqL d p.n p.kid q.n q.kid
theorem read_same {w : World} : ∀ (d : Nat) {n : Nat} {kid kid' : Nat → Tm} {A : Option Addr}, KidT 0 w (.mk ⟨#[]⟩ n kid) A → KidT 0 w (.mk ⟨#[]⟩ n kid') A → EqL d n kid n kid' := by
  intro d
  induction d with
  | zero => intros; trivial
  | succ d ih =>
    intro n kid kid' A h h'
    refine ⟨rfl, fun k hk => ?_⟩
    rcases h with h | ⟨g, off, cs, rfl, _, hg, hc⟩
    · omega
    rcases h' with h' | ⟨g', off', cs', ha, _, hg', hc'⟩
    · omega
    injection ha with ha
    injection ha with e1 e2 _
    subst e1 e2
    rw [hg] at hg'
    injection hg' with hg'
    injection hg' with hg' _ _
    subst hg'
    obtain ⟨a, c, h0, h1, _, _, h2⟩ := hc k hk
    obtain ⟨a', c', h0', h1', _, _, h2'⟩ := hc' k hk
    rw [h0] at h0'
    rw [h1] at h1'
    injection h0' with h0'
    injection h0' with h0'
    injection h1' with h1'
    injection h1' with e3 e4 e5
    subst e3
    refine ⟨h0', ?_⟩
    have r : ∀ t : Tm, KidT 0 w t a → KidT 0 w (.mk ⟨#[]⟩ t.n t.kid) a := by
      intro t
      cases t with
      | bad => exact fun h => False.elim h
      | mk => exact id
    have r1 := r _ h2
    have r2 := r _ h2'
    generalize (kid' k).n = m at e4 r2 ⊢
    subst e4
    exact ih r1 r2
theorem Lp.same {w : World} {p q : Lp} (d : Nat) (hp : p.ok w) (hq : q.ok w) (h : p.key = q.key) : LpEq d p q := by
  obtain ⟨A, n, c, kid⟩ := p
  obtain ⟨B, m, c', kid'⟩ := q
  simp only [Lp.key, Value.agg.injEq, Array.mk.injEq, List.cons.injEq, Value.pointer.injEq, Value.int.injEq, and_true, true_and] at h
  obtain ⟨rfl, h2⟩ := h
  have h3 : n = m := by omega
  subst h3
  exact read_same d hp.2.2 hq.2.2
/-- a forest of places: each leads to one of a greater rank -/
structure Fst (w : World) (F : Value → Option Value) (rk : Value → Nat) (N : Nat) : Prop where
  le : ∀ k, rk k ≤ N
  lt : ∀ k v, F k = some v → rk k < rk v
  at_ : ∀ k v, F k = some v → ∃ p q : Lp, p.ok w ∧ q.ok w ∧ p.n ≠ 0 ∧ q.n ≠ 0 ∧ k = p.key ∧ v = q.key
/-- all that a forest joins is one, as far as d levels -/
def FEq (w : World) (F : Value → Option Value) (d : Nat) : Prop := ∀ p q : Lp, p.ok w → q.ok w → F p.key = some q.key → LpEq d p q
theorem Fst.put {w : World} {F F' : Value → Option Value} {rk : Value → Nat} {N : Nat} {p q : Lp} (h : Fst w F rk N) (hp : p.ok w) (hq : q.ok w) (hp0 : p.n ≠ 0) (hq0 : q.n ≠ 0) (hS : SetM F F' p.key q.key) (hlt : rk p.key < rk q.key) : Fst w F' rk N := by
  refine ⟨h.le, fun k v hk => ?_, fun k v hk => ?_⟩
  · by_cases e : k = p.key
    · subst e; rw [hS.same] at hk; injection hk with hk; rw [← hk]; exact hlt
    · rw [hS.other _ e] at hk; exact h.lt _ _ hk
  · by_cases e : k = p.key
    · subst e; rw [hS.same] at hk; injection hk with hk; exact ⟨p, q, hp, hq, hp0, hq0, rfl, hk.symm⟩
    · rw [hS.other _ e] at hk; exact h.at_ _ _ hk
theorem Fst.join {w : World} {F F' : Value → Option Value} {rk : Value → Nat} {N : Nat} {p q : Lp} (h : Fst w F rk N) (hp : p.ok w) (hq : q.ok w) (hp0 : p.n ≠ 0) (hq0 : q.n ≠ 0) (hS : SetM F F' p.key q.key) (hne : p.key ≠ q.key) (hF : F q.key = none) : ∃ rk', Fst w F' rk' (N + 1) := by
  classical
  refine ⟨fun x => if x = q.key then N + 1 else rk x, fun k => ?_, fun k v hk => ?_, fun k v hk => ?_⟩
  · by_cases e : k = q.key
    · simp [e]
    · simp only [if_neg e]; have := h.le k; omega
  · by_cases e : k = p.key
    · subst e
      rw [hS.same] at hk
      injection hk with hk
      subst hk
      show (if p.key = q.key then N + 1 else rk p.key) < (if q.key = q.key then N + 1 else rk q.key)
      rw [if_neg hne, if_pos rfl]
      have := h.le p.key; omega
    · rw [hS.other _ e] at hk
      have hkq : k ≠ q.key := fun e' => by rw [e', hF] at hk; cases hk
      have h1 := h.lt _ _ hk
      have h2 := h.le k
      simp only [if_neg hkq]
      by_cases e2 : v = q.key
      · simp only [if_pos e2]; omega
      · simp only [if_neg e2]; exact h1
  · by_cases e : k = p.key
    · subst e; rw [hS.same] at hk; injection hk with hk; exact ⟨p, q, hp, hq, hp0, hq0, rfl, hk.symm⟩
    · rw [hS.other _ e] at hk; exact h.at_ _ _ hk
theorem FEq.put {w : World} {F F' : Value → Option Value} {d : Nat} {p q : Lp} (h : FEq w F d) (hp : p.ok w) (hq : q.ok w) (hS : SetM F F' p.key q.key) (hpq : LpEq d p q) : FEq w F' d := by
  intro x y hx hy hf
  by_cases e : x.key = p.key
  · rw [e, hS.same] at hf
    injection hf with hf
    exact ((Lp.same d hx hp e).trans hpq).trans (Lp.same d hq hy hf)
  · rw [hS.other _ e] at hf; exact h x y hx hy hf
theorem FEq.unput {w : World} {F F' : Value → Option Value} {d : Nat} {p q : Lp} (h : FEq w F' d) (hp : p.ok w) (hq : q.ok w) (hS : SetM F F' p.key q.key) (hpq : ∀ r : Lp, r.ok w → F p.key = some r.key → LpEq d p r) : FEq w F d := by
  intro x y hx hy hf
  by_cases e : x.key = p.key
  · rw [e] at hf
    exact (Lp.same d hx hp e).trans (hpq y hy hf)
  · exact h x y hx hy (by rw [hS.other _ e]; exact hf)
end Go.Proofs.Ytanfljajafelgaa
