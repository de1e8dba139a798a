/- Contract of the program's AtomSame. -/
import Derived.Test.YtcnlolocppbcjaaAtB
import Derived.Test.YtcnlolocppbcjaaBI
namespace Go.Proofs.Ytcnlolocppbcjaa
set_option linter.unusedVariables false
set_option linter.unusedSimpArgs false
open Go.RowKit
/-- two atoms are one -/
def AtEq (x y : At) : Prop := x.kd = y.kd ∧ TEq x.a y.a ∧ TEq x.b y.b ∧ (x.n = y.n ∧ ∀ k, k < x.n → TEq (x.kid k) (y.kid k)) ∧ (x.m = y.m ∧ ∀ k, k < x.m → x.Z k = y.Z k) ∧ x.bd = y.bd ∧ x.st = y.st
theorem ateq_bool (x y : At) : ∃ b : Bool, b = true ↔ AtEq x y := by
  classical
  exact ⟨decide (AtEq x y), by simp⟩
/-- the terms of an atom, one behind the other -/
def kid2 (x : At) (i : Nat) : Tm := if i = 0 then x.a else if i = 1 then x.b else x.kid (i - 2)
theorem sumT_kid2 (x : At) : ∀ n, sumT (n + 2) (fun k => tSz (kid2 x k)) = tSz x.a + tSz x.b + sumT n (fun k => tSz (x.kid k))
  | 0 => by simp [sumT, kid2]
  | n + 1 => by
    have ih := sumT_kid2 x n
    rw [show n + 1 + 2 = (n + 2) + 1 by omega, sumT, ih, sumT]
    have : kid2 x (n + 2) = x.kid n := by unfold kid2; rw [if_neg (by omega), if_neg (by omega)]; simp
    rw [this]; omega
theorem teq2 (x y : At) : TEq (.mk ⟨#[]⟩ (x.n + 2) (kid2 x)) (.mk ⟨#[]⟩ (y.n + 2) (kid2 y)) ↔ TEq x.a y.a ∧ TEq x.b y.b ∧ x.n = y.n ∧ ∀ k, k < x.n → TEq (x.kid k) (y.kid k) := by
  rw [tEq_iff]
  constructor
  · rintro ⟨_, h1, h2⟩
    have h1' : x.n + 2 = y.n + 2 := h1
    refine ⟨h2 0 (by show 0 < x.n + 2; omega), h2 1 (by show 1 < x.n + 2; omega), by omega, fun k hk => ?_⟩
    have := h2 (k + 2) (by show k + 2 < x.n + 2; omega)
    simpa [Tm.kid, kid2] using this
  · rintro ⟨h1, h2, h3, h4⟩
    refine ⟨rfl, by show x.n + 2 = y.n + 2; omega, fun k hk => ?_⟩
    have hk' : k < x.n + 2 := hk
    show TEq (kid2 x k) (kid2 y k)
    unfold kid2
    by_cases e0 : k = 0
    · rw [if_pos e0, if_pos e0]; exact h1
    · rw [if_neg e0, if_neg e0]
      by_cases e1 : k = 1
      · rw [if_pos e1, if_pos e1]; exact h2
      · rw [if_neg e1, if_neg e1]; exact h4 _ (by omega)
def tmV (f : Nat → Option Addr × Nat) (kid : Nat → Tm) (j : Nat) : Value := if j % 2 = 0 then .string (kid (j / 2)).nm else .slice (f (j / 2)).1 (kid (j / 2)).n (f (j / 2)).2
theorem own_kidt {w : World} {base n : Nat} {v : Value} {xs : List Value} {kid : Nat → Tm} {f : Nat → Option Addr × Nat} (h : w.ownsRow base 38 2 v n xs) (h0 : ∀ k, k < n → xs[k * 2]? = some (.string (kid k).nm) ∧ xs[k * 2 + 1]? = some (.slice (f k).1 (kid k).n (f k).2) ∧ (kid k).n ≤ (f k).2 ∧ (f k).2 ≤ 9223372036854775807 ∧ KidT 0 w (kid k) (f k).1) :
    ∃ A c, v = .slice A n c ∧ n ≤ c ∧ c ≤ 9223372036854775807 ∧ KidT 0 w (.mk ⟨#[]⟩ n kid) A := by
  obtain ⟨hl, ⟨rfl, rfl⟩ | ⟨g, cap, cur, rfl, hg, hh, h1, h2, h3, h4⟩⟩ := h
  · exact ⟨none, 0, rfl, Nat.le_refl _, by omega, .inl rfl⟩
  · refine ⟨_, cap, rfl, h1, by unfold maxLen at h2; omega, .inr ⟨g, 0, cur, rfl, Nat.zero_le _, hh, fun k hk => ?_⟩⟩
    obtain ⟨e0, e1, e2, e3, e4⟩ := h0 k hk
    rw [← h4, List.getElem?_take_of_lt (by omega), Array.getElem?_toList] at e0
    rw [← h4, List.getElem?_take_of_lt (by omega), Array.getElem?_toList] at e1
    exact ⟨(f k).1, (f k).2, by rw [Nat.zero_add]; exact e0, by rw [Nat.zero_add]; exact e1, e2, e3, e4⟩
/-- the cells of the further terms -/
theorem nums_read {w : World} {n g : Nat} {kid : Nat → Tm} (h : KidT 0 w (.mk ⟨#[]⟩ n kid) (some ⟨g, 0, none⟩)) : ∃ f : Nat → Option Addr × Nat, (∀ j u, ((List.range (n * 2)).map (tmV f kid))[j]? = some u → w.cell? ((⟨g, 0, none⟩ : Addr).add j) = some u) ∧ ∀ k, k < n → (kid k).n ≤ (f k).2 ∧ (f k).2 ≤ 9223372036854775807 ∧ KidT 0 w (kid k) (f k).1 := by
  rcases h with rfl | ⟨g', off, cs, ha, _, hg, hc⟩
  · exact ⟨fun _ => (none, 0), fun j u h => by simp at h, fun k hk => absurd hk (by omega)⟩
  · injection ha with ha
    injection ha with e1 e2 _
    subst e1 e2
    obtain ⟨f, hf⟩ := Go.Deep.choose_lt (p := fun k (r : Option Addr × Nat) => cs[0 + k * 2]? = some (.string (kid k).nm) ∧ cs[0 + k * 2 + 1]? = some (.slice r.1 (kid k).n r.2) ∧ (kid k).n ≤ r.2 ∧ r.2 ≤ 9223372036854775807 ∧ KidT 0 w (kid k) r.1) (n := n) (fun k hk => by
      obtain ⟨a, c, h0, h1, h2, h3, h4⟩ := hc k hk
      exact ⟨(a, c), h0, h1, h2, h3, h4⟩)
    refine ⟨f, fun j u h => ?_, fun k hk => (hf k hk).2.2⟩
    have hj : j < n * 2 := by
      have := (List.getElem?_eq_some_iff.1 h).1
      simpa using this
    simp [hj] at h
    subst h
    obtain ⟨h0, h1, _⟩ := hf (j / 2) (by omega)
    have hadd : (⟨g, 0, none⟩ : Addr).add j = ⟨g, j, none⟩ := by
      by_cases e : j = 0
      · subst e; rfl
      · simp [Addr.add, e]
    rw [hadd]
    unfold tmV
    by_cases e : j % 2 = 0
    · rw [if_pos e]
      have : 0 + j / 2 * 2 = j := by omega
      rw [this] at h0
      simp [World.cell?, hg, h0]
    · rw [if_neg e]
      have : 0 + j / 2 * 2 + 1 = j := by omega
      rw [this] at h1
      simp [World.cell?, hg, h1]
theorem own_new2 (w : World) (x0 x1 x2 x3 : Value) : (w.alloc (.cells #[x0, x1, x2, x3] 38)).ownsRow w.heap.size 38 2 (.slice (some ⟨w.heap.size, 0, none⟩) 2 2) 2 [x0, x1, x2, x3] :=
  ⟨rfl, .inr ⟨w.heap.size, 2, _, rfl, Nat.le_refl _, (MapKept.heap_alloc w _).1, Nat.le_refl _, by unfold maxLen; omega, rfl, rfl⟩⟩
theorem all_read {x : At} {A1 A2 : Option Addr} {c1 c2 : Nat} {f : Nat → Option Addr × Nat} : ∀ k, k < x.n + 2 →
    ([.string x.a.nm, .slice A1 x.a.n c1, .string x.b.nm, .slice A2 x.b.n c2] ++ (List.range (x.n * 2)).map (tmV f x.kid) : List Value)[k * 2]? = some (.string (kid2 x k).nm) ∧
    ([.string x.a.nm, .slice A1 x.a.n c1, .string x.b.nm, .slice A2 x.b.n c2] ++ (List.range (x.n * 2)).map (tmV f x.kid) : List Value)[k * 2 + 1]? = some (.slice (if k = 0 then (A1, c1) else if k = 1 then (A2, c2) else f (k - 2)).1 (kid2 x k).n (if k = 0 then (A1, c1) else if k = 1 then (A2, c2) else f (k - 2)).2) := by
  intro k hk
  match k with
  | 0 => exact ⟨rfl, rfl⟩
  | 1 => exact ⟨rfl, rfl⟩
  | k + 2 =>
    have e1 : (k + 2) * 2 = k * 2 + 4 := by omega
    have hk' : k < x.n := by omega
    constructor
    · rw [e1, List.getElem?_append_right (by simp)]
      have : k * 2 < x.n * 2 := by omega
      simp [this, tmV, kid2]
    · rw [e1, List.getElem?_append_right (by simp)]
      have : k * 2 + 1 < x.n * 2 := by omega
      have h2 : (k * 2 + 1) / 2 = k := by omega
      have h3 : (k * 2 + 4 + 1 - 4) = k * 2 + 1 := by omega
      simp [h3, this, tmV, kid2, h2]
end Go.Proofs.Ytcnlolocppbcjaa
