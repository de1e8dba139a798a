/- The parts of terms, each once: plain mathematics; the shapes of a table; keys that are shapes. -/
import Derived.Test.YtanfljajafelgaaTsW
namespace Go.Proofs.Ytanfljajafelgaa
set_option linter.unusedVariables false
set_option linter.unusedSimpArgs false
open Go.RowKit
/-- one behind the other -/
def AddK (R : Nat → List Tm → List Tm → Prop) : Nat → List Tm → List Tm → Prop
  | 0, P, Q => P = Q
  | k + 1, P, Q => ∃ X, AddK R k P X ∧ R k X Q
/-- Q is P with all parts of a term that are not there, parts ahead of what they are parts of -/
def AddT : Tm → List Tm → List Tm → Prop
  | .mk nm n kid, P, Q => ∃ X, AddK (fun k => AddT (kid k)) n P X ∧ (((∃ u ∈ X, TEq u (.mk nm n kid)) ∧ Q = X) ∨ ((¬ ∃ u ∈ X, TEq u (.mk nm n kid)) ∧ Q = X ++ [.mk nm n kid]))
  | .bad, _, _ => False
theorem addK_fun {R : Nat → List Tm → List Tm → Prop} : ∀ {n : Nat} {P Q Q' : List Tm}, (∀ k, k < n → ∀ P Q Q', R k P Q → R k P Q' → Q = Q') → AddK R n P Q → AddK R n P Q' → Q = Q'
  | 0, _, _, _, _, h, h' => h.symm.trans h'
  | n + 1, P, Q, Q', hR, ⟨X, h1, h2⟩, ⟨X', h1', h2'⟩ => by
    have : X = X' := addK_fun (fun k hk => hR k (by omega)) h1 h1'
    subst this
    exact hR n (by omega) _ _ _ h2 h2'
theorem addT_fun : ∀ {t : Tm} {P Q Q' : List Tm}, AddT t P Q → AddT t P Q' → Q = Q' := by
  intro t
  induction t with
  | bad => intro P Q Q' h; exact False.elim h
  | mk nm n kid ih =>
    rintro P Q Q' ⟨X, h1, h2⟩ ⟨X', h1', h2'⟩
    have : X = X' := addK_fun (R := fun k => AddT (kid k)) (fun k _ P Q Q' h h' => ih k h h') h1 h1'
    subst this
    rcases h2 with ⟨h2, rfl⟩ | ⟨h2, rfl⟩ <;> rcases h2' with ⟨h2', rfl⟩ | ⟨h2', rfl⟩
    · rfl
    · exact absurd h2 h2'
    · exact absurd h2' h2
    · rfl
/-- a term whose parts are given by their numbers -/
structure Sh where
  nm : ByteArray
  a : Nat
  b : Nat
  c : Nat
instance shInhabited : Inhabited Sh := ⟨⟨⟨#[]⟩, 0, 0, 0⟩⟩
instance tmInhabited : Inhabited Tm := ⟨.bad⟩
def Sh.kid (s : Sh) (j : Nat) : Nat := if j = 0 then s.a else s.b
def Sh.key (s : Sh) : Value := .agg #[.string s.nm, .int .i64 s.a, .int .i64 s.b, .int .i64 s.c]
def Sh.cells (s : Sh) : List Value := [.string s.nm, .int .i64 s.a, .int .i64 s.b, .int .i64 s.c]
def flatS : List Sh → List Value
  | [] => []
  | s :: r => s.cells ++ flatS r
theorem flatS_app : ∀ S T : List Sh, flatS (S ++ T) = flatS S ++ flatS T
  | [], _ => rfl
  | s :: r, T => by simp [flatS, flatS_app r T]
theorem flatS_len : ∀ S : List Sh, (flatS S).length = S.length * 4
  | [] => rfl
  | s :: r => by simp [flatS, flatS_len r, Sh.cells]; omega
theorem Sh.ext' {s t : Sh} (h0 : s.nm = t.nm) (h1 : s.a = t.a) (h2 : s.b = t.b) (h3 : s.c = t.c) : s = t := by
  cases s; cases t; simp only at h0 h1 h2 h3; subst h0 h1 h2 h3; rfl
theorem Sh.key_inj {s t : Sh} (h : s.key = t.key) : s = t := by
  simp only [Sh.key, Value.agg.injEq, Array.mk.injEq, List.cons.injEq, Value.string.injEq, Value.int.injEq, and_true, true_and] at h
  exact Sh.ext' h.1 (by omega) (by omega) (by omega)
/-- the shape s tells the term t, whose parts are among P -/
def ShAt (P : List Tm) (s : Sh) (t : Tm) (m : Nat) : Prop :=
  s.nm = t.nm ∧ s.c = t.n ∧ t.n ≤ 2 ∧ (∀ j, j < t.n → s.kid j < m ∧ TEq (P.getD (s.kid j) default) (t.kid j)) ∧ ∀ j, t.n ≤ j → j < 2 → s.kid j = 0
structure ShOk (S : List Sh) (P : List Tm) : Prop where
  len : S.length = P.length
  at_ : ∀ i, i < P.length → ShAt P (S.getD i default) (P.getD i default) i
  dis : ∀ i j, i < P.length → j < P.length → TEq (P.getD i default) (P.getD j default) → i = j
theorem ShOk.same {S : List Sh} {P : List Tm} (h : ShOk S P) {s : Sh} {t : Tm} (hs : ShAt P s t P.length) {i : Nat} (hi : i < P.length) : S.getD i default = s ↔ TEq (P.getD i default) t := by
  obtain ⟨a0, a1, a2, a3, a4⟩ := h.at_ i hi
  obtain ⟨b0, b1, b2, b3, b4⟩ := hs
  constructor
  · intro e
    rw [e] at a0 a1 a3
    have hn : (P.getD i default).n = t.n := a1.symm.trans b1
    exact tEq_iff.2 ⟨a0.symm.trans b0, hn, fun k hk => (a3 k hk).2.symm.trans (b3 k (by omega)).2⟩
  · intro e
    obtain ⟨e0, e1, e2⟩ := tEq_iff.1 e
    have hk : ∀ j, j < 2 → (S.getD i default).kid j = s.kid j := fun j hj => by
      by_cases hjn : j < t.n
      · obtain ⟨c1, c2⟩ := a3 j (by omega)
        obtain ⟨d1, d2⟩ := b3 j hjn
        exact h.dis _ _ (by omega) d1 ((c2.trans (e2 j (by omega))).trans d2.symm)
      · rw [a4 j (by omega) hj, b4 j (by omega) hj]
    have k0 := hk 0 (by omega)
    have k1 := hk 1 (by omega)
    simp only [Sh.kid] at k0 k1
    exact Sh.ext' (a0.trans (e0.trans b0.symm)) (by simpa using k0) (by simpa using k1) (a1.trans (e1.trans b1.symm))
theorem getD_app_left {α : Type} [Inhabited α] {L M : List α} {i : Nat} (h : i < L.length) : (L ++ M).getD i default = L.getD i default := by
  simp [List.getD_eq_getElem?_getD, List.getElem?_append_left h]
theorem getD_app_new {α : Type} [Inhabited α] {L : List α} {x : α} : (L ++ [x]).getD L.length default = x := by
  simp [List.getD_eq_getElem?_getD]
theorem ShAt.app {P X : List Tm} {s : Sh} {t : Tm} {m : Nat} (hm : m ≤ P.length) (h : ShAt P s t m) : ShAt (P ++ X) s t m := by
  obtain ⟨a0, a1, a2, a3, a4⟩ := h
  refine ⟨a0, a1, a2, fun j hj => ⟨(a3 j hj).1, ?_⟩, a4⟩
  rw [getD_app_left (by have := (a3 j hj).1; omega)]
  exact (a3 j hj).2
theorem ShOk.push {S : List Sh} {P : List Tm} (h : ShOk S P) {s : Sh} {t : Tm} (hs : ShAt P s t P.length) (hn : ∀ i, i < P.length → ¬ TEq (P.getD i default) t) : ShOk (S ++ [s]) (P ++ [t]) := by
  refine ⟨by simp [h.len], fun i hi => ?_, fun i j hi hj he => ?_⟩
  · rw [List.length_append] at hi
    simp only [List.length_cons, List.length_nil] at hi
    by_cases e : i < P.length
    · rw [getD_app_left (by rw [h.len]; exact e), getD_app_left e]
      exact (h.at_ i e).app (by omega)
    · have : i = P.length := by omega
      subst this
      rw [getD_app_new]
      have h2 : (S ++ [s]).getD P.length default = s := by rw [← h.len]; exact getD_app_new
      rw [h2]
      exact hs.app (Nat.le_refl _)
  · rw [List.length_append] at hi hj
    simp only [List.length_cons, List.length_nil] at hi hj
    by_cases e : i < P.length
    · rw [getD_app_left e] at he
      by_cases e' : j < P.length
      · rw [getD_app_left e'] at he; exact h.dis i j e e' he
      · have : j = P.length := by omega
        subst this
        rw [getD_app_new] at he
        exact absurd he (hn i e)
    · have : i = P.length := by omega
      subst this
      rw [getD_app_new] at he
      by_cases e' : j < P.length
      · rw [getD_app_left e'] at he; exact absurd he.symm (hn j e')
      · omega
theorem infoSh : (Try.prog.info? 280).map (fun i => (i.zero, i.size, i.bytes)) = some (some (.agg #[.string ⟨#[]⟩, .int .i64 0, .int .i64 0, .int .i64 0]), 4, 40) := by kernel_rfl
def ShK (v : Value) : Prop := ∃ s : Sh, v = s.key
theorem eq_arr2 (d : Nat) (x0 x1 y0 y1 : Int) (w : World) : (Op.equalIn (d + 2) 278 (.agg #[.int .i64 x0, .int .i64 x1]) (.agg #[.int .i64 y0, .int .i64 y1])).run Try.prog w = .ok (decide (x0 = y0 ∧ x1 = y1)) w := by
  have u3 := Try.underlying3
  have a3 := Try.isAgg3
  have z3 := Try.sizeOf3
  rw [Op.equalIn]
  simp only [Sem.run_bind, run_underlying Try.underlying278, Result.andThen_ok]
  simp only [Std.Legacy.Range.forIn_eq_forIn_range', Std.Legacy.Range.size, Nat.sub_zero, Nat.add_sub_cancel, Nat.div_one, List.range'_succ, List.range'_zero, List.forIn_cons, List.forIn_nil]
  by_cases h0 : x0 = y0 <;> by_cases h1 : x1 = y1 <;> simp [go_sem, u3, a3, z3, h0, h1]
theorem keyM_sh : KeyM Try.prog 280 (fun _ => True) ShK where
  kind := ⟨_, Try.underlying280, fun a b => by cases a <;> cases b <;> rfl⟩
  check := by
    rintro e k w ⟨s, rfl⟩
    have a3 := Try.isAgg3
    have z3 := Try.sizeOf3
    have a9 := Try.isAgg9
    have a2 := Try.isAgg278
    have z2 := Try.sizeOf278
    have h : ∀ d, (Instr.checkKey e (d + 3) 280 s.key).run Try.prog w = .ok () w := by
      intro d
      simp [go_sem, Sh.key, Instr.checkKey, run_underlying Try.underlying280, run_underlying Try.underlying278, run_underlying Try.underlying9, run_underlying Try.underlying3, part, a3, z3, a9, a2, z2, Result.andThen, List.range', List.forIn_cons, List.forIn_nil]
    exact h 9997
  eql := by
    rintro a b w _ ⟨s, rfl⟩ ⟨t, rfl⟩
    have a3 := Try.isAgg3
    have a9 := Try.isAgg9
    have a2 := Try.isAgg278
    have z2 := Try.sizeOf278
    have h2 := fun d => eq_arr2 d s.a s.b t.a t.b w
    have hq : ∀ d, (Op.equalIn (d + 3) 280 s.key t.key).run Try.prog w = .ok (decide (s.nm = t.nm ∧ s.a = t.a ∧ s.b = t.b ∧ s.c = t.c)) w := by
      intro d
      have h4 := run_equalIn_int (P := Try.prog) w (d + 1) 3 .i64 .i64 s.c t.c Try.underlying3
      have h9 := run_equalIn_string (P := Try.prog) w (d + 1) 9 s.nm t.nm Try.underlying9
      unfold Sh.key
      rw [run_equalIn_struct w (d + 2) 280 _ _ (by simp [Program.fieldsOf, Try.underlying280]) (by kernel_rfl)]
      have hd := h2 d
      rw [nm_beq] at h9
      have e1 : ((s.a : Int) = t.a ∧ (s.b : Int) = t.b) ↔ (s.a = t.a ∧ s.b = t.b) := by omega
      have e2 : ((s.c : Int) == t.c) = decide (s.c = t.c) := by rw [Bool.eq_iff_iff]; simp; omega
      simp only [e1] at hd
      rw [e2] at h4
      simp [go_sem, Program.fieldsOf, Try.underlying280, Op.eqFields, part, a3, a9, a2, z2, hd, h4, h9, Result.andThen]
      by_cases x0 : s.nm = t.nm <;> by_cases x1 : s.a = t.a <;> by_cases x3 : s.b = t.b <;> by_cases x2 : s.c = t.c <;> simp [x0, x1, x2, x3]
    refine ⟨_, hq 9997, ?_⟩
    rw [decide_eq_true_iff]
    exact ⟨fun ⟨h0, h1, h2, h3⟩ => by rw [Sh.ext' h0 h1 h2 h3], fun h => by have := Sh.key_inj h; subst this; exact ⟨rfl, rfl, rfl, rfl⟩⟩
  stay := by
    rintro a ⟨s, rfl⟩
    simp [Instr.sameBits, Sh.key, MapKept.bytes_beq]
end Go.Proofs.Ytanfljajafelgaa
