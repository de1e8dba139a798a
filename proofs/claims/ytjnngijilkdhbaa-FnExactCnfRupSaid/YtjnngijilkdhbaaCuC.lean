/- A unit propagation on its way, in memory, and what each write does to it. -/
import Derived.Test.YtjnngijilkdhbaaCuB
import Derived.Test.YtjnngijilkdhbaaCfC
import Derived.Test.YtjnngijilkdhbaaCcA
import Derived.Test.YtjnngijilkdhbaaPlanC
namespace Go.Proofs.Ytjnngijilkdhbaa
set_option linter.unusedVariables false
set_option linter.unusedSimpArgs false
open Go.RowKit
/-- what stays: the blocks of the rows, the clauses' slices -/
structure Pq where
  gc : Nat
  gd : Nat
  n : Nat
  N : Nat → Nat
  CA : Nat → Option Addr
  CC : Nat → Nat
/-- what turns -/
structure Ps where
  C : Nat → Nat → Int
  WV : Nat → Value
  Wl : Nat → List Nat
  due : Nat → Bool
  S : Nat → Int
  TV : Value
  T : List Int
def Pq.cv (k : Pq) (i : Nat) : Value := .slice (k.CA i) (k.N i) (k.CC i)
def prF (k : Pq) (s : Ps) : Nat → Value := fun j =>
  if j = 0 then .slice (some ⟨k.gc, 0, none⟩) k.n k.n else if j ≤ 121 then s.WV (j - 1) else if j = 122 then .slice (some ⟨k.gd, 0, none⟩) k.n k.n else if j ≤ 183 then .int .i64 (s.S (j - 123)) else s.TV
def valsN (l : List Nat) : List Value := l.map fun (i : Nat) => Value.int .i64 (i : Int)
def valsC (N : Nat) (c : Nat → Int) : List Value := (List.range N).map fun k => Value.int .i64 (c k)
theorem valsC_at {N j : Nat} {c : Nat → Int} (h : j < N) : (valsC N c)[j]? = some (.int .i64 (c j)) := by
  unfold valsC; rw [List.getElem?_map, List.getElem?_range h]; rfl
theorem valsC_len (N : Nat) (c : Nat → Int) : (valsC N c).length = N := by unfold valsC; rw [List.length_map, List.length_range]
theorem valsN_at {l : List Nat} {j i : Nat} (h : l[j]? = some i) : (valsN l)[j]? = some (.int .i64 (i : Int)) := by
  unfold valsN; rw [List.getElem?_map, h]; rfl
structure PrM (lo b : Nat) (k : Pq) (s : Ps) (w : World) : Prop where
  lob : lo ≤ b
  loc : lo ≤ k.gc
  lod : lo ≤ k.gd
  box : w.rowIs b 60 185 (prF k s)
  row : w.rowIs k.gc 71 k.n k.cv
  du : w.rowIs k.gd 4 k.n (fun i => .bool (s.due i))
  cl : ∀ i, i < k.n → w.ownsRow lo 52 1 (k.cv i) (k.N i) (valsC (k.N i) (s.C i))
  cne : ∀ i j g, i < k.n → j < k.n → i ≠ j → (k.cv i).ownBlock = some g → (k.cv j).ownBlock ≠ some g
  wl : ∀ p, p < 121 → w.ownsRow lo 3 1 (s.WV p) (s.Wl p).length (valsN (s.Wl p))
  wne : ∀ p q g, p < 121 → q < 121 → p ≠ q → (s.WV p).ownBlock = some g → (s.WV q).ownBlock ≠ some g
  tr : w.ownsRow lo 3 1 s.TV s.T.length (valsI s.T)
  tne : ∀ p g, p < 121 → (s.WV p).ownBlock = some g → s.TV.ownBlock ≠ some g
theorem own_ty {w : World} {base n size m g : Nat} {e t : TypeId} {v : Value} {xs : List Value} {f : Nat → Value} (h : w.ownsRow base e size v n xs) (hp : w.rowIs g t m f) (hv : v.ownBlock = some g) : e = t := by
  obtain ⟨cs, hcs, _⟩ := hp
  rcases h.2 with ⟨rfl, _⟩ | ⟨g', cap, cur, rfl, _, hh, _⟩
  · simp [Value.ownBlock] at hv
  · simp only [Value.ownBlock, Option.some.injEq] at hv
    subst hv
    rw [hh] at hcs
    injection hcs with hcs
    injection hcs with _ h _
theorem own_ty2 {w : World} {base n size base' n' size' g : Nat} {e t : TypeId} {v v' : Value} {xs xs' : List Value} (h : w.ownsRow base e size v n xs) (h' : w.ownsRow base' t size' v' n' xs') (hv : v.ownBlock = some g) (hv' : v'.ownBlock = some g) : e = t := by
  rcases h.2 with ⟨rfl, _⟩ | ⟨g1, cap, cur, rfl, _, hh, _⟩
  · simp [Value.ownBlock] at hv
  · simp only [Value.ownBlock, Option.some.injEq] at hv
    subst hv
    rcases h'.2 with ⟨rfl, _⟩ | ⟨g2, cap2, cur2, rfl, _, hh2, _⟩
    · simp [Value.ownBlock] at hv'
    · simp only [Value.ownBlock, Option.some.injEq] at hv'
      subst hv'
      rw [hh] at hh2
      injection hh2 with hh2
      injection hh2 with _ h _
theorem row_ty {w : World} {m m' g : Nat} {t t' : TypeId} {f f' : Nat → Value} (h : w.rowIs g t m f) (h' : w.rowIs g t' m' f') : t = t' := by
  obtain ⟨cs, hcs, _⟩ := h
  obtain ⟨cs', hcs', _⟩ := h'
  rw [hcs] at hcs'
  injection hcs' with hcs'
  injection hcs' with _ h _
theorem own_slot {w : World} {base n g : Nat} {e : TypeId} {v : Value} {xs : List Value} (h : w.ownsRow base e 1 v n xs) (hv : v.ownBlock = some g) : ∃ cap, v = .slice (some ⟨g, 0, none⟩) n cap := by
  rcases h.2 with ⟨rfl, _⟩ | ⟨g1, cap, cur, rfl, _⟩
  · simp [Value.ownBlock] at hv
  · simp only [Value.ownBlock, Option.some.injEq] at hv
    subst hv
    exact ⟨cap, rfl⟩
theorem own_belowU {w w' : World} {base n size : Nat} {e : TypeId} {v : Value} {xs : List Value} (hb : Below w.heap.size w w') (h : w.ownsRow base e size v n xs) : w'.ownsRow base e size v n xs := by
  refine ⟨h.1, ?_⟩
  rcases h.2 with hn | ⟨g, cap, cur, rfl, hb2, hgg, rest⟩
  · exact .inl hn
  · exact .inr ⟨g, cap, cur, rfl, hb2, (hb.block g (Array.getElem?_eq_some_iff.1 hgg).1).trans hgg, rest⟩
section
variable {lo b : Nat} {k : Pq} {s : Ps} {w w' : World}
theorem PrM.below (h : PrM lo b k s w) (hb : Below w.heap.size w w') : PrM lo b k s w' :=
  ⟨h.lob, h.loc, h.lod, row_below h.box hb, row_below h.row hb, row_below h.du hb, fun i hi => own_belowU hb (h.cl i hi), h.cne, fun p hp => own_belowU hb (h.wl p hp), h.wne, own_belowU hb h.tr, h.tne⟩
/-- the world grows, and one block that is none of the propagation's rows of clauses and flags may turn -/
theorem PrM.c0 (h : PrM lo b k s w) : w.cell? ⟨b, 0, none⟩ = some (.slice (some ⟨k.gc, 0, none⟩) k.n k.n) := h.box.cell (i := 0) (by decide)
theorem PrM.c122 (h : PrM lo b k s w) : w.cell? ⟨b, 122, none⟩ = some (.slice (some ⟨k.gd, 0, none⟩) k.n k.n) := h.box.cell (i := 122) (by decide)
theorem PrM.c184 (h : PrM lo b k s w) : w.cell? ⟨b, 184, none⟩ = some s.TV := h.box.cell (i := 184) (by decide)
theorem prF_w {p : Nat} (hp : p < 121) : prF k s (1 + p) = s.WV p := by
  unfold prF; rw [if_neg (by omega), if_pos (by omega), show 1 + p - 1 = p by omega]
theorem prF_s {v : Nat} (hv : v < 61) : prF k s (123 + v) = .int .i64 (s.S v) := by
  unfold prF; rw [if_neg (by omega), if_neg (by omega), if_neg (by omega), if_pos (by omega), show 123 + v - 123 = v by omega]
theorem PrM.cw (h : PrM lo b k s w) {p : Nat} (hp : p < 121) : w.cell? ⟨b, 1 + p, none⟩ = some (s.WV p) := by
  rw [← prF_w (k := k) hp]; exact h.box.cell (by omega)
theorem PrM.cs (h : PrM lo b k s w) {v : Nat} (hv : v < 61) : w.cell? ⟨b, 123 + v, none⟩ = some (.int .i64 (s.S v)) := by
  rw [← prF_s (k := k) hv]; exact h.box.cell (by omega)
theorem PrM.cc (h : PrM lo b k s w) {i : Nat} (hi : i < k.n) : w.cell? ⟨k.gc, i, none⟩ = some (.slice (k.CA i) (k.N i) (k.CC i)) := h.row.cell hi
theorem PrM.cd (h : PrM lo b k s w) {i : Nat} (hi : i < k.n) : w.cell? ⟨k.gd, i, none⟩ = some (.bool (s.due i)) := h.du.cell hi
theorem PrM.cg (h : PrM lo b k s w) {i : Nat} (hi : i < k.n) (hN : 0 < k.N i) : ∃ g, k.CA i = some ⟨g, 0, none⟩ ∧ g < w.heap.size ∧ lo ≤ g ∧ (k.cv i).ownBlock = some g ∧ (∀ j, j < k.N i → w.cell? ⟨g, j, none⟩ = some (.int .i64 (s.C i j))) ∧ ∀ j, w.frozen? ⟨g, j, none⟩ = false := by
  have h0 := h.cl i hi
  rcases h0.2 with ⟨_, e⟩ | ⟨g, cap, cur, e, hg, hh, _⟩
  · omega
  · have e0 := e
    unfold Pq.cv at e0
    injection e0 with e1 e2 e3
    refine ⟨g, e1, (Array.getElem?_eq_some_iff.1 hh).1, hg, by rw [e]; rfl, fun j hj => ?_, fun j => ?_⟩
    · rw [e] at h0
      exact (h0.cellAt j (by omega)).trans (valsC_at hj)
    · rw [e] at h0
      exact h0.frozenAt j
theorem PrM.box_ne (h : PrM lo b k s w) : b ≠ k.gc ∧ b ≠ k.gd ∧ k.gc ≠ k.gd :=
  ⟨fun e => by have h1 := h.box; rw [e] at h1; exact absurd (row_ty h1 h.row) (by decide), fun e => by have h1 := h.box; rw [e] at h1; exact absurd (row_ty h1 h.du) (by decide), fun e => by have h1 := h.row; rw [e] at h1; exact absurd (row_ty h1 h.du) (by decide)⟩
/-- a write into the propagation's own cells keeps all but the box -/
theorem PrM.setBox (h : PrM lo b k s w) {s' : Ps} {j : Nat} {v : Value} (hj : ∀ i, i < 185 → (if i = j then v else prF k s i) = prF k s' i) (hC : s'.C = s.C) (hd : s'.due = s.due)
    (hwl : ∀ p, p < 121 → (w.setCell ⟨b, j, none⟩ v).ownsRow lo 3 1 (s'.WV p) (s'.Wl p).length (valsN (s'.Wl p)))
    (hwne : ∀ p q g, p < 121 → q < 121 → p ≠ q → (s'.WV p).ownBlock = some g → (s'.WV q).ownBlock ≠ some g)
    (htr : (w.setCell ⟨b, j, none⟩ v).ownsRow lo 3 1 s'.TV s'.T.length (valsI s'.T))
    (htne : ∀ p g, p < 121 → (s'.WV p).ownBlock = some g → s'.TV.ownBlock ≠ some g) : PrM lo b k s' (w.setCell ⟨b, j, none⟩ v) := by
  obtain ⟨n1, n2, n3⟩ := h.box_ne
  refine ⟨h.lob, h.loc, h.lod, (h.box.set j v).congr hj, h.row.setOther (Ne.symm n1) v, by rw [hd]; exact h.du.setOther (Ne.symm n2) v, fun i hi => ?_, h.cne, hwl, hwne, htr, htne⟩
  rw [hC]
  exact (h.cl i hi).kept (grow_set w b j v) (.inr fun e => absurd (own_ty (h.cl i hi) h.box e) (by decide))
theorem PrM.keepBox (h : PrM lo b k s w) (j : Nat) (u : Value) {e : TypeId} {n size : Nat} {v : Value} {xs : List Value} (hv : w.ownsRow lo e size v n xs) (he : e ≠ 60) : (w.setCell ⟨b, j, none⟩ u).ownsRow lo e size v n xs :=
  hv.kept (grow_set w b j u) (.inr fun e' => he (own_ty hv h.box e'))
theorem PrM.setS (h : PrM lo b k s w) {v : Nat} (hv : v < 61) (x : Int) : PrM lo b k {s with S := fun u => if u = v then x else s.S u} (w.setCell ⟨b, 123 + v, none⟩ (.int .i64 x)) := by
  refine h.setBox (fun i hi => ?_) rfl rfl (fun p hp => h.keepBox _ _ (h.wl p hp) (by decide)) h.wne (h.keepBox _ _ h.tr (by decide)) h.tne
  unfold prF
  by_cases e : i = 123 + v
  · subst e
    rw [if_pos rfl, if_neg (by omega), if_neg (by omega), if_neg (by omega), if_pos (by omega), show 123 + v - 123 = v by omega]
    simp only [↓reduceIte]
  · rw [if_neg e]
    simp only
    split
    · rfl
    · split
      · rfl
      · split
        · rfl
        · split
          · rw [if_neg (by omega)]
          · rfl
/-- the row of numbers v was lengthened into v', in place or in a new block: the others stay -/
theorem PrM.keepW (h : PrM lo b k s w) {v : Value} {n : Nat} {xs : List Value} (hv : w.ownsRow lo 3 1 v n xs) (hg : w.grownBy w' v.ownBlock) :
    w'.rowIs b 60 185 (prF k s) ∧ w'.rowIs k.gc 71 k.n k.cv ∧ w'.rowIs k.gd 4 k.n (fun i => .bool (s.due i)) ∧ (∀ i, i < k.n → w'.ownsRow lo 52 1 (k.cv i) (k.N i) (valsC (k.N i) (s.C i))) := by
  have hr : ∀ {g : Nat} {t : TypeId} {m : Nat} {f : Nat → Value}, w.rowIs g t m f → 3 ≠ t → w'.rowIs g t m f := fun {g t m f} hx ht =>
    hx.of_block (hg.block g hx.lt fun e => ht (own_ty hv hx e.symm))
  exact ⟨hr h.box (by decide), hr h.row (by decide), hr h.du (by decide), fun i hi => (h.cl i hi).kept hg (by
    cases e : (k.cv i).ownBlock with
    | none => exact .inl rfl
    | some g => exact .inr fun e2 => absurd (own_ty2 (h.cl i hi) hv e e2.symm) (by decide))⟩
theorem PrM.push (h : PrM lo b k s w) {v' : Value} {x : Int} (hg : w.grownBy w' s.TV.ownBlock) (ho : w'.ownsRow lo 3 1 v' (s.T.length + 1) (valsI s.T ++ [.int .i64 x])) (hf : ∀ g, v'.ownBlock = some g → s.TV.ownBlock = some g ∨ w.heap.size ≤ g) :
    PrM lo b k {s with TV := v', T := s.T ++ [x]} (w'.setCell ⟨b, 184, none⟩ v') := by
  obtain ⟨k1, k2, k3, k4⟩ := h.keepW h.tr hg
  have hw : ∀ p, p < 121 → w'.ownsRow lo 3 1 (s.WV p) (s.Wl p).length (valsN (s.Wl p)) := fun p hp => (h.wl p hp).kept hg (by
    cases e : (s.WV p).ownBlock with
    | none => exact .inl rfl
    | some g => exact .inr fun e2 => h.tne p g hp e e2.symm)
  have ho' : w'.ownsRow lo 3 1 v' (s.T ++ [x]).length (valsI (s.T ++ [x])) := by
    have e2 : valsI (s.T ++ [x]) = valsI s.T ++ [.int .i64 x] := by unfold valsI; rw [List.map_append]; rfl
    rw [e2, List.length_append]; exact ho
  have hb := h.box_ne
  refine ⟨h.lob, h.loc, h.lod, (k1.set 184 v').congr fun i hi => ?_, k2.setOther (Ne.symm hb.1) v', k3.setOther (Ne.symm hb.2.1) v', fun i hi => (k4 i hi).kept (grow_set w' b 184 v') (.inr fun e => absurd (own_ty (k4 i hi) k1 e) (by decide)), h.cne,
    fun p hp => (hw p hp).kept (grow_set w' b 184 v') (.inr fun e => absurd (own_ty (hw p hp) k1 e) (by decide)), h.wne, ho'.kept (grow_set w' b 184 v') (.inr fun e => absurd (own_ty ho' k1 e) (by decide)), fun p g hp e e2 => ?_⟩
  · unfold prF
    by_cases e : i = 184
    · subst e; rfl
    · rw [if_neg e]
      simp only
      by_cases e3 : i ≤ 183
      · rw [if_pos e3]
        split
        · rfl
        · split
          · rfl
          · split <;> rfl
      · omega
  · rcases hf g e2 with e3 | e3
    · exact h.tne p g hp e e3
    · have := ((h.wl p hp).lt g e).2; omega
/-- clause i watches the literal of place p too -/
theorem PrM.watch (h : PrM lo b k s w) {v' : Value} {p i : Nat} (hp : p < 121) (hg : w.grownBy w' (s.WV p).ownBlock) (ho : w'.ownsRow lo 3 1 v' ((s.Wl p).length + 1) (valsN (s.Wl p) ++ [.int .i64 (i : Int)])) (hf : ∀ g, v'.ownBlock = some g → (s.WV p).ownBlock = some g ∨ w.heap.size ≤ g) :
    PrM lo b k {s with WV := fun q => if q = p then v' else s.WV q, Wl := fun q => if q = p then s.Wl p ++ [i] else s.Wl q} (w'.setCell ⟨b, 1 + p, none⟩ v') := by
  obtain ⟨k1, k2, k3, k4⟩ := h.keepW (h.wl p hp) hg
  have hw : ∀ q, q < 121 → q ≠ p → w'.ownsRow lo 3 1 (s.WV q) (s.Wl q).length (valsN (s.Wl q)) := fun q hq hne => (h.wl q hq).kept hg (by
    cases e : (s.WV q).ownBlock with
    | none => exact .inl rfl
    | some g => exact .inr fun e2 => h.wne q p g hq hp hne e e2.symm)
  have htr : w'.ownsRow lo 3 1 s.TV s.T.length (valsI s.T) := h.tr.kept hg (by
    cases e : s.TV.ownBlock with
    | none => exact .inl rfl
    | some g => exact .inr fun e2 => h.tne p g hp e2.symm e)
  have ho' : w'.ownsRow lo 3 1 v' (s.Wl p ++ [i]).length (valsN (s.Wl p ++ [i])) := by
    have e2 : valsN (s.Wl p ++ [i]) = valsN (s.Wl p) ++ [.int .i64 (i : Int)] := by unfold valsN; rw [List.map_append]; rfl
    rw [e2, List.length_append]; exact ho
  have hb := h.box_ne
  refine ⟨h.lob, h.loc, h.lod, (k1.set (1 + p) v').congr fun j hj => ?_, k2.setOther (Ne.symm hb.1) v', k3.setOther (Ne.symm hb.2.1) v', fun j hj => (k4 j hj).kept (grow_set w' b (1 + p) v') (.inr fun e => absurd (own_ty (k4 j hj) k1 e) (by decide)), h.cne,
    fun q hq => ?_, fun q q' g hq hq' hne e e2 => ?_, htr.kept (grow_set w' b (1 + p) v') (.inr fun e => absurd (own_ty htr k1 e) (by decide)), fun q g hq e e2 => ?_⟩
  · unfold prF
    simp only
    by_cases e : j = 1 + p
    · subst e
      rw [if_pos rfl, if_neg (by omega), if_pos (by omega), if_pos (by omega)]
    · rw [if_neg e]
      split
      · rfl
      · split
        · rw [if_neg (by omega)]
        · rfl
  · simp only
    by_cases e : q = p
    · rw [if_pos e, if_pos e]
      exact ho'.kept (grow_set w' b (1 + p) v') (.inr fun e => absurd (own_ty ho' k1 e) (by decide))
    · rw [if_neg e, if_neg e]
      exact (hw q hq e).kept (grow_set w' b (1 + p) v') (.inr fun e2 => absurd (own_ty (hw q hq e) k1 e2) (by decide))
  · simp only at e e2
    by_cases e3 : q = p
    · rw [if_pos e3] at e
      rw [if_neg (by omega)] at e2
      rcases hf g e with e4 | e4
      · exact h.wne p q' g hp hq' (by omega) e4 e2
      · have := ((h.wl q' hq').lt g e2).2; omega
    · rw [if_neg e3] at e
      by_cases e5 : q' = p
      · rw [if_pos e5] at e2
        rcases hf g e2 with e4 | e4
        · exact h.wne q p g hq hp e3 e e4
        · have := ((h.wl q hq).lt g e).2; omega
      · rw [if_neg e5] at e2
        exact h.wne q q' g hq hq' hne e e2
  · simp only at e e2
    by_cases e3 : q = p
    · rw [if_pos e3] at e
      rcases hf g e with e4 | e4
      · exact h.tne p g hp e4 e2
      · have := (h.tr.lt g e2).2; omega
    · rw [if_neg e3] at e
      exact h.tne q g hq e e2
theorem own_setU {base n g j : Nat} {e : TypeId} {v u : Value} {xs : List Value} (h : w.ownsRow base e 1 v n xs) (hv : v.ownBlock = some g) (hj : j < n) : (w.setCell ⟨g, j, none⟩ u).ownsRow base e 1 v n (xs.set j u) := by
  obtain ⟨cap, rfl⟩ := own_slot h hv
  exact (h.stored j u).1
theorem valsC_set {N j : Nat} {c : Nat → Int} {x : Int} (hj : j < N) : (valsC N c).set j (.int .i64 x) = valsC N (fun t => if t = j then x else c t) := by
  apply List.ext_getElem?
  intro i
  by_cases hi : i < N
  · rw [valsC_at hi, List.getElem?_set, valsC_at hi]
    by_cases e : j = i
    · subst e
      rw [if_pos rfl, if_pos (by rw [valsC_len]; exact hj), if_pos rfl]
    · rw [if_neg e, if_neg (Ne.symm e)]
  · rw [List.getElem?_eq_none (by rw [List.length_set, valsC_len]; omega), List.getElem?_eq_none (by rw [valsC_len]; omega)]
/-- a literal of a clause is written -/
theorem PrM.setC (h : PrM lo b k s w) {i j g : Nat} (hi : i < k.n) (hj : j < k.N i) (hg : (k.cv i).ownBlock = some g) (x : Int) :
    PrM lo b k {s with C := fun i' => if i' = i then (fun t => if t = j then x else s.C i t) else s.C i'} (w.setCell ⟨g, j, none⟩ (.int .i64 x)) := by
  have hr : ∀ {g' : Nat} {t : TypeId} {m : Nat} {f : Nat → Value}, w.rowIs g' t m f → 52 ≠ t → (w.setCell ⟨g, j, none⟩ (.int .i64 x)).rowIs g' t m f := fun {g' t m f} hx ht =>
    hx.setOther (fun e => ht (own_ty (h.cl i hi) hx (hg.trans (congrArg some e.symm)))) _
  have ho : ∀ {v : Value} {m : Nat} {xs : List Value}, w.ownsRow lo 3 1 v m xs → (w.setCell ⟨g, j, none⟩ (.int .i64 x)).ownsRow lo 3 1 v m xs := fun {v m xs} hx =>
    hx.kept (grow_set w g j _) (.inr fun e => absurd (own_ty2 hx (h.cl i hi) e hg) (by decide))
  refine ⟨h.lob, h.loc, h.lod, hr h.box (by decide), hr h.row (by decide), hr h.du (by decide), fun i' hi' => ?_, h.cne, fun p hp => ho (h.wl p hp), h.wne, ho h.tr, h.tne⟩
  simp only
  by_cases e : i' = i
  · subst e
    rw [if_pos rfl, ← valsC_set hj]
    exact own_setU (h.cl i' hi') hg hj
  · rw [if_neg e]
    exact (h.cl i' hi').kept (grow_set w g j _) (.inr (h.cne i i' g hi hi' (Ne.symm e) hg))
theorem PrM.setD (h : PrM lo b k s w) (i : Nat) (d : Bool) : PrM lo b k {s with due := fun i' => if i' = i then d else s.due i'} (w.setCell ⟨k.gd, i, none⟩ (.bool d)) := by
  obtain ⟨n1, n2, n3⟩ := h.box_ne
  have ho : ∀ {e : TypeId} {v : Value} {m : Nat} {xs : List Value}, w.ownsRow lo e 1 v m xs → e ≠ 4 → (w.setCell ⟨k.gd, i, none⟩ (.bool d)).ownsRow lo e 1 v m xs := fun {e v m xs} hx he =>
    hx.kept (grow_set w k.gd i _) (.inr fun e' => he (own_ty hx h.du e'))
  refine ⟨h.lob, h.loc, h.lod, h.box.setOther n2 _, h.row.setOther n3 _, (h.du.set i (.bool d)).congr fun j hj => ?_, fun i' hi' => ho (h.cl i' hi') (by decide), h.cne, fun p hp => ho (h.wl p hp) (by decide), h.wne, ho h.tr (by decide), h.tne⟩
  simp only
  split <;> rfl
end
end Go.Proofs.Ytjnngijilkdhbaa
