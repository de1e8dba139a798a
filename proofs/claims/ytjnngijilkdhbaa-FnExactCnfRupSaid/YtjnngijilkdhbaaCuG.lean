/- newPropagation: what is laid out of clauses. -/
import Derived.Test.YtjnngijilkdhbaaCuF
namespace Go.Proofs.Ytjnngijilkdhbaa
set_option linter.unusedVariables false
set_option linter.unusedSimpArgs false
open Go.RowKit
theorem valsC_push (N : Nat) (c : Nat → Int) (x : Int) : valsC (N + 1) (fun t => if t = N then x else c t) = valsC N c ++ [.int .i64 x] := by
  unfold valsC
  rw [List.range_succ, List.map_append]
  congr 1
  · apply List.map_congr_left
    intro t ht
    have := List.mem_range.1 ht
    simp only
    rw [if_neg (by omega)]
  · simp
section
variable {lo b : Nat} {k : Pq} {s : Ps} {w w' : World}
theorem PrM.pushC (h : PrM lo b k s w) {a : Option Addr} {c i : Nat} {x : Int} (hi : i < k.n) (hg : w.grownBy w' (k.cv i).ownBlock)
    (ho : w'.ownsRow lo 52 1 (.slice a (k.N i + 1) c) (k.N i + 1) (valsC (k.N i) (s.C i) ++ [.int .i64 x])) (hf : ∀ g, (Value.slice a (k.N i + 1) c).ownBlock = some g → (k.cv i).ownBlock = some g ∨ w.heap.size ≤ g) :
    PrM lo b {k with N := fun j => if j = i then k.N i + 1 else k.N j, CA := fun j => if j = i then a else k.CA j, CC := fun j => if j = i then c else k.CC j} {s with C := fun j => if j = i then (fun t => if t = k.N i then x else s.C i t) else s.C j} (w'.setCell ⟨k.gc, i, none⟩ (.slice a (k.N i + 1) c)) := by
  have hv := h.cl i hi
  have hr : ∀ {g : Nat} {t : TypeId} {m : Nat} {f : Nat → Value}, w.rowIs g t m f → 52 ≠ t → w'.rowIs g t m f := fun {g t m f} hx ht =>
    hx.of_block (hg.block g hx.lt fun e => ht (own_ty hv hx e.symm))
  have hint : ∀ {v : Value} {m : Nat} {xs : List Value}, w.ownsRow lo 3 1 v m xs → w'.ownsRow lo 3 1 v m xs := fun {v m xs} hx => hx.kept hg (by
    cases e : v.ownBlock with
    | none => exact .inl rfl
    | some g => exact .inr fun e2 => absurd (own_ty2 hx hv e e2.symm) (by decide))
  have hcl : ∀ j, j < k.n → j ≠ i → w'.ownsRow lo 52 1 (k.cv j) (k.N j) (valsC (k.N j) (s.C j)) := fun j hj hne => (h.cl j hj).kept hg (by
    cases e : (k.cv j).ownBlock with
    | none => exact .inl rfl
    | some g => exact .inr fun e2 => h.cne j i g hj hi hne e e2.symm)
  have k1 := hr h.box (by decide)
  have k2 := hr h.row (by decide)
  have k3 := hr h.du (by decide)
  obtain ⟨n1, n2, n3⟩ := h.box_ne
  have hs : ∀ {e : TypeId} {v : Value} {m : Nat} {xs : List Value}, w'.ownsRow lo e 1 v m xs → e ≠ 71 → (w'.setCell ⟨k.gc, i, none⟩ (.slice a (k.N i + 1) c)).ownsRow lo e 1 v m xs := fun {e v m xs} hx he =>
    hx.kept (grow_set w' k.gc i _) (.inr fun e' => he (own_ty hx k2 e'))
  refine ⟨h.lob, h.loc, h.lod, k1.setOther n1 _, (k2.set i (.slice a (k.N i + 1) c)).congr fun j hj => ?_, k3.setOther (Ne.symm n3) _, fun j hj => ?_, fun j j' g hj hj' hne e e2 => ?_, fun p hp => hs (hint (h.wl p hp)) (by decide), h.wne, hs (hint h.tr) (by decide), h.tne⟩
  · unfold Pq.cv
    simp only
    by_cases e : j = i
    · rw [if_pos e, if_pos e, if_pos e, if_pos e]
    · rw [if_neg e, if_neg e, if_neg e, if_neg e]
  · unfold Pq.cv
    simp only
    by_cases e : j = i
    · rw [if_pos e, if_pos e, if_pos e, if_pos e, valsC_push]
      exact hs ho (by decide)
    · rw [if_neg e, if_neg e, if_neg e, if_neg e]
      exact hs (hcl j hj e) (by decide)
  · have key : ∀ j, j < k.n → j ≠ i → ∀ g, (k.cv j).ownBlock = some g → (Value.slice a (k.N i + 1) c).ownBlock ≠ some g := fun j hj hne g e e2 => by
      rcases hf g e2 with e3 | e3
      · exact h.cne j i g hj hi hne e e3
      · have := ((h.cl j hj).lt g e).2; omega
    unfold Pq.cv at e e2
    simp only at e e2
    by_cases ej : j = i
    · rw [if_pos ej, if_pos ej, if_pos ej] at e
      rw [if_neg (by omega), if_neg (by omega), if_neg (by omega)] at e2
      exact key j' hj' (by omega) g e2 e
    · rw [if_neg ej, if_neg ej, if_neg ej] at e
      by_cases ej' : j' = i
      · rw [if_pos ej', if_pos ej', if_pos ej'] at e2
        exact key j hj ej g e e2
      · rw [if_neg ej', if_neg ej', if_neg ej'] at e2
        exact h.cne j j' g hj hj' hne e e2
theorem PrM.congrN (h : PrM lo b k s w) {N' : Nat → Nat} (hN : ∀ i, i < k.n → k.N i = N' i) : PrM lo b {k with N := N'} s w := by
  have hcv : ∀ i, i < k.n → k.cv i = ({k with N := N'} : Pq).cv i := fun i hi => by unfold Pq.cv; simp only; rw [hN i hi]
  exact ⟨h.lob, h.loc, h.lod, h.box, h.row.congr hcv, h.du, fun i hi => by
    show w.ownsRow lo 52 1 (({k with N := N'} : Pq).cv i) (N' i) (valsC (N' i) (s.C i))
    rw [← hcv i hi, ← hN i hi]
    exact h.cl i hi, fun i j g hi hj hne => by rw [← hcv i hi, ← hcv j hj]; exact h.cne i j g hi hj hne, h.wl, h.wne, h.tr, h.tne⟩
end
/-- the cells of a propagation at the start -/
def arrP (v0 v2 : Value) : Array Value := (v0 :: (List.replicate 121 (Value.slice none 0 0) ++ (v2 :: (List.replicate 61 (Value.int .i64 0) ++ [Value.slice none 0 0])))).toArray
def ps0 : Ps := ⟨fun _ _ => 0, fun _ => .slice none 0 0, fun _ => [], fun _ => false, fun _ => 0, .slice none 0 0, []⟩
def pq0 (gc gd n : Nat) : Pq := ⟨gc, gd, n, fun _ => 0, fun _ => none, fun _ => 0⟩
theorem arrP_at (gc gd n : Nat) : ∀ i, i < 185 → (arrP (.slice (some ⟨gc, 0, none⟩) n n) (.slice (some ⟨gd, 0, none⟩) n n))[i]? = some (prF (pq0 gc gd n) ps0 i) := by
  intro i hi
  unfold arrP prF pq0 ps0
  simp only [List.getElem?_toArray]
  by_cases e0 : i = 0
  · subst e0; rfl
  · obtain ⟨j, rfl⟩ : ∃ j, i = j + 1 := ⟨i - 1, by omega⟩
    rw [if_neg e0, List.getElem?_cons_succ]
    by_cases e1 : j < 121
    · rw [List.getElem?_append_left (by rw [List.length_replicate]; exact e1), List.getElem?_replicate, if_pos e1, if_pos (by omega)]
    · rw [List.getElem?_append_right (by rw [List.length_replicate]; omega), List.length_replicate, if_neg (by omega)]
      by_cases e2 : j = 121
      · subst e2; rfl
      · obtain ⟨t, rfl⟩ : ∃ t, j = t + 122 := ⟨j - 122, by omega⟩
        rw [show t + 122 - 121 = t + 1 by omega, List.getElem?_cons_succ, if_neg (by omega)]
        by_cases e3 : t < 61
        · rw [List.getElem?_append_left (by rw [List.length_replicate]; exact e3), List.getElem?_replicate, if_pos e3, if_pos (by omega)]
        · rw [List.getElem?_append_right (by rw [List.length_replicate]; omega), List.length_replicate, if_neg (by omega)]
          have : t = 61 := by omega
          subst this
          rfl
theorem arrP_len (v0 v2 : Value) : (arrP v0 v2).size = 185 := by unfold arrP; rw [List.size_toArray, List.length_cons, List.length_append, List.length_replicate, List.length_cons, List.length_append, List.length_replicate]; rfl
/-- the propagation at the start -/
theorem prm_new (lo gc gd n : Nat) (w : World) (h1 : lo ≤ gc) (h2 : lo ≤ gd) (h3 : lo ≤ w.heap.size) (hr : w.rowIs gc 71 n (fun _ => .slice none 0 0)) (hd : w.rowIs gd 4 n (fun _ => .bool false)) :
    PrM lo w.heap.size (pq0 gc gd n) ps0 (w.alloc (.cells (arrP (.slice (some ⟨gc, 0, none⟩) n n) (.slice (some ⟨gd, 0, none⟩) n n)) 60)) := by
  refine ⟨h3, h1, h2, ⟨_, Deep.blk_alloc_new _ _, arrP_len _ _, arrP_at gc gd n⟩, hr.alloc _, hd.alloc _, fun i hi => World.ownsRow_nil _ _ _ _, fun i j g hi hj hne e => ?_, fun p hp => World.ownsRow_nil _ _ _ _, fun p q g hp hq hne e => ?_, World.ownsRow_nil _ _ _ _, fun p g hp e => ?_⟩
  · simp [Pq.cv, pq0, Value.ownBlock] at e
  · simp [ps0, Value.ownBlock] at e
  · simp [ps0, Value.ownBlock] at e
end Go.Proofs.Ytjnngijilkdhbaa
