/- Contracts of the draws l10Vals, DrawClauseOf, DrawClauseIs. -/
import Derived.Test.YtoechhdahokoiaaDcA
namespace Go.Proofs.Ytoechhdahokoiaa
set_option linter.unusedVariables false
set_option linter.unusedSimpArgs false
open Go.RowKit
def valsBo (l : List Bool) : List Value := l.map fun z => Value.bool z
theorem valsBo_at {l : List Bool} {k : Nat} (h : k < l.length) : (valsBo l)[k]? = some (.bool (l.getD k false)) := by
  unfold valsBo; rw [List.getElem?_map, List.getElem?_eq_getElem h, List.getD_eq_getElem?_getD, List.getElem?_eq_getElem h]; rfl
theorem valsBo_snoc (l : List Bool) (x : Bool) : valsBo (l ++ [x]) = valsBo l ++ [.bool x] := by unfold valsBo; rw [List.map_append]; rfl
/-- the state of a loop that appends truth values -/
structure BBc (Bd lo : Nat) (w0 : World) (g p : Nat) (v : Value) (l : List Bool) (wr : World) : Prop where
  grown : w0.grownBy wr (some g)
  own : wr.ownsRow lo 4 1 v l.length (valsBo l)
  rd : ∃ q, q ≤ p ∧ RD Bd wr g q
theorem BBc.grow {Bd lo : Nat} {w0 : World} {g p p' : Nat} {v : Value} {l : List Bool} {wr w2 : World} (h : BBc Bd lo w0 g p v l wr) (hg : wr.grownBy w2 (some g)) (hlo : g < lo) (hR : ∃ q, q ≤ p' ∧ RD Bd w2 g q) : BBc Bd lo w0 g p' v l w2 where
  grown := grow_trans h.grown hg
  own := h.own.kept hg (by
    cases hv : v.ownBlock with
    | none => exact .inl rfl
    | some x => have := (h.own.lt x hv).1; exact .inr (by simp; omega))
  rd := hR
theorem BBc.step {Bd lo : Nat} {w0 : World} {g p : Nat} {v v' : Value} {l : List Bool} {x : Bool} {w2 w3 : World} {o : Obj} (h : BBc Bd lo w0 g p v l w2) (hlo : g < lo) (hBd : Bd ≤ lo) (hw0 : w0.heap.size ≤ lo)
    (hown : w3.ownsRow lo 4 1 v' (l.length + 1) (valsBo l ++ [.bool x])) (hg : (w2.alloc o).grownBy w3 v.ownBlock) :
    BBc Bd lo w0 g p v' (l ++ [x]) w3 := by
  have hne : ∀ r, r < lo → v.ownBlock ≠ some r := by
    intro r hr he
    have := (h.own.lt r he).1
    omega
  obtain ⟨q, hq, hR⟩ := h.rd
  have hR3 : RD Bd w3 g q := (hR.alloc _).grow hg fun r hr => by
    have := (h.own.lt r hr).1
    omega
  refine ⟨⟨hg.os.trans h.grown.os, hg.tape.trans h.grown.tape, hg.output.trans h.grown.output, Nat.le_trans h.grown.size (Nat.le_trans (by simp) hg.size), fun i hi hr => ?_⟩, ?_, q, hq, hR3⟩
  · have hi2 := Nat.lt_of_lt_of_le hi h.grown.size
    rw [hg.block i (by simp; omega) (Ne.symm (hne i (by omega)))]
    exact (World.grownBy_alloc w2 _ none).block i hi2 (by simp) |>.trans (h.grown.block i hi hr)
  · rw [valsBo_snoc, List.length_append]; exact hown
/-- truth values in a block from lo on -/
def NwB (lo : Nat) (w : World) (A : Option Addr) (l : List Bool) : Prop := l.length = 0 ∨ ∃ h, A = some ⟨h, 0, none⟩ ∧ lo ≤ h ∧ h < w.heap.size ∧ ∀ k, k < l.length → w.cell? ⟨h, k, none⟩ = some (.bool (l.getD k false))
theorem NwB.bools {lo : Nat} {w : World} {A : Option Addr} {l : List Bool} (h : NwB lo w A l) : Bools w A l.length (fun k => l.getD k false) := by
  rcases h with h | ⟨g, ha, _, hg, hc⟩
  · exact .inl h
  · exact .inr ⟨g, 0, ha, hg, fun k hk => by rw [Nat.zero_add]; exact hc k hk⟩
theorem NwB.grow {lo g : Nat} {w w' : World} {A : Option Addr} {l : List Bool} (h : NwB lo w A l) (hg : w.grownBy w' (some g)) (hlt : g < lo) : NwB lo w' A l := by
  rcases h with h | ⟨b, ha, h1, h2, hc⟩
  · exact .inl h
  · exact .inr ⟨b, ha, h1, Nat.lt_of_lt_of_le h2 hg.size, fun k hk => grow_cell hg (by omega) (hc k hk)⟩
theorem BBc.out {Bd lo : Nat} {w0 : World} {g p : Nat} {v : Value} {l : List Bool} {wr : World} (h : BBc Bd lo w0 g p v l wr) : ∃ A c, v = .slice A l.length c ∧ NwB lo wr A l := by
  have h0 := h.own
  have h1 := h.own
  obtain ⟨hl, ⟨rfl, hz⟩ | ⟨b, cap, cur, rfl, hg, hh, h1, h2, h3, h4⟩⟩ := h0
  · exact ⟨none, 0, by rw [hz], .inl hz⟩
  · exact ⟨_, cap, rfl, .inr ⟨b, rfl, hg, (Array.getElem?_eq_some_iff.1 hh).1, fun k hk => (h.own.cellAt k (by omega)).trans (valsBo_at hk)⟩⟩
/-- truth values, drawn -/
def VlP (Bd : Nat) (w : World) (g p n : Nat) (e : Ending) (w' : World) : Prop := ∃ A c l q, e = .returned (.slice A l.length c) ∧ l.length ≤ n + 1 ∧ NwB w.heap.size w' A l ∧ w.grownBy w' (some g) ∧ RD Bd w' g q ∧ q ≤ p + n + 1
theorem truN (w : World) (t : TypeId) (b : Bool) : ∀ (j : Nat) (u : Value), ([.bool b] : List Value)[j]? = some u → (w.alloc (.cells #[.bool b] t)).cell? ((⟨w.heap.size, 0, none⟩ : Addr).add j) = some u := cell_one_new w (.bool b) t
set_option maxHeartbeats 4000000 in
theorem l10vals_any (Bd : Nat) (w : World) (g p : Nat) (n : Nat) (hR : RD Bd w g p) (hp : p ≤ 90000) (hn : n ≤ 100) :
    Calls Try.prog 29 #[.pointer (some ⟨g, 0, none⟩), .int .i64 n] w (VlP Bd w g p n) := by
  have hlt := hR.lt
  have hle := hR.le
  have h0 : BBc Bd w.heap.size w g p (.slice (some ⟨w.heap.size, 0, none⟩) 0 0) [] (w.alloc (.cells #[] 4)) :=
    ⟨grow_alloc (grow_refl _ _) _, own_emptyD w 4 1, p, Nat.le_refl _, hR.alloc _⟩
  obtain ⟨i0, hi, hz0, hz1, hz2⟩ := info_parts infoBl
  go_enter Try.func29, Try.ntmps29
  go_wp2_with fail
  go_loopw [5, 6] (fun v i wr => ∃ (k : Nat) (l : List Bool), k ≤ n ∧ i = .int .i64 k ∧ l.length = k ∧ w.heap.size ≤ wr.heap.size ∧ BBc Bd w.heap.size w g (p + k) v l wr) (fun _ i _ => n - (intOf i).toNat)
  case atStart => exact ⟨0, [], Nat.zero_le _, rfl, rfl, h0.grown.size, h0⟩
  case round =>
    clear h0
    obtain ⟨k, l, hk, rfl, hl, hsz, h⟩ := hrel
    by_cases hltk : k < n
    · obtain ⟨q, hq, hRq⟩ := h.rd
      go_wp2_with fail
      refine (pick_any Bd _ g q 2 hRq (by omega) (by omega)).mono ?_
      rintro e w1 ⟨x1, _, _, rfl, hg1, hR1⟩
      have h1 := h.grow (p' := p + (k + 1)) hg1 hlt ⟨_, by omega, hR1⟩
      have hsz1 := hg1.size
      clear hg1 h hRq hq
      generalize hb : (x1 == 0) = bx
      go_wp2_with ((at_builtin; refine wpList_append_own_at _ rfl _ _ 26 rfl w.heap.size 4 i0 (.bool false) 1 1 Try.underlying26 hi hz0 hz1 hz2 rfl (by decide) _ _ _ rfl (h1.own.alloc _) ⟨w1.heap.size, 0, none⟩ 1 1 [.bool bx] rfl rfl (cell_one_new _ _ _) (fun u hu => by simp at hu; subst hu; rfl) (by unfold maxLen; omega) (by omega) (by simp; omega) ?_; intro v' w5 hown hgrow _ _; have H5 := hid (h1.step hlt (by omega) (Nat.le_refl _) hown hgrow); have hs5 := hgrow.size))
      exact ⟨⟨k + 1, l ++ [bx], by omega, by go_num, by simp [hl], by simp at hs5; omega, H5.out⟩, by simp [intOf]; omega⟩
    · have hkn : k = n := by omega
      subst hkn
      subst hl
      obtain ⟨q, hq, hRq⟩ := h.rd
      go_wp2_with fail
      refine (pick_any Bd _ g q 30 hRq (by omega) (by omega)).mono ?_
      rintro e w1 ⟨x1, _, _, rfl, hg1, hR1⟩
      have h1 := h.grow (p' := p + l.length + 1) hg1 hlt ⟨_, by omega, hR1⟩
      have hsz1 := hg1.size
      clear hg1 h hRq hq
      cases hb : (x1 == 0)
      · obtain ⟨A, c, rfl, hN⟩ := h1.out
        obtain ⟨q, hq, hRq⟩ := h1.rd
        go_wp2
        go_ret
        exact ⟨A, c, l, q, rfl, by omega, hN, h1.grown, hRq, hq⟩
      · go_wp2_with ((at_builtin; refine wpList_append_own_at _ rfl _ _ 26 rfl w.heap.size 4 i0 (.bool false) 1 1 Try.underlying26 hi hz0 hz1 hz2 rfl (by decide) _ _ _ rfl (h1.own.alloc _) ⟨w1.heap.size, 0, none⟩ 1 1 [.bool true] rfl rfl (cell_one_new _ _ _) (fun u hu => by simp at hu; subst hu; rfl) (by unfold maxLen; omega) (by omega) (by simp; omega) ?_; intro v' w5 hown hgrow _ _; have H5 := h1.step hlt (by omega) (Nat.le_refl _) hown hgrow))
        obtain ⟨A, c, rfl, hN⟩ := H5.out
        obtain ⟨q, hq, hRq⟩ := H5.rd
        go_ret
        exact ⟨A, c, l ++ [true], q, rfl, by simp, hN, H5.grown, hRq, hq⟩
/-- a drawn list of literals -/
def DCoP (w : World) (e : Ending) (w' : World) : Prop := ∃ A c, ∃ l : List Int, e = .returned (.slice A l.length c) ∧ l.length ≤ 5 ∧ Ints w' A l.length (fun k => l.getD k 0) ∧ Below w.heap.size w w'
/-- a drawn clause and drawn truth values -/
def DCiP (w : World) (e : Ending) (w' : World) : Prop := ∃ A c, ∃ l : List Int, ∃ B d, ∃ m : List Bool, e = .returned (.tuple #[.slice A l.length c, .slice B m.length d]) ∧ l.length ≤ 5 ∧ m.length ≤ 7 ∧ Ints w' A l.length (fun k => l.getD k 0) ∧ Bools w' B m.length (fun k => m.getD k false) ∧ Below w.heap.size w w'
end Go.Proofs.Ytoechhdahokoiaa
