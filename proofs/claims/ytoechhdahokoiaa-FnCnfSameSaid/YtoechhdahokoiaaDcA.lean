/- Contracts of the draws of literals: l10Mark, l10Marks, l10Vals. -/
import Derived.Test.YtoechhdahokoiaaCfE
import Derived.Test.YtoechhdahokoiaaCbB
import Derived.Test.YtoechhdahokoiaaByt
import Derived.Maps.AppendAt
namespace Go.Proofs.Ytoechhdahokoiaa
set_option linter.unusedVariables false
set_option linter.unusedSimpArgs false
open Go.RowKit
theorem RD.grow {B : Nat} {w w' : World} {g p : Nat} {row : Option Nat} (h : RD B w g p) (hg : w.grownBy w' row) (hr : ∀ r, row = some r → B ≤ r ∧ r ≠ g) : RD B w' g p := by
  obtain ⟨a, len, cap, hB, c0, c1, f1, hl, hby⟩ := h
  have hl1 := World.block_lt_of_cell? w _ c1
  have ng : row ≠ some g := fun e => (hr g e).2 rfl
  refine ⟨a, len, cap, hB, hg.cell c0 (Ne.symm ng), hg.cell c1 (Ne.symm ng), (World.frozen?_of_block (w := w) (a := ⟨g, 1, none⟩) (hg.block g hl1 (Ne.symm ng))).trans f1, hl, hby.mono fun b o v hb hc => hg.cell hc fun e => ?_⟩
  have := (hr b e.symm).1
  omega
theorem RD.le {B : Nat} {w : World} {g p : Nat} (h : RD B w g p) : B ≤ g := by
  obtain ⟨a, len, cap, hB, _⟩ := h; exact hB
theorem valsI_snoc (l : List Int) (x : Int) : valsI (l ++ [x]) = valsI l ++ [.int .i64 x] := by unfold valsI; rw [List.map_append]; rfl
/-- the state of a loop that appends numbers -/
structure IBc (Bd lo : Nat) (w0 : World) (g p : Nat) (v : Value) (l : List Int) (wr : World) : Prop where
  grown : w0.grownBy wr (some g)
  own : wr.ownsRow lo 3 1 v l.length (valsI l)
  rd : ∃ q, q ≤ p ∧ RD Bd wr g q
theorem IBc.grow {Bd lo : Nat} {w0 : World} {g p p' : Nat} {v : Value} {l : List Int} {wr w2 : World} (h : IBc Bd lo w0 g p v l wr) (hg : wr.grownBy w2 (some g)) (hlo : g < lo) (hR : ∃ q, q ≤ p' ∧ RD Bd w2 g q) : IBc Bd lo w0 g p' v l w2 where
  grown := grow_trans h.grown hg
  own := h.own.kept hg (by
    cases hv : v.ownBlock with
    | none => exact .inl rfl
    | some x => have := (h.own.lt x hv).1; exact .inr (by simp; omega))
  rd := hR
theorem IBc.step {Bd lo : Nat} {w0 : World} {g p : Nat} {v v' : Value} {l : List Int} {x : Int} {w2 w3 : World} {o : Obj} (h : IBc Bd lo w0 g p v l w2) (hlo : g < lo) (hBd : Bd ≤ lo) (hw0 : w0.heap.size ≤ lo)
    (hown : w3.ownsRow lo 3 1 v' (l.length + 1) (valsI l ++ [.int .i64 x])) (hg : (w2.alloc o).grownBy w3 v.ownBlock) :
    IBc Bd lo w0 g p v' (l ++ [x]) w3 := by
  have hne : ∀ r, r < lo → v.ownBlock ≠ some r := by
    intro r hr he
    have := (h.own.lt r he).1
    omega
  obtain ⟨q, hq, hR⟩ := h.rd
  have hR3 : RD Bd w3 g q := (hR.alloc _).grow hg fun r hr => by
    have := (h.own.lt r hr).1
    omega
  refine ⟨⟨hg.os.trans h.grown.os, hg.tape.trans h.grown.tape, hg.output.trans h.grown.output, Nat.le_trans h.grown.size (Nat.le_trans (by simp) hg.size), fun i hi hr => ?_⟩, ?_, q, hq, hR3⟩
  · have hi2 := Nat.lt_of_lt_of_le hi h.grown.size
    rw [hg.block i (by simp; omega) (Ne.symm (hne i (by omega)))]
    exact (World.grownBy_alloc w2 _ none).block i hi2 (by simp) |>.trans (h.grown.block i hi hr)
  · rw [valsI_snoc, List.length_append]; exact hown
/-- numbers in a block from lo on -/
def NwI (lo : Nat) (w : World) (A : Option Addr) (l : List Int) : Prop := l.length = 0 ∨ ∃ h, A = some ⟨h, 0, none⟩ ∧ lo ≤ h ∧ h < w.heap.size ∧ ∀ k, k < l.length → w.cell? ⟨h, k, none⟩ = some (.int .i64 (l.getD k 0))
theorem NwI.ints {lo : Nat} {w : World} {A : Option Addr} {l : List Int} (h : NwI lo w A l) : Ints w A l.length (fun k => l.getD k 0) := by
  rcases h with h | ⟨g, ha, _, hg, hc⟩
  · exact .inl h
  · exact .inr ⟨g, 0, ha, hg, fun k hk => by rw [Nat.zero_add]; exact hc k hk⟩
theorem NwI.grow {lo g : Nat} {w w' : World} {A : Option Addr} {l : List Int} (h : NwI lo w A l) (hg : w.grownBy w' (some g)) (hlt : g < lo) : NwI lo w' A l := by
  rcases h with h | ⟨b, ha, h1, h2, hc⟩
  · exact .inl h
  · exact .inr ⟨b, ha, h1, Nat.lt_of_lt_of_le h2 hg.size, fun k hk => grow_cell hg (by omega) (hc k hk)⟩
theorem IBc.out {Bd lo : Nat} {w0 : World} {g p : Nat} {v : Value} {l : List Int} {wr : World} (h : IBc Bd lo w0 g p v l wr) : ∃ A c, v = .slice A l.length c ∧ NwI lo wr A l ∧ l.length ≤ c := by
  have h0 := h.own
  have h1 := h.own
  obtain ⟨hl, ⟨rfl, hz⟩ | ⟨b, cap, cur, rfl, hg, hh, h1, h2, h3, h4⟩⟩ := h0
  · exact ⟨none, 0, by rw [hz], .inl hz, by omega⟩
  · exact ⟨_, cap, rfl, .inr ⟨b, rfl, hg, (Array.getElem?_eq_some_iff.1 hh).1, fun k hk => (h.own.cellAt k (by omega)).trans (valsI_at hk)⟩, h1⟩
theorem max2_any (m : Int) (w : World) : Calls Try.prog 68 #[.int .i64 1, .int .i64 m] w fun e w' => e = .returned (.int .i64 (if m < 1 then 1 else m)) ∧ w = w' := by
  by_cases h : m < 1
  · rw [if_pos h]
    have d : decide (m < 1) = true := decide_eq_true h
    clear h
    go_enter Try.func68, Try.ntmps68
    go_wp2
    go_ret
    exact ⟨rfl, rfl⟩
  · rw [if_neg h]
    have d : decide (m < 1) = false := decide_eq_false h
    clear h
    go_enter Try.func68, Try.ntmps68
    go_wp2
    go_ret
    exact ⟨rfl, rfl⟩
def zsM (m : Int) : List Int := [0, m + 1, 61, 9223372036854775807, -9223372036854775808]
theorem row5M (w : World) (t : TypeId) (m : Int) : ∀ k, k < (zsM m).length → (w.alloc (.cells #[.int .i64 0, .int .i64 (m + 1), .int .i64 61, .int .i64 9223372036854775807, .int .i64 (-9223372036854775808)] t)).cell? ⟨w.heap.size, k, none⟩ = some (.int .i64 ((zsM m).getD k 0)) := by
  intro k hk
  simp only [zsM, List.length_cons, List.length_nil] at hk
  have hk' : k = 0 ∨ k = 1 ∨ k = 2 ∨ k = 3 ∨ k = 4 := by omega
  rcases hk' with rfl | rfl | rfl | rfl | rfl <;> simp [go_sem, zsM]
/-- a literal, drawn -/
def MkP (Bd : Nat) (w : World) (g p : Nat) (e : Ending) (w' : World) : Prop := ∃ x q, e = .returned (.int .i64 x) ∧ w.grownBy w' (some g) ∧ RD Bd w' g q ∧ q ≤ p + 3
set_option maxHeartbeats 4000000 in
theorem l10mark_any (Bd : Nat) (w : World) (g p : Nat) (m : Int) (hR : RD Bd w g p) (hp : p ≤ 100000) (hm : -1 ≤ m ∧ m ≤ 1000) :
    Calls Try.prog 57 #[.pointer (some ⟨g, 0, none⟩), .int .i64 m] w (MkP Bd w g p) := by
  obtain ⟨m0, m1⟩ := hm
  go_enter Try.func57, Try.ntmps57
  go_wp2_with fail
  refine (pick_any Bd _ g p 40 hR (by omega) (by omega)).mono ?_
  rintro e w1 ⟨x, x0, x1, rfl, hg1, hR1⟩
  by_cases h0 : x = 0
  · have d1 : (x == 0) = true := by simpa using h0
    clear h0
    go_wp2_with fail
    refine (num_any Bd _ g (p + 1) w1.heap.size 5 5 (zsM m) (hR1.alloc _) (by omega) rfl (by simp [zsM]) (by simp [zsM]) (by have := hR1.lt; omega) (row5M w1 3 m)).mono ?_
    rintro e w2 ⟨y, _, rfl, hg2, hR2⟩
    go_wp2
    go_ret
    exact ⟨y, _, rfl, grow_trans hg1 (grow_trans (grow_alloc (grow_refl _ _) _) hg2), hR2, by omega⟩
  · have d1 : (x == 0) = false := by simpa using h0
    clear h0
    go_wp2_with fail
    refine (max2_any m _).mono ?_
    rintro e w1' ⟨rfl, rfl⟩
    have hmm : 1 ≤ (if m < 1 then 1 else m) ∧ (if m < 1 then 1 else m) ≤ 1000 := by split <;> omega
    generalize (if m < 1 then 1 else m) = mm at hmm
    go_wp2_with fail
    refine (pick_any Bd _ g (p + 1) mm hR1 (by omega) (by omega)).mono ?_
    rintro e w2 ⟨y, y0, y1, rfl, hg2, hR2⟩
    go_wp2_with fail
    refine (pick_any Bd _ g (p + 1 + 1) 2 hR2 (by omega) (by omega)).mono ?_
    rintro e w3 ⟨z, z0, z1, rfl, hg3, hR3⟩
    have hgg := grow_trans hg1 (grow_trans hg2 hg3)
    cases hz : (z == 0)
    · go_wp2
      go_ret
      exact ⟨_, _, rfl, hgg, hR3, by omega⟩
    · go_wp2
      go_ret
      exact ⟨_, _, rfl, hgg, hR3, by omega⟩
/-- literals, drawn -/
def MksP (Bd : Nat) (w : World) (g p n : Nat) (e : Ending) (w' : World) : Prop := ∃ A c l q, e = .returned (.slice A l.length c) ∧ l.length = n ∧ NwI w.heap.size w' A l ∧ w.grownBy w' (some g) ∧ RD Bd w' g q ∧ q ≤ p + 3 * n ∧ l.length ≤ c
theorem own_emptyD (w : World) (t : TypeId) (size : Nat) : (w.alloc (.cells #[] t)).ownsRow w.heap.size t size (.slice (some ⟨w.heap.size, 0, none⟩) 0 0) 0 [] :=
  ⟨by simp, .inr ⟨w.heap.size, 0, #[], rfl, Nat.le_refl _, Deep.blk_alloc_new _ _, Nat.le_refl _, by unfold maxLen; omega, by simp, by simp⟩⟩
set_option maxHeartbeats 4000000 in
theorem l10marks_any (Bd : Nat) (w : World) (g p : Nat) (m : Int) (n : Nat) (hR : RD Bd w g p) (hp : p ≤ 90000) (hm : -1 ≤ m ∧ m ≤ 1000) (hn : n ≤ 20) :
    Calls Try.prog 41 #[.pointer (some ⟨g, 0, none⟩), .int .i64 m, .int .i64 n] w (MksP Bd w g p n) := by
  have hlt := hR.lt
  have hle := hR.le
  have h0 : IBc Bd w.heap.size w g p (.slice (some ⟨w.heap.size, 0, none⟩) 0 0) [] (w.alloc (.cells #[] 3)) :=
    ⟨grow_alloc (grow_refl _ _) _, own_emptyD w 3 1, p, Nat.le_refl _, hR.alloc _⟩
  obtain ⟨i0, hi, hz0, hz1, hz2⟩ := info_parts infoI
  go_enter Try.func41, Try.ntmps41
  go_wp2_with fail
  go_loopw [7, 8] (fun v i wr => ∃ (k : Nat) (l : List Int), k ≤ n ∧ i = .int .i64 k ∧ l.length = k ∧ w.heap.size ≤ wr.heap.size ∧ IBc Bd w.heap.size w g (p + 3 * k) v l wr) (fun _ i _ => n - (intOf i).toNat)
  case atStart => exact ⟨0, [], Nat.zero_le _, rfl, rfl, h0.grown.size, h0⟩
  case round =>
    clear h0
    obtain ⟨k, l, hk, rfl, hl, hsz, h⟩ := hrel
    by_cases hltk : k < n
    · obtain ⟨q, hq, hRq⟩ := h.rd
      go_wp2_with fail
      refine (l10mark_any Bd _ g q m hRq (by omega) hm).mono ?_
      rintro e w1 ⟨x1, q1, rfl, hg1, hR1, hq1⟩
      have h1 := h.grow (p' := p + 3 * (k + 1)) hg1 hlt ⟨_, by omega, hR1⟩
      have hsz1 := hg1.size
      clear hg1 h hRq hq
      go_wp2_with ((at_builtin; refine wpList_append_own_at _ rfl _ _ 32 rfl w.heap.size 3 i0 (.int .i64 0) 1 8 Try.underlying32 hi hz0 hz1 hz2 rfl (by decide) _ _ _ rfl (h1.own.alloc _) ⟨w1.heap.size, 0, none⟩ 1 1 [.int .i64 x1] rfl rfl (cell_one_new _ _ _) (fun u hu => by simp at hu; subst hu; rfl) (by unfold maxLen; omega) (by omega) (by simp; omega) ?_; intro v' w5 hown hgrow _ _; have H5 := hid (h1.step hlt (by omega) (Nat.le_refl _) hown hgrow); have hs5 := hgrow.size))
      exact ⟨⟨k + 1, l ++ [x1], by omega, by go_num, by simp [hl], by simp at hs5; omega, H5.out⟩, by simp [intOf]; omega⟩
    · have hkn : k = n := by omega
      subst hkn
      obtain ⟨A, c, rfl, hN, hlc⟩ := h.out
      obtain ⟨q, hq, hRq⟩ := h.rd
      go_wp2
      go_ret
      exact ⟨A, c, l, q, rfl, hl, hN, h.grown, hRq, hq, hlc⟩
end Go.Proofs.Ytoechhdahokoiaa
