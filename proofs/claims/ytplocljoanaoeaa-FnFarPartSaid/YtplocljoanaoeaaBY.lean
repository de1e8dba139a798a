/- Several texts in one: FlF, FlG, FlH, FlI, FlJ, FlK, FlL, FlW. -/
import Derived.Test.YtplocljoanaoeaaBX
import Derived.Test.YtplocljoanaoeaaLinK
import Derived.Maps.AppendAt
import Derived.Test.YtplocljoanaoeaaLinSB
import Derived.Test.YtplocljoanaoeaaFarK
import Derived.Test.YtplocljoanaoeaaFarL
import Derived.Test.YtplocljoanaoeaaFarO
import Derived.Test.YtplocljoanaoeaaFarP
namespace Go.Proofs.Ytplocljoanaoeaa
set_option linter.unusedVariables false
set_option linter.unusedSimpArgs false
open Go.RowKit
structure MRow where
  a : Option Addr
  c : Nat
  t : Option Addr
  d : Nat
  r : FRw
def MRow.cells (n : Nat) (m : MRow) : List Value := [.slice m.a 4 m.c, .int .i64 m.r.B, .bool m.r.S, .slice m.t n m.d]
def flatM (n : Nat) (ms : List MRow) : List Value := ms.flatMap (MRow.cells n)
theorem flatM_len (n : Nat) (ms : List MRow) : (flatM n ms).length = ms.length * 4 := by
  induction ms with
  | nil => rfl
  | cons m ms ih => have : flatM n (m :: ms) = m.cells n ++ flatM n ms := rfl
                    rw [this, List.length_append, ih, List.length_cons]; simp [MRow.cells]; omega
theorem flatM_get {n i : Nat} {m : MRow} (hi : i < 4) : ∀ {ms : List MRow} {k : Nat}, ms[k]? = some m → (flatM n ms)[k * 4 + i]? = (m.cells n)[i]?
  | [], k, h => by simp at h
  | x :: ms, 0, h => by
    have e : flatM n (x :: ms) = x.cells n ++ flatM n ms := rfl
    simp only [List.getElem?_cons_zero, Option.some.injEq] at h
    subst h
    rw [e, Nat.zero_mul, Nat.zero_add, List.getElem?_append_left (by simp [MRow.cells]; omega)]
  | x :: ms, k + 1, h => by
    have e : flatM n (x :: ms) = x.cells n ++ flatM n ms := rfl
    rw [List.getElem?_cons_succ] at h
    rw [e, List.getElem?_append_right (by simp [MRow.cells]; omega)]
    have := flatM_get (n := n) hi h
    rw [← this]
    congr 1
    simp [MRow.cells]; omega
theorem flatM_app (n : Nat) (ms ns : List MRow) : flatM n (ms ++ ns) = flatM n ms ++ flatM n ns := by simp [flatM]
theorem flatM_one (n : Nat) (m : MRow) : flatM n [m] = m.cells n := by simp [flatM]
/-- what a row says is read -/
def MRd (n : Nat) (w : World) (m : MRow) : Prop := Ints w m.a 4 m.r.Z ∧ Ints w m.t n m.r.U
theorem MRd.below {n : Nat} {w w' : World} {m : MRow} (h : MRd n w m) (hb : Below w.heap.size w w') : MRd n w' m := ⟨h.1.below hb, h.2.below hb⟩
def SlM (n : Nat) (w : World) (A : Option Addr) (ms : List MRow) : Prop := ms = [] ∨ ∃ g off, A = some ⟨g, off, none⟩ ∧ g < w.heap.size ∧ ∀ k m, ms[k]? = some m → w.cell? ⟨g, off + k * 4, none⟩ = some (.slice m.a 4 m.c) ∧ w.cell? ⟨g, off + k * 4 + 1, none⟩ = some (.int .i64 m.r.B) ∧ w.cell? ⟨g, off + k * 4 + 2, none⟩ = some (.bool m.r.S) ∧ w.cell? ⟨g, off + k * 4 + 3, none⟩ = some (.slice m.t n m.d)
theorem SlM.below {n : Nat} {w w' : World} {A : Option Addr} {ms : List MRow} (h : SlM n w A ms) (hb : Below w.heap.size w w') : SlM n w' A ms := by
  rcases h with h | ⟨g, off, ha, hg, hc⟩
  · exact .inl h
  · exact .inr ⟨g, off, ha, Nat.lt_of_lt_of_le hg hb.size, fun k p hk => ⟨carry hb (hc k p hk).1, carry hb (hc k p hk).2.1, carry hb (hc k p hk).2.2.1, carry hb (hc k p hk).2.2.2⟩⟩
theorem own_slM {w : World} {n lo c : Nat} {a : Option Addr} {ms : List MRow} (h : w.ownsRow lo 91 4 (.slice a ms.length c) ms.length (flatM n ms)) : SlM n w a ms := by
  have hc := fun g hg => h.cells (g := g) hg
  obtain ⟨_, ⟨e, h0⟩ | ⟨g, cap, cur, e, _, hh, _⟩⟩ := h
  · exact .inl (List.length_eq_zero_iff.1 h0)
  · injection e with e _ _
    subst e
    refine .inr ⟨g, 0, rfl, (Array.getElem?_eq_some_iff.1 hh).1, fun k m hk => ?_⟩
    have hx : ∀ i x, i < 4 → (m.cells n)[i]? = some x → w.cell? ⟨g, 0 + (k * 4 + i), none⟩ = some x := fun i x hi hx => by
      have := hc g rfl (k * 4 + i) x (by rw [flatM_get hi hk]; exact hx)
      rw [show (⟨g, 0, none⟩ : Addr).add (k * 4 + i) = ⟨g, 0 + (k * 4 + i), none⟩ by unfold Addr.add; split <;> simp_all] at this
      exact this
    exact ⟨hx 0 _ (by omega) rfl, hx 1 _ (by omega) rfl, hx 2 _ (by omega) rfl, hx 3 _ (by omega) rfl⟩
/-- a block is not that of a row of its own -/
def apA (v : Value) (A : Option Addr) : Prop := ∀ g off, A = some ⟨g, off, none⟩ → v.ownBlock ≠ some g
theorem Ints.growM {w w' : World} {v : Value} {A : Option Addr} {n : Nat} {Z : Nat → Int} (h : Ints w A n Z) (hg : w.grownBy w' v.ownBlock) (ha : apA v A) : Ints w' A n Z := by
  rcases h with h | ⟨g, off, e, hl, hc⟩
  · exact .inl h
  · exact .inr ⟨g, off, e, Nat.lt_of_lt_of_le hl hg.size, fun k hk => hg.cell (hc k hk) (fun e2 => ha g off e e2.symm)⟩
theorem apA_lt {w : World} {lo n m size : Nat} {e : TypeId} {v : Value} {xs : List Value} {A : Option Addr} {Z : Nat → Int} (hn : n ≠ 0) (h : Ints w A n Z) {u : World} (ho : u.ownsRow lo e size v m xs) (hl : w.heap.size ≤ lo) : apA v A := by
  rcases h with h | ⟨g, off, rfl, hg, _⟩
  · exact absurd h hn
  · intro g' off' e1 e2
    injection e1 with e1
    injection e1 with e1 _ _
    subst e1
    have := (ho.lt g e2).1
    omega
theorem apA_new {w : World} {lo m size g : Nat} {e : TypeId} {v : Value} {xs : List Value} (ho : w.ownsRow lo e size v m xs) (hg : w.heap.size ≤ g) : apA v (some ⟨g, 0, none⟩) := by
  intro g' off' e1 e2
  injection e1 with e1
  injection e1 with e1 _ _
  subst e1
  have := (ho.lt g e2).2
  omega
theorem apA.next {w : World} {v v' : Value} {A : Option Addr} (h : apA v A) (hk : v'.ownBlock = v.ownBlock ∨ v'.ownBlock = some w.heap.size) (hA : ∀ g off, A = some ⟨g, off, none⟩ → g < w.heap.size) : apA v' A := by
  intro g off e e2
  rcases hk with hk | hk
  · exact h g off e (hk.symm.trans e2)
  · have := hA g off e
    rw [hk] at e2
    injection e2 with e2
    omega
theorem Ints.ltM {w : World} {A : Option Addr} {n : Nat} {Z : Nat → Int} (hn : n ≠ 0) (h : Ints w A n Z) : ∀ g off, A = some ⟨g, off, none⟩ → g < w.heap.size := by
  intro g off e
  rcases h with h | ⟨g', off', e', hg, _⟩
  · exact absurd h hn
  · rw [e] at e'
    injection e' with e'
    injection e' with e' _ _
    omega
theorem fl_growM {w u w6 : World} {v : Value} (hb : Below w.heap.size w u) (hg : u.grownBy w6 v.ownBlock) (h : ∀ g, v.ownBlock = some g → w.heap.size ≤ g) : Below w.heap.size w w6 :=
  ⟨hg.os.trans hb.os, hg.tape.trans hb.tape, hg.output.trans hb.output, Nat.le_trans hb.size hg.size, fun j hj => (hg.block j (Nat.lt_of_lt_of_le hj hb.size) (fun e => by have := h _ e.symm; omega)).trans (hb.block j hj)⟩
theorem infoMR : (Try.prog.info? 91).map (fun i => (i.zero, i.size, i.bytes)) = some (some (.agg #[.slice none 0 0, .int .i64 0, .bool false, .slice none 0 0]), 4, 64) := by kernel_rfl
theorem build_mr (x0 x1 x2 : Value) (t : Option Addr) (n d : Nat) (w : World) : (Instr.build 91 #[(0, .agg #[x0, x1, x2]), (1, .slice t n d)]).run Try.prog w = .ok (.agg #[x0, x1, x2, .slice t n d]) w := by kernel_rfl
theorem one_mr (n : Nat) (m : MRow) : ∀ u ∈ m.cells n, u.oneCell' = true := fun u hu => by
  simp only [MRow.cells, List.mem_cons, List.not_mem_nil, or_false] at hu
  rcases hu with rfl | rfl | rfl | rfl <;> rfl
theorem news_mr (w : World) (n : Nat) (m : MRow) (t : TypeId) : ∀ j u, (m.cells n)[j]? = some u → (w.alloc (.cells #[.slice m.a 4 m.c, .int .i64 m.r.B, .bool m.r.S, .slice m.t n m.d] t)).cell? ((⟨w.heap.size, 0, none⟩ : Addr).add j) = some u := by
  intro j u hj
  rw [show (⟨w.heap.size, 0, none⟩ : Addr).add j = ⟨w.heap.size, j, none⟩ by unfold Addr.add; split <;> simp_all]
  have hj4 : j < 4 := by
    have := (List.getElem?_eq_some_iff.1 hj).1
    simpa [MRow.cells] using this
  rcases (show j = 0 ∨ j = 1 ∨ j = 2 ∨ j = 3 by omega) with rfl | rfl | rfl | rfl <;> (simp [MRow.cells] at hj; subst hj; simp [go_sem])
/-- what l3Rows answers -/
def MRowsP (w : World) (n : Nat) (L : Lst) (e : Ending) (w' : World) : Prop :=
  ∃ A c ms, e = .returned (.slice A n c) ∧ Below w.heap.size w w' ∧ ms.length = n ∧ SlM n w' A ms ∧ (∀ m ∈ ms, MRd n w' m) ∧ ms.map MRow.r = givenL n L
set_option maxRecDepth 100000 in
set_option maxHeartbeats 4000000 in
theorem srows_any (A : Option Addr) (n c : Nat) (L : Lst) (w : World) (hn : n ≤ 20) (hA : Lins w A n L) (hN : ∀ k, k < n → L.N k = 4) :
    Calls Try.prog 53 #[.slice A n c] w (MRowsP w n L) := by
  obtain ⟨i0, hi, hz0, hz1, hz2⟩ := info_parts infoMR
  have hmk := run_make_row' (P := Try.prog) 24 3 (.int .i64 0) 8 Try.underlying24 infoI rfl .i64 .i64 n (by omega) (by omega)
  have HN := hid hN; clear hN
  have ho0 : (w.alloc (.cells #[] 91)).ownsRow w.heap.size 91 4 (.slice (some ⟨w.heap.size, 0, none⟩) 0 0) 0 (flatM n []) := World.ownsRow_made w #[] 0 (Nat.le_refl _) (by decide) rfl
  have hb0 : Below w.heap.size w (w.alloc (.cells #[] 91)) := bal (Below.refl _ _) _
  have hbm := build_mr
  go_enter Try.func53, Try.ntmps53
  go_wp2
  go_loopw [3, 4] (fun r3 i wr => ∃ (k : Nat) (ms : List MRow), k ≤ n ∧ i = .int .i64 k ∧ Below w.heap.size w wr ∧ ms.length = k ∧ wr.ownsRow w.heap.size 91 4 r3 k (flatM n ms) ∧ (∀ m ∈ ms, MRd n wr m ∧ apA r3 m.a ∧ apA r3 m.t) ∧ ms.map MRow.r = (givenL n L).take k) (fun _ i _ => n - (intOf i).toNat)
  case atStart => exact ⟨0, [], Nat.zero_le _, rfl, hb0, rfl, ho0, (fun m hm => by cases hm), by simp⟩
  case round =>
    clear ho0 hb0
    obtain ⟨k, ms, hk, rfl, hb, hml, ho, hm, hms⟩ := hrel
    have HO := hid ho; have HM := hid hm; have HMS := hid hms
    have HML := hid hml
    clear ho hm hms hml
    by_cases hlt : k < n
    · rcases hA with h0 | ⟨g, off, rfl, hg, hcA⟩
      · omega
      obtain ⟨a, ca, a0, a1, a2, _, hI⟩ := hcA k hlt
      rw [HN.out k hlt] at a0 hI
      have hIw := hid hI
      replace a0 := carry hb a0
      replace a1 := carry hb a1
      replace a2 := carry hb a2
      replace hI := hI.below hb
      have gg : g < wr.heap.size := cell_lt a0
      clear hcA
      have hrow := World.rowIs_made wr (.int .i64 0) n 3
      have hq1 : Below wr.heap.size wr (wr.alloc (.cells (madeCells #[.int .i64 0] n) 3)) := bal (Below.refl _ _) _
      have hmk1 := hmk wr
      go_upto_region 6 with fail
      clear hmk1
      have hz1' := hq1.size
      have hl1 := hrow.lt
      generalize wr.alloc (.cells (madeCells #[.int .i64 0] n) 3) = u1 at *
      have t0 : u1.cell? ⟨wr.heap.size, k, none⟩ = some (.int .i64 0) := hrow.cell hlt
      have f0 : u1.frozen? ⟨wr.heap.size, k, none⟩ = false := hrow.frozen _
      have hrow2 := hrow.set k (.int .i64 1)
      have hq2 := bst hq1 (p := ⟨wr.heap.size, k, none⟩) (Nat.le_refl _) (.int .i64 1)
      go_upto_region 7 with fail
      generalize u1.setCell ⟨wr.heap.size, k, none⟩ (.int .i64 1) = u2 at *
      replace a0 := carry hq2 a0
      replace a1 := carry hq2 a1
      replace a2 := carry hq2 a2
      replace hI := hI.below hq2
      have gg2 : g < u2.heap.size := cell_lt a0
      have hU : Ints u2 (some ⟨wr.heap.size, 0, none⟩) n (fun i => if i = k then 1 else 0) := (Ints.of_row (hrow2.congr fun i hi => by
        by_cases e : i = k <;> simp [e]))
      obtain ⟨m, hm⟩ : ∃ m : MRow, m = ⟨a, ca, some ⟨wr.heap.size, 0, none⟩, n, ⟨L.Z k, L.B k, L.S k, fun i => if i = k then 1 else 0⟩⟩ := ⟨_, rfl⟩
      have hn1 := news_mr u2 n m 91
      have h1c := one_mr n m
      have hmr : MRd n u2 m := by rw [hm]; exact ⟨hI, hU⟩
      rw [hm] at hn1
      simp only at hn1
      have hbA := bal (Below.refl u2.heap.size u2) (.cells #[.slice a 4 ca, .int .i64 (L.B k), .bool (L.S k), .slice (some ⟨wr.heap.size, 0, none⟩) n n] 91)
      have hoA := hid (own_below hbA (own_below hq2 HO.out))
      have hap1 : apA u3 a := apA_lt (by omega) hIw.out HO.out (Nat.le_refl _)
      have hap2 : apA u3 (some ⟨wr.heap.size, 0, none⟩) := apA_new HO.out (Nat.le_refl _)
      have hszA : w.heap.size ≤ (u2.alloc (.cells #[.slice a 4 ca, .int .i64 (L.B k), .bool (L.S k), .slice (some ⟨wr.heap.size, 0, none⟩) n n] 91)).heap.size := Nat.le_trans (Nat.le_trans hb.size hq2.size) hbA.size
      have hmm := hid (show ∀ x ∈ ms ++ [m], MRd n (u2.alloc (.cells #[.slice a 4 ca, .int .i64 (L.B k), .bool (L.S k), .slice (some ⟨wr.heap.size, 0, none⟩) n n] 91)) x ∧ apA u3 x.a ∧ apA u3 x.t from fun x hx => by
        rcases List.mem_append.1 hx with hx | hx
        · obtain ⟨h1, h2, h3⟩ := HM.out x hx
          exact ⟨(h1.below hq2).below hbA, h2, h3⟩
        · obtain rfl := List.mem_singleton.1 hx
          refine ⟨hmr.below hbA, ?_, ?_⟩
          · rw [hm]; exact hap1
          · rw [hm]; exact hap2)
      have hbb := hid (btr (btr hb hq2) hbA)
      have hmr2 := hid (show m.r = ⟨L.Z k, L.B k, L.S k, fun i => if i = k then 1 else 0⟩ by rw [hm])
      have hcells := hid (show m.cells n = [.slice a 4 ca, .int .i64 (L.B k), .bool (L.S k), .slice (some ⟨wr.heap.size, 0, none⟩) n n] by rw [hm]; rfl)
      have HN1 := hid hn1; have H1C := hid h1c
      clear hbA hap1 hap2 hmr hm hn1 h1c hIw hI hU hrow hrow2 t0 f0 hq1 hq2 hl1
      go_wp2_with ((at_builtin; go_loud (refine wpList_append_own_at _ rfl _ _ 86 rfl w.heap.size 91 i0 _ 4 64 Try.underlying86 hi hz0 hz1 hz2 rfl (by decide) _ _ _ rfl hoA.out ⟨u2.heap.size, 0, none⟩ 1 1 [.slice a 4 ca, .int .i64 (L.B k), .bool (L.S k), .slice (some ⟨wr.heap.size, 0, none⟩) n n] rfl rfl HN1.out (by have h1 := H1C.out; rw [hcells.out] at h1; exact h1) (by unfold maxLen; omega) (by omega) hszA ?_); intro v' w5 hown hgrow _ hblk; have hb5 := hid (fl_growM hbb.out hgrow (fun g e => (hoA.out.lt g e).1)); have HOW := hid hown; have HGR := hid hgrow; have HBL := hid hblk; clear hown hgrow hblk))
      go_roundw
      case rel =>
        refine ⟨k + 1, ms ++ [m], by omega, by go_num, hb5.out, by rw [List.length_append, HML.out]; rfl, by rw [flatM_app, flatM_one, hcells.out]; exact HOW.out, fun x hx => ?_, ?_⟩
        · obtain ⟨h1, h2, h3⟩ := hmm.out x hx
          by_cases hn0 : n = 0
          · omega
          · exact ⟨⟨h1.1.growM HGR.out h2, h1.2.growM HGR.out h3⟩, h2.next HBL.out (h1.1.ltM (by omega)), h3.next HBL.out (h1.2.ltM hn0)⟩
        · rw [List.map_append, HMS.out, List.map_cons, List.map_nil, hmr2.out, List.take_add_one]
          have hgk : (givenL n L)[k]? = some ⟨L.Z k, L.B k, L.S k, fun i => if i = k then 1 else 0⟩ := by
            unfold givenL
            rw [List.getElem?_map, List.getElem?_range hlt]; rfl
          rw [hgk]; rfl
      case measure => simp [intOf]; omega
    · have hke : k = n := by omega
      obtain ⟨a3, c3, e3⟩ := (show ∃ a c, u3 = .slice a k c from by
        obtain ⟨_, ⟨e, h0⟩ | ⟨g, cap, cur, e, _⟩⟩ := HO.out
        · exact ⟨none, 0, by rw [e, h0]⟩
        · exact ⟨_, _, e⟩)
      subst e3
      subst hke
      go_wp2
      go_ret
      refine ⟨a3, c3, ms, rfl, hb, HML.out, own_slM (c := c3) (by rw [HML.out]; exact HO.out), fun m hm => (HM.out m hm).1, by rw [HMS.out, List.take_of_length_le (by rw [given_len]; omega)]⟩
end Go.Proofs.Ytplocljoanaoeaa

namespace Go.Proofs.Ytplocljoanaoeaa
set_option linter.unusedVariables false
set_option linter.unusedSimpArgs false
open Go.RowKit
def SBothP (w : World) (n : Nat) (r : FRw) (ok : Bool) (e : Ending) (w' : World) : Prop :=
  ∃ A m c b s T t d, e = .returned (.tuple #[.agg #[.slice A m c, .int .i64 b, .bool s, .slice T t d], .bool ok]) ∧ Below w.heap.size w w' ∧ (ok = true → m = 4 ∧ t = n ∧ b = r.B ∧ s = r.S ∧ OwnI w w' A 4 r.Z ∧ OwnI w w' T n r.U)
theorem okU_n {n v : Nat} {a b : FRw} (hn : n ≤ 20) (ha : a.ok n) (hb : b.ok n) : okU n (bothF a b v).U = okU 20 (bothF a b v).U := by
  rw [Bool.eq_iff_iff, okU_iff, okU_iff]
  constructor
  · intro h i hi
    by_cases e : i < n
    · exact h i e
    · show mF a b v * a.U i + nF a b v * b.U i ≤ _
      rw [ha.2.2 i (by omega), hb.2.2 i (by omega)]; simp
  · intro h i hi
    exact h i (by omega)
/-- a loop that appends numbers to the fourth cell of block B -/
def BlU (B : Nat) (w1 : World) (x0 x1 x2 : Value) (U : Nat → Int) (k : Nat) (wr : World) : Prop :=
  ∃ v, Below B w1 wr ∧ wr.ownsRow (B + 1) 3 1 v k (vals k U) ∧ wr.cell? ⟨B, 0, none⟩ = some x0 ∧ wr.cell? ⟨B, 1, none⟩ = some x1 ∧ wr.cell? ⟨B, 2, none⟩ = some x2 ∧ wr.cell? ⟨B, 3, none⟩ = some v ∧ wr.frozen? ⟨B, 3, none⟩ = false
theorem BlU.start (w1 : World) (x0 x1 x2 : Value) (U : Nat → Int) (t : TypeId) : BlU w1.heap.size w1 x0 x1 x2 U 0 (w1.alloc (.cells #[x0, x1, x2, .slice none 0 0] t)) :=
  ⟨_, bal (Below.refl _ _) _, World.ownsRow_nil _ _ _ _, by simp [go_sem], by simp [go_sem], by simp [go_sem], by simp [go_sem], by simp [go_sem]⟩
theorem BlU.step {B k : Nat} {w1 wr w3 : World} {x0 x1 x2 v v' : Value} {U : Nat → Int} (x : Value) (hb : Below B w1 wr) (hBr : B < wr.heap.size) (ho : wr.ownsRow (B + 1) 3 1 v k (vals k U)) (h0 : wr.cell? ⟨B, 0, none⟩ = some x0) (h1 : wr.cell? ⟨B, 1, none⟩ = some x1) (h2 : wr.cell? ⟨B, 2, none⟩ = some x2) (h3 : wr.cell? ⟨B, 3, none⟩ = some v) (hf : wr.frozen? ⟨B, 3, none⟩ = false)
    (hown : w3.ownsRow (B + 1) 3 1 v' (k + 1) (vals k U ++ [.int .i64 (U k)])) (hg : (wr.alloc (.cells #[x] 3)).grownBy w3 v.ownBlock) :
    w3.cell? ⟨B, 3, none⟩ = some v ∧ w3.frozen? ⟨B, 3, none⟩ = false ∧ BlU B w1 x0 x1 x2 U (k + 1) (w3.setCell ⟨B, 3, none⟩ v') := by
  have hne : v.ownBlock ≠ some B := by
    intro he
    have := (ho.lt B he).1
    omega
  have kc : ∀ o u, wr.cell? ⟨B, o, none⟩ = some u → w3.cell? ⟨B, o, none⟩ = some u := fun o u h => hg.cell (a := ⟨B, o, none⟩) (carryA _ h) (Ne.symm hne)
  have blk := hg.block B (by simp; omega) (Ne.symm hne)
  have f3 : w3.frozen? ⟨B, 3, none⟩ = false := by
    rw [World.frozen?_of_block (w := wr.alloc (.cells #[x] 3)) (a := ⟨B, 3, none⟩) blk]
    exact carryAf _ hf hBr
  have b3 : Below B w1 w3 := by
    refine (hb.alloc (by omega) _).grown hg (by simp; omega) ?_
    intro j hj
    have := (ho.lt j hj).1
    omega
  refine ⟨kc 3 _ h3, f3, v', b3.setCell (Nat.le_refl _) _, ?_, ?_, ?_, ?_, World.cell?_setCell_same _ _ _ (kc 3 _ h3), by simpa [go_sem] using f3⟩
  · rw [vals_snoc]; exact ownsRow_setCell_below hown (a := ⟨B, 3, none⟩) (by simp) _
  · rw [World.cell?_setCell_other _ _ _ _ (by simp)]; exact kc 0 _ h0
  · rw [World.cell?_setCell_other _ _ _ _ (by simp)]; exact kc 1 _ h1
  · rw [World.cell?_setCell_other _ _ _ _ (by simp)]; exact kc 2 _ h2
theorem BlU.below {B k : Nat} {w1 wr wr' : World} {x0 x1 x2 : Value} {U : Nat → Int} (h : BlU B w1 x0 x1 x2 U k wr) (hq : Below wr.heap.size wr wr') : BlU B w1 x0 x1 x2 U k wr' := by
  obtain ⟨v, hb, ho, h0, h1, h2, h3, hf⟩ := h
  have hB := cell_lt h0
  exact ⟨v, hb.trans (hq.mono (by have : B < wr.heap.size := hB; omega)), own_below hq ho, carry hq h0, carry hq h1, carry hq h2, carry hq h3, carryf hq hf hB⟩
theorem okU_zero (U : Nat → Int) : okU 0 U = true := okU_iff.2 (fun i hi => absurd hi (by omega))
theorem okU_succ (k : Nat) (U : Nat → Int) : okU (k + 1) U = (okU k U && decide (U k ≤ 1000000)) := by
  rw [Bool.eq_iff_iff, Bool.and_eq_true, okU_iff, okU_iff, decide_eq_true_iff]
  constructor
  · intro h; exact ⟨fun i hi => h i (by omega), h k (by omega)⟩
  · rintro ⟨h1, h2⟩ i hi
    by_cases e : i = k
    · subst e; exact h2
    · exact h1 i (by omega)
theorem build_mr0 (x0 x1 x2 : Value) (w : World) : (Instr.build 91 #[(0, .agg #[x0, x1, x2])]).run Try.prog w = .ok (.agg #[x0, x1, x2, .slice none 0 0]) w := by kernel_rfl
set_option maxRecDepth 100000 in
set_option maxHeartbeats 8000000 in
theorem sboth_any (n v : Nat) (ma mb : MRow) (w : World) (hv : v < 4) (hn0 : 0 < n) (hn : n ≤ 20) (ha : MRd n w ma) (hb : MRd n w mb) (oa : ma.r.ok n) (ob : mb.r.ok n) (h1 : 0 < ma.r.Z v) (h2 : mb.r.Z v < 0) :
    Calls Try.prog 83 #[.agg #[.slice ma.a 4 ma.c, .int .i64 ma.r.B, .bool ma.r.S, .slice ma.t n ma.d], .agg #[.slice mb.a 4 mb.c, .int .i64 mb.r.B, .bool mb.r.S, .slice mb.t n mb.d], .int .i64 v] w (SBothP w n (bothF ma.r mb.r v) (okF ma.r mb.r v)) := by
  obtain ⟨i0, hi, hz0, hz1, hz2⟩ := info_parts infoI
  obtain ⟨za1, za2⟩ := oa.z hv
  obtain ⟨zb1, zb2⟩ := ob.z hv
  obtain ⟨g1, g2, ⟨m1, m2⟩, ⟨n1, n2⟩⟩ := mF_bd h1 za2 h2 zb1
  have hG : ∀ W, Calls Try.prog 107 #[.int .i64 (ma.r.Z v), .int .i64 (-(mb.r.Z v))] W fun e w' => e = .returned (.int .i64 (gcF ma.r mb.r v)) ∧ ∃ n, w' = W.drewN n := fun W => lgcd_any (ma.r.Z v) (-(mb.r.Z v)) W (by omega) (by omega) (by omega) (by omega)
  have q1 : wrap64 (-((mb.r.Z v).tdiv (gcF ma.r mb.r v))) = mF ma.r mb.r v := by
    rw [← Int.neg_tdiv, show (-(mb.r.Z v)).tdiv (gcF ma.r mb.r v) = mF ma.r mb.r v from Int.tdiv_eq_ediv_of_nonneg (by omega)]
    exact IntWalk.wrap64_in _ (by omega)
  have Q1 := hid q1; have Q2 := hid (show ma.r.Z v / gcF ma.r mb.r v = nF ma.r mb.r v from rfl); clear q1
  have hLA := hid (fun W (x : Ints W ma.a 4 ma.r.Z) (y : Ints W mb.a 4 mb.r.Z) => lladd_any ma.a ma.c ma.r.Z ma.r.B (mF ma.r mb.r v) ma.r.S mb.a mb.c mb.r.Z mb.r.B (nF ma.r mb.r v) mb.r.S W x y oa.1 ob.1 (by omega) (by omega))
  have HU := hid (fun i => (show (0 ≤ mF ma.r mb.r v * ma.r.U i ∧ mF ma.r mb.r v * ma.r.U i ≤ 1000000000000) ∧ (0 ≤ nF ma.r mb.r v * mb.r.U i ∧ nF ma.r mb.r v * mb.r.U i ≤ 1000000000000) from by
    have u1 := oa.2.1 i
    have u2 := ob.2.1 i
    have b1 := mul_bd6 (x := mF ma.r mb.r v) (y := ma.r.U i) (by omega) (by omega)
    have b2 := mul_bd6 (x := nF ma.r mb.r v) (y := mb.r.U i) (by omega) (by omega)
    have p1 := Int.mul_nonneg (show 0 ≤ mF ma.r mb.r v by omega) u1.1
    have p2 := Int.mul_nonneg (show 0 ≤ nF ma.r mb.r v by omega) u2.1
    exact ⟨⟨p1, b1.2⟩, p2, b2.2⟩))
  have hadd : addR2 ma.r.Z ma.r.B ma.r.S (mF ma.r mb.r v) mb.r.Z mb.r.B mb.r.S (nF ma.r mb.r v) = if okL 4 (bothF ma.r mb.r v).Z (bothF ma.r mb.r v).B = true then ((4, (bothF ma.r mb.r v).Z, (bothF ma.r mb.r v).B, (bothF ma.r mb.r v).S), true) else (zeroL, false) := rfl
  have ho : okF ma.r mb.r v = (okL 4 (bothF ma.r mb.r v).Z (bothF ma.r mb.r v).B && okU n (bothF ma.r mb.r v).U) := by unfold okF; rw [okU_n hn oa ob]
  have HJU := hid (fun i => (show mF ma.r mb.r v * ma.r.U i + nF ma.r mb.r v * mb.r.U i = (bothF ma.r mb.r v).U i from rfl))
  rw [hadd] at hLA
  rw [ho]
  clear ho hadd oa ob
  obtain ⟨aA, aC, aT, aD, ar⟩ := ma
  obtain ⟨bA, bC, bT, bD, br⟩ := mb
  simp only at *
  generalize bothF ar br v = rj at *
  generalize gcF ar br v = g at *
  generalize mF ar br v = m at *
  generalize nF ar br v = n' at *
  have hb3 : Below w.heap.size w (((w.alloc (.cells #[.slice aA 4 aC, .int .i64 ar.B, .bool ar.S, .slice aT n aD] 91)).alloc (.cells #[.slice bA 4 bC, .int .i64 br.B, .bool br.S, .slice bT n bD] 91)).alloc (.cells #[.slice none 0 0, .int .i64 0, .bool false, .slice none 0 0] 91)) := bal (bal (bal (Below.refl _ _) _) _) _
  obtain ⟨hIa, hTa⟩ := (show MRd n w ⟨aA, aC, aT, aD, ar⟩ from ha).below hb3
  obtain ⟨hIb, hTb⟩ := (show MRd n w ⟨bA, bC, bT, bD, br⟩ from hb).below hb3
  have K : KcL [(w.heap.size, 0, .slice aA 4 aC), (w.heap.size, 1, .int .i64 ar.B), (w.heap.size, 2, .bool ar.S), (w.heap.size, 3, .slice aT n aD), (w.heap.size + 1, 0, .slice bA 4 bC), (w.heap.size + 1, 1, .int .i64 br.B), (w.heap.size + 1, 2, .bool br.S), (w.heap.size + 1, 3, .slice bT n bD), (w.heap.size + 1 + 1, 0, .slice none 0 0), (w.heap.size + 1 + 1, 1, .int .i64 0), (w.heap.size + 1 + 1, 2, .bool false), (w.heap.size + 1 + 1, 3, .slice none 0 0)] (((w.alloc (.cells #[.slice aA 4 aC, .int .i64 ar.B, .bool ar.S, .slice aT n aD] 91)).alloc (.cells #[.slice bA 4 bC, .int .i64 br.B, .bool br.S, .slice bT n bD] 91)).alloc (.cells #[.slice none 0 0, .int .i64 0, .bool false, .slice none 0 0] 91)) := by
    refine ⟨?_, ?_, ?_, ?_, ?_, ?_, ?_, ?_, ?_, ?_, ?_, ?_, trivial⟩ <;> simp [go_sem]
  have fr : ∀ o, (((w.alloc (.cells #[.slice aA 4 aC, .int .i64 ar.B, .bool ar.S, .slice aT n aD] 91)).alloc (.cells #[.slice bA 4 bC, .int .i64 br.B, .bool br.S, .slice bT n bD] 91)).alloc (.cells #[.slice none 0 0, .int .i64 0, .bool false, .slice none 0 0] 91)).frozen? ⟨w.heap.size + 1 + 1, o, none⟩ = false := fun o => by simp [go_sem]
  have HI1 := hid hIa; have HI2 := hid hIb
  rcases hIa with h0 | ⟨ga, oa, rfl, hga, hca⟩
  · omega
  rcases hIb with h0 | ⟨gb, ob, rfl, hgb, hcb⟩
  · omega
  have ca := hca v hv
  have cb := hcb v hv
  clear hca hcb ha hb
  have HTa := hid hTa; have HTb := hid hTb; clear hTa hTb
  go_enter Try.func83, Try.ntmps83
  go_upto_region 1 with fail
  generalize ((w.alloc (.cells #[.slice (some ⟨ga, oa, none⟩) 4 aC, .int .i64 ar.B, .bool ar.S, .slice aT n aD] 91)).alloc (.cells #[.slice (some ⟨gb, ob, none⟩) 4 bC, .int .i64 br.B, .bool br.S, .slice bT n bD] 91)).alloc (.cells #[.slice none 0 0, .int .i64 0, .bool false, .slice none 0 0] 91) = w3 at *
  have HH_ := K; obtain ⟨k0, k1, k2, k3, k4, k5, k6, k7, k8, k9, k10, k11, _⟩ := HH_
  have l0 := cell_lt k0
  have l4 := cell_lt k4
  have l8 := cell_lt k8
  have L8 := hid l8
  go_quiet ((go_at_call 107; exact Calls.quiet_of (hG _)))
  have qd : Below w3.heap.size w3 (w3.drewN nq) := bdn (Below.refl _ _) nq
  clear k0 k1 k2 k3 k4 k5 k6 k7 k8 k9 k10 k11
  clear l0 l4 l8
  replace K := K.below qd
  replace fr := fun o => carryf qd (fr o) L8.out
  replace hb3 := btr hb3 qd
  replace ca := carry qd ca
  replace cb := carry qd cb
  replace HTa := hid (HTa.out.below qd)
  replace HTb := hid (HTb.out.below qd)
  have hIa := HI1.out.below qd
  have hIb := HI2.out.below qd
  replace hga := cell_lt ca
  replace hgb := cell_lt cb
  clear HI1 HI2 L8 qd hG
  generalize w3.drewN nq = w4 at *
  have HH_ := K; obtain ⟨k0, k1, k2, k3, k4, k5, k6, k7, k8, k9, k10, k11, _⟩ := HH_
  have l0 := cell_lt k0
  have l4 := cell_lt k4
  go_upto_region 4 with fail
  rw [Q1.out, Q2.out]
  clear Q1 Q2 za1 za2 zb1 zb2 h1 h2 g1 g2
  have hL := hLA.out w4 hIa hIb
  clear hLA hIa hIb
  go_wp2_with fail
  have hlo : (if okL 4 rj.Z rj.B = true then (((4, rj.Z, rj.B, rj.S) : LinR), true) else (zeroL, false)).2 = okL 4 rj.Z rj.B ∧ (okL 4 rj.Z rj.B = true → (if okL 4 rj.Z rj.B = true then (((4, rj.Z, rj.B, rj.S) : LinR), true) else (zeroL, false)).1 = (4, rj.Z, rj.B, rj.S)) := by
    cases h : okL 4 rj.Z rj.B
    · exact ⟨rfl, fun e => by cases e⟩
    · exact ⟨rfl, fun _ => rfl⟩
  generalize (if okL 4 rj.Z rj.B = true then (((4, rj.Z, rj.B, rj.S) : LinR), true) else (zeroL, false)) = R at hL hlo
  obtain ⟨⟨lm, lz, lb, ls⟩, lo⟩ := R
  obtain ⟨hlo1, hlo2⟩ := hlo
  simp only at hlo1 hlo2
  subst hlo1
  have HLO := hid hlo2; clear hlo2
  generalize okL 4 rj.Z rj.B = lo at *
  refine hL.mono ?_
  clear hL
  rintro e w5 ⟨x, rfl, ⟨A', c', rfl, hc1, hc2, hO⟩, hq⟩
  simp only at hc1 hc2 hO
  clear k0 k1 k2 k3 k4 k5 k6 k7 k8 k9 k10 k11
  clear l0 l4 ca cb hga hgb
  have hz8 : w.heap.size + 2 < w4.heap.size := by
    obtain ⟨_, _, _, _, _, _, _, _, k8, _⟩ := K
    exact cell_lt k8
  have hz45 := hq.size
  replace K := K.below hq
  replace fr := fun o => carryf hq (fr o) (show w.heap.size + 1 + 1 < w4.heap.size by omega)
  replace hb3 := btr hb3 hq
  replace HTa := hid (HTa.out.below hq)
  replace HTb := hid (HTb.out.below hq)
  have hbm0 := build_mr0
  have al := bal (Below.refl w5.heap.size w5) (.cells #[.slice A' lm c', .int .i64 lb, .bool ls] 28)
  replace K := K.below al
  replace fr := fun o => carryf al (fr o) (show w.heap.size + 1 + 1 < w5.heap.size by omega)
  replace hb3 := btr hb3 al
  replace HTa := hid (HTa.out.below al)
  replace HTb := hid (HTb.out.below al)
  replace hO := hO.below al
  have hz5 : w.heap.size + 2 < (w5.alloc (.cells #[.slice A' lm c', .int .i64 lb, .bool ls] 28)).heap.size := by simp; omega
  clear al hq
  go_upto_region 6 with fail
  clear hbm0
  have hz56 : (w5.alloc (.cells #[.slice A' lm c', .int .i64 lb, .bool ls] 28)).heap.size = w5.heap.size + 1 := by simp
  have hBl := BlU.start (w5.alloc (.cells #[.slice A' lm c', .int .i64 lb, .bool ls] 28)) (.slice A' lm c') (.int .i64 lb) (.bool ls) rj.U 91
  rw [← hz56]
  have hz57 : w5.heap.size < (w5.alloc (.cells #[.slice A' lm c', .int .i64 lb, .bool ls] 28)).heap.size := by omega
  clear hz56
  generalize w5.alloc (.cells #[.slice A' lm c', .int .i64 lb, .bool ls] 28) = w6 at *
  have HO := hid hO; clear hO
  have HK := hid K; clear K
  have HBd := hid hb3; clear hb3
  have HFR := hid fr; clear fr
  generalize w6.alloc (.cells #[.slice A' lm c', .int .i64 lb, .bool ls, .slice none 0 0] 91) = w7 at *
  go_wp2
  go_loopw [12, 14] (fun s i wr => ∃ k : Nat, k ≤ n ∧ i = .int .i64 k ∧ s = .bool (lo && okU k rj.U) ∧ BlU w6.heap.size w6 (.slice A' lm c') (.int .i64 lb) (.bool ls) rj.U k wr) (fun _ i _ => n - (intOf i).toNat)
  case atStart => exact ⟨0, Nat.zero_le _, rfl, by rw [okU_zero, Bool.and_true], hBl⟩
  case round =>
    clear hBl
    obtain ⟨k, hk, rfl, rfl, hBl⟩ := hrel
    obtain ⟨v0, hb, ho, o0, o1, o2, o3, of⟩ := hBl
    have HOW := hid ho
    obtain ⟨k0, k1, k2, k3, k4, k5, k6, k7, k8, k9, k10, k11, _⟩ := HK.out
    replace k3 := (hb.cell (p := ⟨w.heap.size, 3, none⟩) (cell_lt k3)).trans k3
    replace k7 := (hb.cell (p := ⟨w.heap.size + 1, 3, none⟩) (cell_lt k7)).trans k7
    have l3 := cell_lt k3
    have l7 := cell_lt k7
    clear k0 k1 k2 k4 k5 k6 k8 k9 k10 k11
    have lB := cell_lt o0
    by_cases hlt : k < n
    · rcases HTa.out.below hb with h0 | ⟨gt, ot, rfl, hgt, hct⟩
      · omega
      rcases HTb.out.below hb with h0 | ⟨gu, ou, rfl, hgu, hcu⟩
      · omega
      have ct := hct k hlt
      have cu := hcu k hlt
      obtain ⟨⟨u1, u2⟩, u3, u4⟩ := HU.out k
      obtain ⟨va, vc, rfl⟩ := own_slice ho
      clear hct hcu
      generalize hx : (lo && okU k rj.U) = s
      have HX := hid hx; clear hx ho
      go_upto_region 9 with fail
      go_quiet (fail)
      have qd : Below wr.heap.size wr (wr.drewN nq) := bdn (Below.refl _ _) nq
      have hB8 := BlU.below ⟨_, hb, HOW.out, o0, o1, o2, o3, of⟩ qd
      clear qd HOW hb o0 o1 o2 o3 of ct cu hgt hgu k3 k7 l3 l7 lB
      go_upto_region 10 with fail
      rw [HJU.out]
      clear u1 u2 u3 u4
      generalize wr.drewN nq = w8 at *
      obtain ⟨v1, hb, ho, o0, o1, o2, o3, of⟩ := hB8
      obtain ⟨va1, vc1, rfl⟩ := own_slice ho
      have HOW := hid ho; clear ho
      have lB : w6.heap.size < w8.heap.size := cell_lt o0
      have hnews := new_one w8 (.int .i64 (rj.U k)) 3
      have hone : ∀ u ∈ ([Value.int .i64 (rj.U k)] : List Value), u.oneCell' = true := fun u hu => by simp at hu; subst hu; rfl
      have hsz : w6.heap.size + 1 ≤ (w8.alloc (.cells #[.int .i64 (rj.U k)] 3)).heap.size := by simp; omega
      cases s with
      | true =>
        go_wp2_with ((at_builtin; refine wpList_append_own _ rfl _ _ 24 rfl (w6.heap.size + 1) 3 i0 (.int .i64 0) 1 8 Try.underlying24 hi hz0 hz1 hz2 rfl (by decide) _ _ _ rfl (HOW.out.alloc _) ⟨w8.heap.size, 0, none⟩ 1 1 [.int .i64 (rj.U k)] rfl rfl hnews hone (by unfold maxLen; omega) (by omega) hsz ?_; intro v' w9 hown hgrow _; obtain ⟨vA, vC, rfl⟩ := own_slice hown; obtain ⟨m0, m1', hBs⟩ := BlU.step (.int .i64 (rj.U k)) hb lB HOW.out o0 o1 o2 o3 of hown hgrow; have HBS := hid hBs; have lB9 := cell_lt m0; clear hBs hown hgrow))
        go_roundw
        case rel => exact ⟨k + 1, by omega, by go_num, by rw [okU_succ, ← Bool.and_assoc, HX.out, Bool.true_and], HBS.out⟩
        case measure => simp [intOf]; omega
      | false =>
        go_wp2_with ((at_builtin; refine wpList_append_own _ rfl _ _ 24 rfl (w6.heap.size + 1) 3 i0 (.int .i64 0) 1 8 Try.underlying24 hi hz0 hz1 hz2 rfl (by decide) _ _ _ rfl (HOW.out.alloc _) ⟨w8.heap.size, 0, none⟩ 1 1 [.int .i64 (rj.U k)] rfl rfl hnews hone (by unfold maxLen; omega) (by omega) hsz ?_; intro v' w9 hown hgrow _; obtain ⟨vA, vC, rfl⟩ := own_slice hown; obtain ⟨m0, m1', hBs⟩ := BlU.step (.int .i64 (rj.U k)) hb lB HOW.out o0 o1 o2 o3 of hown hgrow; have HBS := hid hBs; have lB9 := cell_lt m0; clear hBs hown hgrow))
        go_roundw
        case rel => exact ⟨k + 1, by omega, by go_num, by rw [okU_succ, ← Bool.and_assoc, HX.out, Bool.false_and], HBS.out⟩
        case measure => simp [intOf]; omega
    · have hke : k = n := by omega
      subst hke
      obtain ⟨T, d, rfl, hd1, hd2, hT⟩ := own_new (W := w6) (by omega) (Nat.le_succ _) ho
      obtain ⟨_, _, _, _, _, _, _, _, k8, k9, k10, k11, _⟩ := HK.out
      have hz6 : w.heap.size + 2 < w6.heap.size := by omega
      have hbw := HBd.out.trans (hb.mono HBd.out.size)
      have f0 := (hb.frozen (p := ⟨w.heap.size + 1 + 1, 0, none⟩) (show w.heap.size + 1 + 1 < w6.heap.size by omega)).trans (HFR.out 0)
      have f1 := (hb.frozen (p := ⟨w.heap.size + 1 + 1, 1, none⟩) (show w.heap.size + 1 + 1 < w6.heap.size by omega)).trans (HFR.out 1)
      have f2 := (hb.frozen (p := ⟨w.heap.size + 1 + 1, 2, none⟩) (show w.heap.size + 1 + 1 < w6.heap.size by omega)).trans (HFR.out 2)
      have f3 := (hb.frozen (p := ⟨w.heap.size + 1 + 1, 3, none⟩) (show w.heap.size + 1 + 1 < w6.heap.size by omega)).trans (HFR.out 3)
      replace k8 := (hb.cell (p := ⟨w.heap.size + 1 + 1, 0, none⟩) (cell_lt k8)).trans k8
      replace k9 := (hb.cell (p := ⟨w.heap.size + 1 + 1, 1, none⟩) (cell_lt k9)).trans k9
      replace k10 := (hb.cell (p := ⟨w.heap.size + 1 + 1, 2, none⟩) (cell_lt k10)).trans k10
      replace k11 := (hb.cell (p := ⟨w.heap.size + 1 + 1, 3, none⟩) (cell_lt k11)).trans k11
      have hlr : w.heap.size + 1 + 1 < w4.heap.size := by omega
      have hlr6 : w.heap.size + 1 + 1 < w6.heap.size := by omega
      have HT := hid hT; clear hT
      have HOA := hid (HO.out.below hb)
      have HBW := hid hbw
      clear hb ho hbw l7 k7
      have l8 := cell_lt k8
      go_wp2
      obtain ⟨t0, t1, t2, t3⟩ := set4 k8 k9 k10 k11 (.slice A' lm c') (.int .i64 lb) (.bool ls) (.slice T k d)
      refine bodyPost_ret (v := .tuple #[.agg #[.slice A' lm c', .int .i64 lb, .bool ls, .slice T k d], .bool (lo && okU k rj.U)]) (by simp [results, Try.results83, go_sem, t0, t1, t2, t3]) rfl ⟨A', lm, c', lb, ls, T, k, d, rfl, ?_, fun h => ?_⟩
      · exact bst (bst (bst (bst HBW.out (p := ⟨w.heap.size + 1 + 1, 0, none⟩) (by simp only; omega) _) (p := ⟨w.heap.size + 1 + 1, 1, none⟩) (by simp only; omega) _) (p := ⟨w.heap.size + 1 + 1, 2, none⟩) (by simp only; omega) _) (p := ⟨w.heap.size + 1 + 1, 3, none⟩) (by simp only; omega) _
      · rw [Bool.and_eq_true] at h
        have e := HLO.out h.1
        simp only [Prod.mk.injEq] at e
        obtain ⟨rfl, rfl, rfl, rfl⟩ := e
        have hO4 := ((((HOA.out.set (o := 0) (.slice A' 4 c') hlr).set (o := 1) (.int .i64 rj.B) hlr).set (o := 2) (.bool rj.S) hlr).set (o := 3) (.slice T k d) hlr).old (W := w) (by omega)
        have hT4 := ((((HT.out.set (o := 0) (.slice A' 4 c') hlr6).set (o := 1) (.int .i64 rj.B) hlr6).set (o := 2) (.bool rj.S) hlr6).set (o := 3) (.slice T k d) hlr6).old (W := w) (by omega)
        exact ⟨rfl, rfl, rfl, rfl, hO4, hT4⟩
end Go.Proofs.Ytplocljoanaoeaa

namespace Go.Proofs.Ytplocljoanaoeaa
set_option linter.unusedVariables false
set_option linter.unusedSimpArgs false
open Go.RowKit
/-- what is appended in the first i rounds, and in the next one up to k -/
def prM (v : Nat) (l : List FRw) (i k : Nat) : List (FRw × FRw) := pairsL (upL v (l.take i)) (loL v l) ++ pairsL (upL v ((l.drop i).take 1)) (loL v (l.take k))
theorem drop_one {α : Type} {l : List α} {i : Nat} {r : α} (h : l[i]? = some r) : (l.drop i).take 1 = [r] := by
  rw [List.take_one, List.head?_drop, h]; rfl
theorem prM_zero (v : Nat) (l : List FRw) : prM v l 0 0 = [] := by
  have : ∀ us : List FRw, pairsL us [] = [] := fun us => by simp [pairsL]
  simp [prM, upL, loL, pairsL]
theorem prM_skip {v i k : Nat} {l : List FRw} {r : FRw} (h : l[i]? = some r) (hz : ¬ 0 < r.Z v) : prM v l i k = prM v l (i + 1) 0 := by
  have e := filter_take (fun r : FRw => decide (0 < r.Z v)) l i r h
  simp only [decide_eq_true_eq] at e
  rw [if_neg hz, List.append_nil] at e
  unfold prM upL
  rw [drop_one h, e]
  simp [pairsL, hz, loL]
theorem prM_next {v i : Nat} {l : List FRw} {r : FRw} (h : l[i]? = some r) (hz : 0 < r.Z v) : prM v l i l.length = prM v l (i + 1) 0 := by
  have e := filter_take (fun r : FRw => decide (0 < r.Z v)) l i r h
  simp only [decide_eq_true_eq] at e
  rw [if_pos hz] at e
  unfold prM upL
  rw [drop_one h, e, pairs_app]
  simp [pairsL, hz, loL]
theorem prM_no {v i k : Nat} {l : List FRw} {q : FRw} (h : l[k]? = some q) (hz : ¬ q.Z v < 0) : prM v l i (k + 1) = prM v l i k := by
  have e := filter_take (fun r : FRw => decide (r.Z v < 0)) l k q h
  simp only [decide_eq_true_eq] at e
  rw [if_neg hz, List.append_nil] at e
  unfold prM
  rw [show loL v (l.take (k + 1)) = loL v (l.take k) from e]
theorem prM_yes {v i k : Nat} {l : List FRw} {r q : FRw} (hi : l[i]? = some r) (hr : 0 < r.Z v) (h : l[k]? = some q) (hz : q.Z v < 0) : prM v l i (k + 1) = prM v l i k ++ [(r, q)] := by
  have e := filter_take (fun r : FRw => decide (r.Z v < 0)) l k q h
  simp only [decide_eq_true_eq] at e
  rw [if_pos hz] at e
  unfold prM
  rw [show loL v (l.take (k + 1)) = loL v (l.take k) ++ [q] from e, drop_one hi, show upL v [r] = [r] by simp [upL, hr], pairs_one, pairs_one]
  simp
theorem prM_end (v : Nat) (l : List FRw) : prM v l l.length 0 = pairsL (upL v l) (loL v l) := by
  simp [prM, upL, loL, pairsL]
theorem prM_le {v i k : Nat} {l : List FRw} {r q : FRw} (hi : l[i]? = some r) (hr : 0 < r.Z v) (h : l[k]? = some q) (hz : q.Z v < 0) : (prM v l i k).length + 1 ≤ (upL v l).length * (loL v l).length := by
  have e1 : upL v l = upL v (l.take i) ++ upL v (l.drop i) := by unfold upL; rw [← List.filter_append, List.take_append_drop]
  have e2 : loL v l = loL v (l.take k) ++ loL v (l.drop k) := by unfold loL; rw [← List.filter_append, List.take_append_drop]
  have h1 : r ∈ upL v (l.drop i) := by
    unfold upL
    refine List.mem_filter.2 ⟨List.mem_iff_getElem?.2 ⟨0, by rw [List.getElem?_drop]; simpa using hi⟩, by simpa using hr⟩
  have h2 : q ∈ loL v (l.drop k) := by
    unfold loL
    refine List.mem_filter.2 ⟨List.mem_iff_getElem?.2 ⟨0, by rw [List.getElem?_drop]; simpa using h⟩, by simpa using hz⟩
  have p1 := List.length_pos_of_mem h1
  have p2 := List.length_pos_of_mem h2
  have l1 : (upL v l).length = (upL v (l.take i)).length + (upL v (l.drop i)).length := by rw [e1, List.length_append]
  have l2 : (loL v l).length = (loL v (l.take k)).length + (loL v (l.drop k)).length := by rw [e2, List.length_append]
  have l3 : (prM v l i k).length = (upL v (l.take i)).length * (loL v l).length + (loL v (l.take k)).length := by
    unfold prM
    rw [drop_one hi, show upL v [r] = [r] by simp [upL, hr], List.length_append, pairs_len, pairs_len, List.length_singleton, Nat.one_mul]
  have m1 := Nat.mul_le_mul_right (loL v l).length (show (upL v (l.take i)).length + 1 ≤ (upL v l).length by omega)
  rw [Nat.succ_mul] at m1
  omega
theorem dropOk_a {v i k : Nat} {l : List FRw} {r q : FRw} (hi : l[i]? = some r) (hr : 0 < r.Z v) (h : l[k]? = some q) (hz : q.Z v < 0) (hf : okF r q v = false) : dropOk v l = false := by
  unfold dropOk okP
  rw [Bool.and_eq_false_iff]
  right
  rw [List.all_eq_false]
  refine ⟨(r, q), ?_, by simpa using hf⟩
  simp only [pairsL, List.mem_flatMap, List.mem_map]
  exact ⟨r, List.mem_filter.2 ⟨List.mem_of_getElem? hi, by simpa using hr⟩, q, List.mem_filter.2 ⟨List.mem_of_getElem? h, by simpa using hz⟩, rfl⟩
theorem dropOk_b {v i k : Nat} {l : List FRw} {r q : FRw} (hi : l[i]? = some r) (hr : 0 < r.Z v) (h : l[k]? = some q) (hz : q.Z v < 0) (hf : 200 ≤ (restL v l).length + (prM v l i k).length) : dropOk v l = false := by
  unfold dropOk
  have := prM_le hi hr h hz
  rw [decide_eq_false (by omega), Bool.false_and]
def SDropP (w : World) (n v : Nat) (l : List FRw) (e : Ending) (w' : World) : Prop :=
  ∃ A m c qs, e = .returned (.tuple #[.slice A m c, .bool (dropOk v l)]) ∧ Below w.heap.size w w' ∧ (dropOk v l = true → m = qs.length ∧ SlM n w' A qs ∧ (∀ q ∈ qs, MRd n w' q) ∧ qs.map MRow.r = dropL v l)
theorem SDropP.no {w w' : World} {n v m c : Nat} {A : Option Addr} {l : List FRw} (h : dropOk v l = false) (hb : Below w.heap.size w w') : SDropP w n v l (.returned (.tuple #[.slice A m c, .bool false])) w' :=
  ⟨A, m, c, [], by rw [h], hb, fun e => by rw [h] at e; cases e⟩
theorem SDropP.yes {w w' : World} {n v m c : Nat} {A : Option Addr} {l : List FRw} {qs : List MRow} (h : dropOk v l = true) (hb : Below w.heap.size w w') (hm : m = qs.length) (hs : SlM n w' A qs) (hr : ∀ q ∈ qs, MRd n w' q) (hd : qs.map MRow.r = dropL v l) : SDropP w n v l (.returned (.tuple #[.slice A m c, .bool true])) w' :=
  ⟨A, m, c, qs, by rw [h], hb, fun _ => ⟨hm, hs, hr, hd⟩⟩
/-- rows that are read and lie apart from a row of its own -/
def Aps (n : Nat) (w : World) (v : Value) (ys : List MRow) : Prop := ∀ m ∈ ys, MRd n w m ∧ apA v m.a ∧ apA v m.t
theorem Aps.below {n : Nat} {w w' : World} {v : Value} {ys : List MRow} (h : Aps n w v ys) (hb : Below w.heap.size w w') : Aps n w' v ys := fun m hm => ⟨(h m hm).1.below hb, (h m hm).2⟩
theorem Aps.app {n : Nat} {w : World} {v : Value} {ys zs : List MRow} (h : Aps n w v ys) (k : Aps n w v zs) : Aps n w v (ys ++ zs) := fun m hm => (List.mem_append.1 hm).elim (h m) (k m)
theorem Aps.grow {n : Nat} {w w' : World} {v v' : Value} {ys : List MRow} (hn : n ≠ 0) (h : Aps n w v ys) (hg : w.grownBy w' v.ownBlock) (hk : v'.ownBlock = v.ownBlock ∨ v'.ownBlock = some w.heap.size) : Aps n w' v' ys := fun m hm => by
  obtain ⟨h1, h2, h3⟩ := h m hm
  exact ⟨⟨h1.1.growM hg h2, h1.2.growM hg h3⟩, h2.next hk (h1.1.ltM (by omega)), h3.next hk (h1.2.ltM hn)⟩
theorem Aps.old {n lo k : Nat} {W w : World} {v : Value} {ys : List MRow} {xs : List Value} (hn : n ≠ 0) (h : ∀ m ∈ ys, MRd n W m) (hb : Below W.heap.size W w) (ho : w.ownsRow lo 91 4 v k xs) (hl : W.heap.size ≤ lo) : Aps n w v ys := fun m hm =>
  ⟨(h m hm).below hb, apA_lt (by omega) (h m hm).1 ho hl, apA_lt hn (h m hm).2 ho hl⟩
theorem sl_of {w : World} {lo k size : Nat} {e : TypeId} {v : Value} {xs : List Value} (h : w.ownsRow lo e size v k xs) : ∃ a c, v = .slice a k c := own_slice h
theorem OwnI.apA {W w u : World} {A : Option Addr} {n lo k size : Nat} {Z : Nat → Int} {e : TypeId} {v : Value} {xs : List Value} (hn : n ≠ 0) (h : OwnI W w A n Z) (ho : u.ownsRow lo e size v k xs) (hz : u.heap.size ≤ W.heap.size) : apA v A := by
  rcases h with h | ⟨g, rfl, hg, _⟩
  · exact absurd h hn
  · exact apA_new ho (by omega)
end Go.Proofs.Ytplocljoanaoeaa

namespace Go.Proofs.Ytplocljoanaoeaa
set_option linter.unusedVariables false
set_option linter.unusedSimpArgs false
open Go.RowKit
theorem grownBy_setCell4 (w : World) (b : Nat) (x0 x1 x2 x3 : Value) : w.grownBy ((((w.setCell ⟨b, 0, none⟩ x0).setCell ⟨b, 1, none⟩ x1).setCell ⟨b, 2, none⟩ x2).setCell ⟨b, 3, none⟩ x3) (some b) :=
  grow_trans (grow_trans (grow_trans (grow_set w b 0 x0) (grow_set _ b 1 x1)) (grow_set _ b 2 x2)) (grow_set _ b 3 x3)
theorem plan_store4 {P : Program} {ops : Array Oper} {l : List Oper} {K : Act → World → Prop} {W w : World} {a : Act} {m : Nat} {k : Pl} {om : Oper} (hl : l[m]? = some om) (hg : om.guard = none) (ty : TypeId) (x y : Operand) (ho : om.op = .store ty x y) (b : Nat) (x0 x1 x2 x3 : Value) (hx : a.eval x = .pointer (some ⟨b, 0, none⟩)) (hy : a.eval y = .agg #[x0, x1, x2, x3])
    (ht : w.there b 0 4) (hi : (P.info? ty).map (·.size) = some 4) (h1 : (#[x0, x1, x2, x3] : Array Value).all (·.oneCell') = true) (hB : Below W.heap.size W w) (hb : W.heap.size ≤ b)
    (hk : ∀ w', w.grownBy w' (some b) → Below W.heap.size W w' → KcL [(b, 0, x0), (b, 1, x1), (b, 2, x2), (b, 3, x3)] w' → ObPl P ops (fun w' => ∃ X, w' = gro W X) l K k (a.put om.dst undef) w') : ObPl P ops (fun w' => ∃ X, w' = gro W X) l K (.make m k) a w := by
  refine ⟨om, hl, .inl ⟨wanted_none hg, ?_⟩⟩
  have e : (execOp a.eval om).run P w = .ok .skip (w.setCells b 0 [x0, x1, x2, x3]) := by
    unfold execOp
    simp only [ho, hx, hy, Instr.storeAt, Instr.sureAddr, Sem.run_bind, Sem.run_pure, Result.andThen_ok, run_storeVar_mid w b 0 ty #[x0, x1, x2, x3] ht hi h1]
  rw [e]
  obtain ⟨u0, e0⟩ := Option.isSome_iff_exists.1 (ht 0 (by omega)).1
  obtain ⟨u1, e1⟩ := Option.isSome_iff_exists.1 (ht 1 (by omega)).1
  obtain ⟨u2, e2⟩ := Option.isSome_iff_exists.1 (ht 2 (by omega)).1
  obtain ⟨u3, e3⟩ := Option.isSome_iff_exists.1 (ht 3 (by omega)).1
  obtain ⟨t0, t1, t2, t3⟩ := set4 e0 e1 e2 e3 x0 x1 x2 x3
  have hBb : Below W.heap.size W (w.setCells b 0 [x0, x1, x2, x3]) := bst (bst (bst (bst hB hb x0) hb x1) hb x2) hb x3
  exact ⟨⟨⟨_, hBb⟩, rfl⟩, hk _ (grownBy_setCell4 w b x0 x1 x2 x3) hBb ⟨t0, t1, t2, t3, trivial⟩⟩
theorem there_new4 (w : World) (x y z u : Value) (t : TypeId) : (w.alloc (.cells #[x, y, z, u] t)).there w.heap.size 0 4 := by
  intro j hj
  match j, hj with
  | 0, _ => simp [go_sem]
  | 1, _ => simp [go_sem]
  | 2, _ => simp [go_sem]
  | 3, _ => simp [go_sem]
theorem there_below4 {w w' : World} {b : Nat} (hq : Below w.heap.size w w') (hb : b < w.heap.size) (h : w.there b 0 4) : w'.there b 0 4 := fun j hj => by
  rw [hq.cell (p := ⟨b, 0 + j, none⟩) hb, hq.frozen (p := ⟨b, 0 + j, none⟩) hb]; exact h j hj
set_option maxRecDepth 100000 in
set_option maxHeartbeats 16000000 in
theorem sdrop_any (n v : Nat) (A : Option Addr) (c : Nat) (ms : List MRow) (w : World) (hv : v < 4) (hn0 : 0 < n) (hn : n ≤ 20) (hl : ms.length ≤ 200) (hA : SlM n w A ms) (hM : ∀ m ∈ ms, MRd n w m) (hok : ∀ m ∈ ms, m.r.ok n) :
    Calls Try.prog 52 #[.slice A ms.length c, .int .i64 v] w (SDropP w n v (ms.map MRow.r)) := by
  obtain ⟨i0, hi, hz0, hz1, hz2⟩ := info_parts infoMR
  have HM := hid hM; have HOK := hid hok; clear hM hok
  obtain ⟨N, hN⟩ : ∃ m, m = ms.length := ⟨_, rfl⟩
  rw [← hN] at hl ⊢
  have HN := hid hN; clear hN
  have HLR := hid (fun k (m : MRow) (h : ms[k]? = some m) => (show (ms.map MRow.r)[k]? = some m.r by rw [List.getElem?_map, h]; rfl))
  have HLL := hid (show (ms.map MRow.r).length = N by rw [List.length_map]; exact HN.out.symm)
  have hne : n ≠ 0 := by omega
  have ho0 : (w.alloc (.cells #[] 91)).ownsRow w.heap.size 91 4 (.slice (some ⟨w.heap.size, 0, none⟩) 0 0) 0 (flatM n []) := World.ownsRow_made w #[] 0 (Nat.le_refl _) (by decide) rfl
  have hb0 : Below w.heap.size w (w.alloc (.cells #[] 91)) := bal (Below.refl _ _) _
  go_enter Try.func52, Try.ntmps52
  go_wp2
  go_loopw [6, 7] (fun r6 i wr => ∃ (k : Nat) (ys : List MRow), k ≤ N ∧ i = .int .i64 k ∧ Below w.heap.size w wr ∧ wr.ownsRow w.heap.size 91 4 r6 ys.length (flatM n ys) ∧ Aps n wr r6 ys ∧ ys.map MRow.r = restL v ((ms.map MRow.r).take k) ∧ ys.length ≤ k) (fun _ i _ => N - (intOf i).toNat)
  case atStart => exact ⟨0, [], Nat.zero_le _, rfl, hb0, ho0, (fun m hm => by cases hm), by simp [restL], Nat.le_refl _⟩
  case round =>
    clear ho0 hb0
    obtain ⟨k, ys, hk, rfl, hb, ho, hap, hys, hyl⟩ := hrel
    have HO := hid ho; have HAP := hid hap; have HYS := hid hys
    clear ho hap hys
    by_cases hlt : k < N
    · obtain ⟨⟨aA, aC, aT, aD, ar⟩, hp⟩ : ∃ p, ms[k]? = some p := ⟨_, List.getElem?_eq_getElem (by have := HN.out; omega)⟩
      have hrd := hid (HM.out _ (List.mem_of_getElem? hp))
      have HLK := hid (HLR.out k _ hp)
      rcases hA with h0 | ⟨g, off, rfl, hg, hcA⟩
      · rw [h0] at hp; cases hp
      obtain ⟨a0, a1, a2, a3⟩ := hcA k _ hp
      try simp only at a0 a1 a2 a3
      rcases hrd.out.1 with h0 | ⟨ga, oa, ea, hga, hcz⟩
      · omega
      try simp only at ea
      subst ea
      have cz := carry hb (hcz v hv)
      replace a0 := carry hb a0
      replace a1 := carry hb a1
      replace a2 := carry hb a2
      replace a3 := carry hb a3
      have lg := cell_lt a0
      have la := cell_lt cz
      clear hcA hcz hga hp
      have hft := hid (filter_take (fun r : FRw => decide (r.Z v = 0)) (ms.map MRow.r) k _ HLK.out)
      by_cases hz : ar.Z v = 0
      · have HZ := hid hz
        have dz : (ar.Z v == 0) = true := by simpa using hz
        clear hz
        have hbA := bal (Below.refl wr.heap.size wr) (.cells #[.slice (some ⟨ga, oa, none⟩) 4 aC, .int .i64 ar.B, .bool ar.S, .slice aT n aD] 91)
        have hoA := hid (own_below hbA HO.out)
        have hpA := hid ((HAP.out.below hbA).app (zs := [⟨some ⟨ga, oa, none⟩, aC, aT, aD, ar⟩]) (Aps.old hne (fun m hm => by obtain rfl := List.mem_singleton.1 hm; exact hrd.out) (btr hb hbA) hoA.out (Nat.le_refl _)))
        have hn1 := hid (news_mr wr n ⟨some ⟨ga, oa, none⟩, aC, aT, aD, ar⟩ 91)
        have h1c := hid (one_mr n ⟨some ⟨ga, oa, none⟩, aC, aT, aD, ar⟩)
        have hszA : w.heap.size ≤ (wr.alloc (.cells #[.slice (some ⟨ga, oa, none⟩) 4 aC, .int .i64 ar.B, .bool ar.S, .slice aT n aD] 91)).heap.size := Nat.le_trans hb.size hbA.size
        have hbb := hid (btr hb hbA)
        clear hbA
        go_wp2_with ((at_builtin; go_loud (refine wpList_append_own_at _ rfl _ _ 86 rfl w.heap.size 91 i0 _ 4 64 Try.underlying86 hi hz0 hz1 hz2 rfl (by decide) _ _ _ rfl hoA.out ⟨wr.heap.size, 0, none⟩ 1 1 [.slice (some ⟨ga, oa, none⟩) 4 aC, .int .i64 ar.B, .bool ar.S, .slice aT n aD] rfl rfl hn1.out h1c.out (by unfold maxLen; omega) (by omega) hszA ?_); intro v' w5 hown hgrow _ hblk; have hb5 := hid (fl_growM hbb.out hgrow (fun g e => (hoA.out.lt g e).1)); have HOW := hid hown; have HP5 := hid (hpA.out.grow hne hgrow hblk); clear hown hgrow hblk))
        go_roundw
        case rel =>
          refine ⟨k + 1, ys ++ [⟨some ⟨ga, oa, none⟩, aC, aT, aD, ar⟩], by omega, by go_num, hb5.out, by rw [flatM_app, flatM_one, List.length_append]; exact HOW.out, HP5.out, ?_, by rw [List.length_append]; simp; omega⟩
          have e := hft.out
          simp only [decide_eq_true_eq] at e
          rw [if_pos HZ.out] at e
          rw [List.map_append, HYS.out]
          exact e.symm
        case measure => simp [intOf]; omega
      · have HZ := hid hz
        have dz : (ar.Z v == 0) = false := by simpa using hz
        clear hz
        go_wp2
        go_roundw
        case rel =>
          refine ⟨k + 1, ys, by omega, by go_num, hb, HO.out, HAP.out, ?_, by omega⟩
          have e := hft.out
          simp only [decide_eq_true_eq] at e
          rw [if_neg HZ.out, List.append_nil] at e
          rw [HYS.out]
          exact e.symm
        case measure => simp [intOf]; omega
    · have hke : k = N := by omega
      have HRL := hid (show ys.map MRow.r = restL v (ms.map MRow.r) by rw [HYS.out, List.take_of_length_le (by rw [HLL.out]; omega)])
      have HRN := hid (show (restL v (ms.map MRow.r)).length = ys.length by rw [← HRL.out, List.length_map])
      have HP0 := hid (prM_zero v (ms.map MRow.r))
      obtain ⟨X, hX⟩ : ∃ X, X = ys := ⟨_, rfl⟩
      have HRL2 : Hid (X.map MRow.r = restL v (ms.map MRow.r)) := by rw [hX]; exact HRL
      have HRN2 : Hid ((restL v (ms.map MRow.r)).length = X.length) := by rw [hX]; exact HRN
      have ho := HO.out; have hap := HAP.out
      have hy200 : ys.length ≤ 200 := by omega
      clear hke HYS HO HAP
      have hst : ys.map MRow.r = X.map MRow.r ++ bothP v (prM v (ms.map MRow.r) 0 0) := by rw [HP0.out, hX]; simp [bothP]
      have hst2 : okP v (prM v (ms.map MRow.r) 0 0) = true := by rw [HP0.out]; rfl
      have HST := hid hst; have HST2 := hid hst2
      clear hst hst2 hX hyl
      go_wp2
      go_loopw [6, 8] (fun r6 i wr => ∃ (k : Nat) (ys : List MRow), k ≤ N ∧ i = .int .i64 k ∧ Below w.heap.size w wr ∧ wr.ownsRow w.heap.size 91 4 r6 ys.length (flatM n ys) ∧ Aps n wr r6 ys ∧ ys.map MRow.r = X.map MRow.r ++ bothP v (prM v (ms.map MRow.r) k 0) ∧ okP v (prM v (ms.map MRow.r) k 0) = true ∧ ys.length ≤ 200) (fun _ i _ => N - (intOf i).toNat)
      case atStart => exact ⟨0, ys, Nat.zero_le _, rfl, hb, ho, hap, HST.out, HST2.out, hy200⟩
      case round =>
        clear ho hap hb hy200 HST HST2 HRL HRN HP0
        obtain ⟨p, ys, hp, rfl, hb, ho, hap, hys, hyo, hyl⟩ := hrel
        have HO := hid ho; have HAP := hid hap; have HYS := hid hys; have HYO := hid hyo
        clear ho hap hys hyo
        by_cases hlt : p < N
        · obtain ⟨⟨aA, aC, aT, aD, ar⟩, hpp⟩ : ∃ m, ms[p]? = some m := ⟨_, List.getElem?_eq_getElem (by have := HN.out; omega)⟩
          have hrd := hid (HM.out _ (List.mem_of_getElem? hpp))
          have hro := hid (HOK.out _ (List.mem_of_getElem? hpp))
          have HLP := hid (HLR.out p _ hpp)
          have HAA := hid hA
          rcases hA with h0 | ⟨g, off, rfl, hg, hcA⟩
          · rw [h0] at hpp; cases hpp
          have HCA := hid hcA
          have HCP := hid (hcA p _ hpp)
          clear hcA hpp
          have ho := HO.out; have hap := HAP.out; have hys := HYS.out; have hyo := HYO.out
          go_wp2
          go_loopw [6, 9] (fun r6 i wr => ∃ (k : Nat) (ys : List MRow), k ≤ N ∧ i = .int .i64 k ∧ Below w.heap.size w wr ∧ wr.ownsRow w.heap.size 91 4 r6 ys.length (flatM n ys) ∧ Aps n wr r6 ys ∧ ys.map MRow.r = X.map MRow.r ++ bothP v (prM v (ms.map MRow.r) p k) ∧ okP v (prM v (ms.map MRow.r) p k) = true ∧ ys.length ≤ 200) (fun _ i _ => N - (intOf i).toNat)
          case atStart => exact ⟨0, ys, Nat.zero_le _, rfl, hb, ho, hap, hys, hyo, hyl⟩
          case round =>
            clear ho hap hb hys hyo hyl HO HAP HYS HYO
            obtain ⟨q, ys, hq, rfl, hb, ho, hap, hys, hyo, hyl⟩ := hrel
            obtain ⟨a6, c6, e6⟩ := own_slice ho
            subst e6
            have HO := hid ho; have HAP := hid hap; have HYS := hid hys; have HYO := hid hyo
            clear ho hap hys hyo
            by_cases hltq : q < N
            · obtain ⟨a0, a1, a2, a3⟩ := HCP.out
              try simp only at a0 a1 a2 a3
              rcases hrd.out.1 with h0 | ⟨ga, oa, ea, hga, hcz⟩
              · omega
              try simp only at ea
              subst ea
              have cz := carry hb (hcz v hv)
              replace a0 := carry hb a0
              replace a1 := carry hb a1
              replace a2 := carry hb a2
              replace a3 := carry hb a3
              have lg := cell_lt a0
              have la := cell_lt cz
              clear hcz hga
              by_cases hpos : 0 < ar.Z v
              · have HPOS := hid hpos
                have dp : decide (0 < ar.Z v) = true := by simpa using hpos
                clear hpos
                obtain ⟨⟨bA, bC, bT, bD, br⟩, hpq⟩ : ∃ m, ms[q]? = some m := ⟨_, List.getElem?_eq_getElem (by have := HN.out; omega)⟩
                have hrd2 := hid (HM.out _ (List.mem_of_getElem? hpq))
                have hro2 := hid (HOK.out _ (List.mem_of_getElem? hpq))
                have HLQ := hid (HLR.out q _ hpq)
                obtain ⟨b0, b1, b2, b3⟩ := HCA.out q _ hpq
                try simp only at b0 b1 b2 b3
                rcases hrd2.out.1 with h0 | ⟨gb, ob, eb, hgb, hcz⟩
                · omega
                try simp only at eb
                subst eb
                have cy := carry hb (hcz v hv)
                replace b0 := carry hb b0
                replace b1 := carry hb b1
                replace b2 := carry hb b2
                replace b3 := carry hb b3
                have lb := cell_lt cy
                clear hcz hgb hpq
                by_cases hneg : br.Z v < 0
                · have HNEG := hid hneg
                  have dn : decide (br.Z v < 0) = true := by simpa using hneg
                  clear hneg
                  have hB := hid (fun W (h : Below wr.heap.size wr W) => sboth_any n v ⟨some ⟨ga, oa, none⟩, aC, aT, aD, ar⟩ ⟨some ⟨gb, ob, none⟩, bC, bT, bD, br⟩ W hv hn0 hn ((hrd.out.below hb).below h) ((hrd2.out.below hb).below h) hro.out hro2.out HPOS.out HNEG.out)
                  go_upto_region 14 with fail
                  have lr := hb.size
                  go_cut [10, 11] (fun pv sv wx => ∃ b A' m c' b' s' T t d, pv = .pointer (some ⟨b, 0, none⟩) ∧ sv = .bool (okF ar br v) ∧ Below wr.heap.size wr wx ∧ wx.cell? ⟨b, 0, none⟩ = some (.slice A' m c') ∧ wx.cell? ⟨b, 1, none⟩ = some (.int .i64 b') ∧ wx.cell? ⟨b, 2, none⟩ = some (.bool s') ∧ wx.cell? ⟨b, 3, none⟩ = some (.slice T t d) ∧ (okF ar br v = true → m = 4 ∧ t = n ∧ b' = (bothF ar br v).B ∧ s' = (bothF ar br v).S ∧ OwnI wr wx A' 4 (bothF ar br v).Z ∧ OwnI wr wx T n (bothF ar br v).U))
                  case first =>
                    have gc := @gro_cell wr
                    refine region_plan (.takes [0, 1, 2, 3, 4, 5, 6, 7, 8] (.fork 13 9 (.make 9 (.takes [10, 11, 12] (.make 14 .fin))) (.takes [10, 11, 12] (.make 13 (.make 14 .fin))))) 15 rfl (by kernel_rfl) ?_
                    refine plan_takes ?_; simp only [pickOps, List.getElem?_cons_zero, List.getElem?_cons_succ]; (repeat (go_big_quiet_step (fail))); refine wpQuiet_nil ?_
                    clear gc
                    have hB0 := (Below.refl wr.heap.size wr).drew
                    refine plan_fork ?_ ?_
                    · skip
                      have al := bal (Below.refl (wr.drew).heap.size (wr.drew)) (.cells #[.slice none 0 0, .int .i64 0, .bool false, .slice none 0 0] 91)
                      refine plan_val rfl rfl (.pointer (some ⟨(wr.drew).heap.size, 0, none⟩)) (w'' := (wr.drew).alloc (.cells #[.slice none 0 0, .int .i64 0, .bool false, .slice none 0 0] 91)) (by kernel_rfl) (btr hB0 al) ?_
                      have Zt := there_new4 (wr.drew) (.slice none 0 0) (.int .i64 0) (.bool false) (.slice none 0 0) 91
                      have Zb : (wr.drew).heap.size < ((wr.drew).alloc (.cells #[.slice none 0 0, .int .i64 0, .bool false, .slice none 0 0] 91)).heap.size := by simp
                      have Zl := hB0.size
                      replace hB0 := btr hB0 al
                      refine plan_call rfl rfl 83 #[.agg #[.slice (some ⟨ga, oa, none⟩) 4 aC, .int .i64 ar.B, .bool ar.S, .slice aT n aD], .agg #[.slice (some ⟨gb, ob, none⟩) 4 bC, .int .i64 br.B, .bool br.S, .slice bT n bD], .int .i64 v] (by kernel_rfl) ?_
                      refine (hB.out _ hB0).mono ?_
                      rintro e u3 ⟨A', m, c', b', s', T, t, d, rfl, hq, hx⟩
                      refine ⟨_, rfl, btr hB0 hq, ?_⟩
                      have Ow := hB0.size
                      have hx := hid (fun h => (show m = 4 ∧ t = n ∧ b' = (bothF ar br v).B ∧ s' = (bothF ar br v).S ∧ OwnB ((wr.drew).alloc (.cells #[.slice none 0 0, .int .i64 0, .bool false, .slice none 0 0] 91)).heap.size u3.heap.size u3 A' 4 (bothF ar br v).Z ∧ OwnB ((wr.drew).alloc (.cells #[.slice none 0 0, .int .i64 0, .bool false, .slice none 0 0] 91)).heap.size u3.heap.size u3 T n (bothF ar br v).U from by
                        obtain ⟨h1, h2, h3, h4, h5, h6⟩ := hx h
                        exact ⟨h1, h2, h3, h4, h5.ownB, h6.ownB⟩))
                      have Zp := Zb
                      replace Zt := there_below4 hq Zb Zt; replace Zb := Nat.lt_of_lt_of_le Zb hq.size
                      replace hB0 := btr hB0 hq; clear hq
                      refine plan_takes ?_; simp only [pickOps, List.getElem?_cons_zero, List.getElem?_cons_succ]
                      refine quiet_do rfl (.tuple #[.agg #[.slice A' m c', .int .i64 b', .bool s', .slice T t d], .bool (okF ar br v)]) (fun _ => by kernel_rfl) ?_
                      refine quiet_do rfl (.agg #[.slice A' m c', .int .i64 b', .bool s', .slice T t d]) (fun _ => by kernel_rfl) ?_
                      refine quiet_do rfl (.bool (okF ar br v)) (fun _ => by kernel_rfl) ?_
                      refine wpQuiet_nil ?_
                      refine plan_store4 rfl rfl _ _ _ rfl _ (.slice A' m c') (.int .i64 b') (.bool s') (.slice T t d) (by kernel_rfl) (by kernel_rfl) Zt (by kernel_rfl) (by simp [Value.oneCell']) hB0 (by first | exact Zl | omega) ?_
                      intro wx hg hBx hK
                      obtain ⟨x0, x1, x2, x3, _⟩ := hK
                      refine plan_fin ?_
                      simp only [List.drop_succ_cons, List.drop_zero]
                      go_wp2_with fail
                      go_meet
                      refine ⟨_, A', m, c', b', s', T, t, d, rfl, rfl, hBx, x0, x1, x2, x3, fun h => ?_⟩
                      obtain ⟨h1, h2, h3, h4, h5, h6⟩ := hx.out h
                      exact ⟨h1, h2, h3, h4, (h5.keep hg (fun g hg => by obtain rfl := Option.some.inj hg; first | exact .inl Zp | exact .inr (Nat.le_refl _))).ownI Ow, (h6.keep hg (fun g hg => by obtain rfl := Option.some.inj hg; first | exact .inl Zp | exact .inr (Nat.le_refl _))).ownI Ow⟩
                    · skip
                      refine plan_call rfl rfl 83 #[.agg #[.slice (some ⟨ga, oa, none⟩) 4 aC, .int .i64 ar.B, .bool ar.S, .slice aT n aD], .agg #[.slice (some ⟨gb, ob, none⟩) 4 bC, .int .i64 br.B, .bool br.S, .slice bT n bD], .int .i64 v] (by kernel_rfl) ?_
                      refine (hB.out _ hB0).mono ?_
                      rintro e u3 ⟨A', m, c', b', s', T, t, d, rfl, hq, hx⟩
                      refine ⟨_, rfl, btr hB0 hq, ?_⟩
                      have Ow := hB0.size
                      have hx := hid (fun h => (show m = 4 ∧ t = n ∧ b' = (bothF ar br v).B ∧ s' = (bothF ar br v).S ∧ OwnB wr.drew.heap.size u3.heap.size u3 A' 4 (bothF ar br v).Z ∧ OwnB wr.drew.heap.size u3.heap.size u3 T n (bothF ar br v).U from by
                        obtain ⟨h1, h2, h3, h4, h5, h6⟩ := hx h
                        exact ⟨h1, h2, h3, h4, h5.ownB, h6.ownB⟩))
                      replace hB0 := btr hB0 hq; clear hq
                      refine plan_takes ?_; simp only [pickOps, List.getElem?_cons_zero, List.getElem?_cons_succ]
                      refine quiet_do rfl (.tuple #[.agg #[.slice A' m c', .int .i64 b', .bool s', .slice T t d], .bool (okF ar br v)]) (fun _ => by kernel_rfl) ?_
                      refine quiet_do rfl (.agg #[.slice A' m c', .int .i64 b', .bool s', .slice T t d]) (fun _ => by kernel_rfl) ?_
                      refine quiet_do rfl (.bool (okF ar br v)) (fun _ => by kernel_rfl) ?_
                      refine wpQuiet_nil ?_
                      have al := bal (Below.refl (u3).heap.size (u3)) (.cells #[.slice none 0 0, .int .i64 0, .bool false, .slice none 0 0] 91)
                      refine plan_val rfl rfl (.pointer (some ⟨(u3).heap.size, 0, none⟩)) (w'' := (u3).alloc (.cells #[.slice none 0 0, .int .i64 0, .bool false, .slice none 0 0] 91)) (by kernel_rfl) (btr hB0 al) ?_
                      have Zt := there_new4 (u3) (.slice none 0 0) (.int .i64 0) (.bool false) (.slice none 0 0) 91
                      have Zb : (u3).heap.size < ((u3).alloc (.cells #[.slice none 0 0, .int .i64 0, .bool false, .slice none 0 0] 91)).heap.size := by simp
                      have Zl := hB0.size
                      replace hB0 := btr hB0 al
                      replace hx := hid (fun h => (show m = 4 ∧ t = n ∧ b' = (bothF ar br v).B ∧ s' = (bothF ar br v).S ∧ OwnB (wr.drew).heap.size u3.heap.size (u3.alloc (.cells #[.slice none 0 0, .int .i64 0, .bool false, .slice none 0 0] 91)) A' 4 (bothF ar br v).Z ∧ OwnB (wr.drew).heap.size u3.heap.size (u3.alloc (.cells #[.slice none 0 0, .int .i64 0, .bool false, .slice none 0 0] 91)) T n (bothF ar br v).U from by
                        obtain ⟨h1, h2, h3, h4, h5, h6⟩ := hx.out h
                        exact ⟨h1, h2, h3, h4, h5.below al, h6.below al⟩))
                      refine plan_store4 rfl rfl _ _ _ rfl _ (.slice A' m c') (.int .i64 b') (.bool s') (.slice T t d) (by kernel_rfl) (by kernel_rfl) Zt (by kernel_rfl) (by simp [Value.oneCell']) hB0 (by first | exact Zl | omega) ?_
                      intro wx hg hBx hK
                      obtain ⟨x0, x1, x2, x3, _⟩ := hK
                      refine plan_fin ?_
                      simp only [List.drop_succ_cons, List.drop_zero]
                      go_wp2_with fail
                      go_meet
                      refine ⟨_, A', m, c', b', s', T, t, d, rfl, rfl, hBx, x0, x1, x2, x3, fun h => ?_⟩
                      obtain ⟨h1, h2, h3, h4, h5, h6⟩ := hx.out h
                      exact ⟨h1, h2, h3, h4, (h5.keep hg (fun g hg => by obtain rfl := Option.some.inj hg; first | exact .inl Zp | exact .inr (Nat.le_refl _))).ownI Ow, (h6.keep hg (fun g hg => by obtain rfl := Option.some.inj hg; first | exact .inl Zp | exact .inr (Nat.le_refl _))).ownI Ow⟩
                  case rest =>
                    obtain ⟨pb, A', m, c', b', s', T, t, d, rfl, rfl, hq, x0, x1, x2, x3, hx⟩ := hcut
                    have HOc := hid (own_below hq HO.out); have HAPc := hid (HAP.out.below hq)
                    replace hb := btr hb hq
                    clear a0 a1 a2 a3 b0 b1 b2 b3 cz cy lg la lb hB dp dn lr
                    cases hf : okF ar br v with
                    | false =>
                      have HF := hid (dropOk_a HLP.out HPOS.out HLQ.out HNEG.out hf)
                      clear hf hx
                      go_wp2
                      go_ret2
                      exact SDropP.no HF.out hb
                    | true =>
                      obtain ⟨rfl, rfl, rfl, rfl, hO1, hO2⟩ := hx hf
                      have HFT := hid hf; clear hf hx
                      have HLEN := hid (show (restL v (ms.map MRow.r)).length + (prM v (ms.map MRow.r) p q).length = ys.length from by
                        have e4 := congrArg List.length HYS.out
                        rw [List.length_append, bothP_len, List.length_map, List.length_map] at e4
                        rw [HRN2.out]; omega)
                      by_cases h200 : 200 ≤ ys.length
                      · have HF := hid (dropOk_b HLP.out HPOS.out HLQ.out HNEG.out (by rw [HLEN.out]; exact h200))
                        have d2 : decide ((200 : Int) ≤ (ys.length : Int)) = true := decide_eq_true (by omega)
                        clear h200 hO1 hO2
                        go_wp2
                        go_ret2
                        exact SDropP.no HF.out hb
                      · have d2 : decide ((200 : Int) ≤ (ys.length : Int)) = false := decide_eq_false (by omega)
                        have lw := cell_lt x0
                        have hap1 := OwnI.apA (by omega) hO1 HO.out (Nat.le_refl _)
                        have hap2 := OwnI.apA hne hO2 HO.out (Nat.le_refl _)
                        have hbA := bal (Below.refl wc.heap.size wc) (.cells #[.slice A' 4 c', .int .i64 (bothF ar br v).B, .bool (bothF ar br v).S, .slice T t d] 91)
                        have hoA := hid (own_below hbA HOc.out)
                        have hpA := hid ((HAPc.out.app (zs := [⟨A', c', T, d, bothF ar br v⟩]) (fun m hm => by obtain rfl := List.mem_singleton.1 hm; exact ⟨⟨hO1.ints, hO2.ints⟩, hap1, hap2⟩)).below hbA)
                        have hn1 := hid (news_mr wc t ⟨A', c', T, d, bothF ar br v⟩ 91)
                        have h1c := hid (one_mr t ⟨A', c', T, d, bothF ar br v⟩)
                        have hszA : w.heap.size ≤ (wc.alloc (.cells #[.slice A' 4 c', .int .i64 (bothF ar br v).B, .bool (bothF ar br v).S, .slice T t d] 91)).heap.size := Nat.le_trans hb.size hbA.size
                        have hbb := hid (btr hb hbA)
                        have hs := hid (prM_yes HLP.out HPOS.out HLQ.out HNEG.out)
                        clear hbA hO1 hO2 hap1 hap2
                        have hbp := hid (show bothP v [(ar, br)] = [bothF ar br v] from rfl)
                        generalize bothF ar br v = rj at *
                        go_wp2_with ((at_builtin; go_loud (refine wpList_append_own_at _ rfl _ _ 86 rfl w.heap.size 91 i0 _ 4 64 Try.underlying86 hi hz0 hz1 hz2 rfl (by decide) _ _ _ rfl hoA.out ⟨wc.heap.size, 0, none⟩ 1 1 [.slice A' 4 c', .int .i64 rj.B, .bool rj.S, .slice T t d] rfl rfl hn1.out h1c.out (by unfold maxLen; omega) (by omega) hszA ?_); intro v' w5 hown hgrow _ hblk; have hb5 := hid (fl_growM hbb.out hgrow (fun g e => (hoA.out.lt g e).1)); have HOW := hid hown; have HP5 := hid (hpA.out.grow hne hgrow hblk); clear hown hgrow hblk))
                        go_roundw
                        case rel =>
                          refine ⟨q + 1, ys ++ [⟨A', c', T, d, rj⟩], by omega, by go_num, hb5.out, by rw [flatM_app, flatM_one, List.length_append]; exact HOW.out, HP5.out, ?_, ?_, by rw [List.length_append]; simp; omega⟩
                          · rw [hs.out, bothP_app, List.map_append, HYS.out, hbp.out, List.append_assoc]; rfl
                          · rw [hs.out, okP_app, HYO.out, Bool.true_and]; simp [okP, HFT.out]
                        case measure => simp [intOf]; omega
                · have HNEG := hid hneg
                  have dn : decide (br.Z v < 0) = false := by simpa using hneg
                  clear hneg
                  have hs := hid (prM_no (i := p) HLQ.out HNEG.out)
                  go_wp2
                  go_roundw
                  case rel => exact ⟨q + 1, ys, by omega, by go_num, hb, HO.out, HAP.out, by rw [hs.out]; exact HYS.out, by rw [hs.out]; exact HYO.out, hyl⟩
                  case measure => simp [intOf]; omega
              · have HPOS := hid hpos
                have dp : decide (0 < ar.Z v) = false := by simpa using hpos
                clear hpos
                have hs := hid (prM_skip (k := q) HLP.out HPOS.out)
                go_wp2
                go_roundw
                case rel => exact ⟨p + 1, ys, by omega, by go_num, hb, HO.out, HAP.out, by rw [← hs.out]; exact HYS.out, by rw [← hs.out]; exact HYO.out, hyl⟩
                case measure => simp [intOf]; omega
            · have hqe : q = N := by omega
              have HQE := hid hqe
              clear hqe
              have hs := hid (show prM v (ms.map MRow.r) p q = prM v (ms.map MRow.r) (p + 1) 0 from by
                by_cases hpos : 0 < ar.Z v
                · rw [HQE.out, ← HLL.out]; exact prM_next HLP.out hpos
                · exact prM_skip HLP.out hpos)
              go_wp2
              go_roundw
              case rel => exact ⟨p + 1, ys, by omega, by go_num, hb, HO.out, HAP.out, by rw [← hs.out]; exact HYS.out, by rw [← hs.out]; exact HYO.out, hyl⟩
              case measure => simp [intOf]; omega
        · have hpe : p = N := by omega
          have HPE := hid hpe
          clear hpe
          have hd : Hid (dropOk v (ms.map MRow.r) = true ∧ dropL v (ms.map MRow.r) = X.map MRow.r ++ bothP v (prM v (ms.map MRow.r) p 0)) := hid (by
            have e := prM_end v (ms.map MRow.r)
            rw [HLL.out, ← HPE.out] at e
            have e2 := HYS.out; have e3 := HYO.out
            have e4 := congrArg List.length e2
            rw [List.length_append, bothP_len, List.length_map, List.length_map, ← HRN2.out, e, pairs_len] at e4
            rw [e] at e3
            unfold dropOk dropL
            rw [decide_eq_true (by omega), e3, e, HRL2.out]
            exact ⟨rfl, rfl⟩)
          obtain ⟨a6, c6, e6⟩ := own_slice HO.out
          subst e6
          go_wp2
          go_ret2
          exact SDropP.yes (qs := ys) hd.out.1 hb rfl (own_slM HO.out) (fun m hm => (HAP.out m hm).1) (by rw [hd.out.2]; exact HYS.out)
end Go.Proofs.Ytplocljoanaoeaa

namespace Go.Proofs.Ytplocljoanaoeaa
set_option linter.unusedVariables false
set_option linter.unusedSimpArgs false
open Go.RowKit
/-- a row of numbers in a block below hi -/
def IntH (hi : Nat) (w : World) (A : Option Addr) (n : Nat) (Z : Nat → Int) : Prop := n = 0 ∨ ∃ g off, A = some ⟨g, off, none⟩ ∧ g < hi ∧ ∀ k, k < n → w.cell? ⟨g, off + k, none⟩ = some (.int .i64 (Z k))
/-- a list of constraints in blocks below hi -/
def LsW (hi : Nat) (w : World) (A : Option Addr) (n : Nat) (L : Lst) : Prop :=
  n = 0 ∨ ∃ g off, A = some ⟨g, off, none⟩ ∧ g < hi ∧ ∀ k, k < n → ∃ a c, w.cell? ⟨g, off + k * 3, none⟩ = some (.slice a (L.N k) c) ∧ w.cell? ⟨g, off + k * 3 + 1, none⟩ = some (.int .i64 (L.B k)) ∧ w.cell? ⟨g, off + k * 3 + 2, none⟩ = some (.bool (L.S k)) ∧ L.N k ≤ 9223372036854775807 ∧ IntH hi w a (L.N k) (L.Z k)
theorem LsW.wrt {hi lo' hi' : Nat} {w w' : World} {A : Option Addr} {n : Nat} {L : Lst} (h : LsW hi w A n L) (hg : Wrt lo' hi' w w') (hd : hi ≤ lo') : LsW hi w' A n L := by
  rcases h with h | ⟨g, off, ha, h1, hc⟩
  · exact .inl h
  · refine .inr ⟨g, off, ha, h1, fun k hk => ?_⟩
    obtain ⟨a, c, c0, c1, c2, c3, c4⟩ := hc k hk
    refine ⟨a, c, hg.cell c0 (.inl (by omega)), hg.cell c1 (.inl (by omega)), hg.cell c2 (.inl (by omega)), c3, ?_⟩
    rcases c4 with h | ⟨g', off', ha', h1', hc'⟩
    · exact .inl h
    · exact .inr ⟨g', off', ha', h1', fun j hj => hg.cell (hc' j hj) (.inl (by omega))⟩
theorem LsW.below {hi : Nat} {w w' : World} {A : Option Addr} {n : Nat} {L : Lst} (h : LsW hi w A n L) (hb : Below w.heap.size w w') : LsW hi w' A n L := by
  rcases h with h | ⟨g, off, ha, h1, hc⟩
  · exact .inl h
  · refine .inr ⟨g, off, ha, h1, fun k hk => ?_⟩
    obtain ⟨a, c, c0, c1, c2, c3, c4⟩ := hc k hk
    refine ⟨a, c, carry hb c0, carry hb c1, carry hb c2, c3, ?_⟩
    rcases c4 with h | ⟨g', off', ha', h1', hc'⟩
    · exact .inl h
    · exact .inr ⟨g', off', ha', h1', fun j hj => carry hb (hc' j hj)⟩
theorem LsW.lins {hi : Nat} {w : World} {A : Option Addr} {n : Nat} {L : Lst} (h : LsW hi w A n L) : Lins w A n L := by
  rcases h with h | ⟨g, off, ha, h1, hc⟩
  · exact .inl h
  · by_cases h0 : n = 0
    · exact .inl h0
    · refine .inr ⟨g, off, ha, ?_, fun k hk => ?_⟩
      · obtain ⟨a, c, c0, _⟩ := hc 0 (by omega)
        exact cell_lt c0
      · obtain ⟨a, c, c0, c1, c2, c3, c4⟩ := hc k hk
        refine ⟨a, c, c0, c1, c2, c3, ?_⟩
        rcases c4 with h | ⟨g', off', ha', h1', hc'⟩
        · exact .inl h
        · by_cases h0' : L.N k = 0
          · exact .inl h0'
          · exact .inr ⟨g', off', ha', cell_lt (hc' 0 (by omega)), hc'⟩
/-- what the model's FarLess answers -/
def SLessP (w : World) (r : List FRw × Bool) (e : Ending) (w' : World) : Prop :=
  ∃ A m c, e = .returned (.tuple #[.slice A m c, .bool r.2]) ∧ m = r.1.length ∧ Below w.heap.size w w' ∧ LsW w'.heap.size w' A m (lstF r.1)
theorem SLessP.no {w w' : World} {r : List FRw × Bool} {A : Option Addr} {c : Nat} (h : r = ([], false)) (hb : Below w.heap.size w w') : SLessP w r (.returned (.tuple #[.slice A 0 c, .bool false])) w' := by
  subst h; exact ⟨A, 0, c, rfl, rfl, hb, .inl rfl⟩
theorem SLessP.yes {w w' : World} {r : List FRw × Bool} {l : List FRw} {A : Option Addr} {m c : Nat} (h : r = (l, true)) (hm : m = l.length) (hb : Below w.heap.size w w') (hl : LsW w'.heap.size w' A m (lstF l)) : SLessP w r (.returned (.tuple #[.slice A m c, .bool true])) w' := by
  subst h; exact ⟨A, m, c, rfl, hm, hb, hl⟩
def MRow.cells3 (m : MRow) : List Value := [.slice m.a 4 m.c, .int .i64 m.r.B, .bool m.r.S]
def flat3 (ms : List MRow) : List Value := ms.flatMap MRow.cells3
theorem flat3_len (ms : List MRow) : (flat3 ms).length = ms.length * 3 := by
  induction ms with
  | nil => rfl
  | cons m ms ih => have : flat3 (m :: ms) = m.cells3 ++ flat3 ms := rfl
                    rw [this, List.length_append, ih, List.length_cons]; simp [MRow.cells3]; omega
theorem flat3_get {i : Nat} {m : MRow} (hi : i < 3) : ∀ {ms : List MRow} {k : Nat}, ms[k]? = some m → (flat3 ms)[k * 3 + i]? = m.cells3[i]?
  | [], k, h => by simp at h
  | x :: ms, 0, h => by
    have e : flat3 (x :: ms) = x.cells3 ++ flat3 ms := rfl
    simp only [List.getElem?_cons_zero, Option.some.injEq] at h
    subst h
    rw [e, Nat.zero_mul, Nat.zero_add, List.getElem?_append_left (by simp [MRow.cells3]; omega)]
  | x :: ms, k + 1, h => by
    have e : flat3 (x :: ms) = x.cells3 ++ flat3 ms := rfl
    rw [List.getElem?_cons_succ] at h
    rw [e, List.getElem?_append_right (by simp [MRow.cells3]; omega)]
    have := flat3_get hi h
    rw [← this]
    congr 1
    simp [MRow.cells3]; omega
theorem flat3_app (ms ns : List MRow) : flat3 (ms ++ ns) = flat3 ms ++ flat3 ns := by simp [flat3]
theorem flat3_one (m : MRow) : flat3 [m] = m.cells3 := by simp [flat3]
theorem Ints.toH {w : World} {A : Option Addr} {n : Nat} {Z : Nat → Int} (h : Ints w A n Z) : IntH w.heap.size w A n Z := h
theorem own_lsW {w : World} {lo c : Nat} {a : Option Addr} {ms : List MRow} (h : w.ownsRow lo 28 3 (.slice a ms.length c) ms.length (flat3 ms)) (hm : ∀ m ∈ ms, Ints w m.a 4 m.r.Z) : LsW w.heap.size w a ms.length (lstF (ms.map MRow.r)) := by
  have hc := fun g hg => h.cells (g := g) hg
  obtain ⟨_, ⟨e, h0⟩ | ⟨g, cap, cur, e, _, hh, _⟩⟩ := h
  · exact .inl h0
  · injection e with e _ _
    subst e
    refine .inr ⟨g, 0, rfl, (Array.getElem?_eq_some_iff.1 hh).1, fun k hk => ?_⟩
    obtain ⟨m, hm'⟩ : ∃ m, ms[k]? = some m := ⟨_, List.getElem?_eq_getElem hk⟩
    have hx : ∀ i x, i < 3 → m.cells3[i]? = some x → w.cell? ⟨g, 0 + (k * 3 + i), none⟩ = some x := fun i x hi hx => by
      have := hc g rfl (k * 3 + i) x (by rw [flat3_get hi hm']; exact hx)
      rw [show (⟨g, 0, none⟩ : Addr).add (k * 3 + i) = ⟨g, 0 + (k * 3 + i), none⟩ by unfold Addr.add; split <;> simp_all] at this
      exact this
    obtain ⟨h1, h2, h3, h4⟩ := lstF_at (l := ms.map MRow.r) (k := k) (r := m.r) (by rw [List.getElem?_map, hm']; rfl)
    rw [h1, h2, h3, h4]
    exact ⟨m.a, m.c, hx 0 _ (by omega) rfl, hx 1 _ (by omega) rfl, hx 2 _ (by omega) rfl, by omega, (hm m (List.mem_of_getElem? hm')).toH⟩
theorem one_l3 (m : MRow) : ∀ u ∈ m.cells3, u.oneCell' = true := fun u hu => by
  simp only [MRow.cells3, List.mem_cons, List.not_mem_nil, or_false] at hu
  rcases hu with rfl | rfl | rfl <;> rfl
theorem news_l3 (w : World) (m : MRow) (t : TypeId) : ∀ j u, m.cells3[j]? = some u → (w.alloc (.cells #[.slice m.a 4 m.c, .int .i64 m.r.B, .bool m.r.S] t)).cell? ((⟨w.heap.size, 0, none⟩ : Addr).add j) = some u := by
  intro j u hj
  rw [show (⟨w.heap.size, 0, none⟩ : Addr).add j = ⟨w.heap.size, j, none⟩ by unfold Addr.add; split <;> simp_all]
  have hj4 : j < 3 := by
    have := (List.getElem?_eq_some_iff.1 hj).1
    simpa [MRow.cells3] using this
  rcases (show j = 0 ∨ j = 1 ∨ j = 2 by omega) with rfl | rfl | rfl <;> (simp [MRow.cells3] at hj; subst hj; simp [go_sem])
theorem plan_app {P : Program} {ops : Array Oper} {l : List Oper} {K : Act → World → Prop} {W w w'' : World} {a : Act} {m : Nat} {k : Pl} {om : Oper} (hl : l[m]? = some om) (hg : om.guard = none) (s x : Operand) (t : TypeId) (ho : om.op = .call { callee := .builtin .append, args := #[s, x], argTypes := #[t, t] }) (v : Value)
    (hr : (Builtin.append_ #[t, t] om.type #[a.eval s, a.eval x]).run P w = .ok v w'') (hb : Below W.heap.size W w'')
    (hk : ObPl P ops (fun w' => ∃ X, w' = gro W X) l K k (a.put om.dst v) w'') : ObPl P ops (fun w' => ∃ X, w' = gro W X) l K (.make m k) a w :=
  plan_val hl hg v (by
    unfold execOp
    simp only [ho, resolve, invoke, builtin, Sem.run_bind, Sem.run_pure, Result.andThen_ok, List.map_toArray, List.map_cons, List.map_nil, hr]) hb hk
/-- append([]int{}, s...) of four numbers: a copy in new memory -/
theorem app_copy4 (w : World) (g : Nat) (A : Option Addr) (c : Nat) (Z : Nat → Int) (hg : w.heap[g]? = some (.cells #[] 3 (0, 0))) (hA : Ints w A 4 Z) (ty : TypeId) (lo : Nat) (hlo : lo ≤ g) :
    ∃ B d w', (Builtin.append_ #[24, 24] ty #[.slice (some ⟨g, 0, none⟩) 0 0, .slice A 4 c]).run Try.prog w = .ok (.slice B 4 d) w' ∧ Ints w' B 4 Z ∧ w.grownBy w' (some g) ∧ (∀ b off, B = some ⟨b, off, none⟩ → b = g ∨ b = w.heap.size) := by
  obtain ⟨i0, hi, hz0, hz1, hz2⟩ := info_parts infoI
  have ho : w.ownsRow lo 3 1 (.slice (some ⟨g, 0, none⟩) 0 0) 0 [] := ⟨rfl, .inr ⟨g, 0, #[], rfl, hlo, hg, Nat.le_refl _, by decide, rfl, rfl⟩⟩
  rcases hA with h0 | ⟨ga, oa, rfl, hga, hc⟩
  · omega
  have hnews : ∀ j u, (vals 4 Z)[j]? = some u → w.cell? ((⟨ga, oa, none⟩ : Addr).add j) = some u := by
    intro j u hj
    have hj4 : j < 4 := by
      have h1 := (List.getElem?_eq_some_iff.1 hj).1
      unfold vals at h1
      rw [List.length_map, List.length_range] at h1
      exact h1
    have hu : u = .int .i64 (Z j) := by
      have h2 := (vals_at (Z := Z) hj4).symm.trans hj
      exact (Option.some.inj h2).symm
    rw [hu]
    clear hj hu
    rw [show (⟨ga, oa, none⟩ : Addr).add j = ⟨ga, oa + j, none⟩ by unfold Addr.add; split <;> simp_all]
    exact hc j hj4
  have hone : ∀ u ∈ vals 4 Z, u.oneCell' = true := fun u hu => by
    simp only [vals, List.mem_map] at hu
    obtain ⟨j, _, rfl⟩ := hu
    rfl
  obtain ⟨v', w', hr, hown, hgrow, _, hblk⟩ := run_append_own_at (P := Try.prog) w lo 24 ty 3 i0 (.int .i64 0) 1 8 Try.underlying24 hi hz0 hz1 hz2 rfl (by decide) (.slice (some ⟨g, 0, none⟩) 0 0) 0 [] ho ⟨ga, oa, none⟩ 4 c (vals 4 Z) (by unfold vals; rw [List.length_map, List.length_range]) hnews hone (by decide) (by decide) (by have := (Array.getElem?_eq_some_iff.1 hg).1; omega)
  rw [List.nil_append] at hown
  obtain ⟨B, d, rfl⟩ := own_slice hown
  refine ⟨B, d, w', hr, ?_, hgrow, fun b off e => ?_⟩
  · obtain ⟨A', c', e, _, _, hO⟩ := own_new (W := { w with heap := #[] }) (by omega) (Nat.zero_le _) hown
    injection e with e _ _
    subst e
    exact hO.ints
  · subst e
    rcases hblk with h | h
    · exact .inl (Option.some.inj h)
    · exact .inr (Option.some.inj h)
end Go.Proofs.Ytplocljoanaoeaa

namespace Go.Proofs.Ytplocljoanaoeaa
set_option linter.unusedVariables false
set_option linter.unusedSimpArgs false
open Go.RowKit
theorem below_growK {b : Nat} {w w' w'' : World} {r : Option Nat} (h : Below b w w') (hg : w'.grownBy w'' r) (hr : ∀ k, r = some k → b ≤ k) (hbw : b ≤ w.heap.size) : Below b w w'' :=
  ⟨hg.os.trans h.os, hg.tape.trans h.tape, hg.output.trans h.output, Nat.le_trans h.size hg.size, fun i hi => (hg.block i (Nat.lt_of_lt_of_le (Nat.lt_of_lt_of_le hi hbw) h.size) (fun e => by have := hr i e.symm; omega)).trans (h.block i hi)⟩
/-- what is read stays -/
def Kc (w w' : World) : Prop := ∀ b o v, w.cell? ⟨b, o, none⟩ = some v → w'.cell? ⟨b, o, none⟩ = some v
theorem Kc.ints {w w' : World} (h : Kc w w') {A : Option Addr} {n : Nat} {Z : Nat → Int} (hn : n ≠ 0) (hA : Ints w A n Z) : Ints w' A n Z := by
  rcases hA with h0 | ⟨g, off, ha, hg, hc⟩
  · exact absurd h0 hn
  · exact .inr ⟨g, off, ha, cell_lt (h _ _ _ (hc 0 (by omega))), fun k hk => h _ _ _ (hc k hk)⟩
def NoC (w : World) (v : Value) : Prop := ∀ g, v.ownBlock = some g → ∀ o, w.cell? ⟨g, o, none⟩ = none
theorem NoC.nil {w : World} {lo g : Nat} {e : TypeId} {xs : List Value} (h : w.ownsRow lo e 3 (.slice (some ⟨g, 0, none⟩) 0 0) 0 xs) : NoC w (.slice (some ⟨g, 0, none⟩) 0 0) := by
  intro g' hg' o
  simp only [Value.ownBlock, Option.some.injEq] at hg'
  subst hg'
  obtain ⟨_, ⟨e, _⟩ | ⟨g2, cap, cur, e, _, hh, _, _, hs, _⟩⟩ := h
  · cases e
  · injection e with e1 e2 e3
    injection e1 with e1
    injection e1 with e1 _ _
    subst e1
    subst e3
    have : cur = #[] := Array.size_eq_zero_iff.1 (by omega)
    subst this
    simp [World.cell?, hh]
theorem NoC.next {w wr : World} {v v' : Value} (h : NoC w v) (hk : v'.ownBlock = v.ownBlock ∨ v'.ownBlock = some wr.heap.size) (hz : w.heap.size ≤ wr.heap.size) : NoC w v' := by
  intro g hg o
  rcases hk with hk | hk
  · exact h g (hk.symm.trans hg) o
  · rw [hk] at hg
    injection hg with hg
    cases e : w.cell? ⟨g, o, none⟩ with
    | none => rfl
    | some x => have h1 : g < w.heap.size := cell_lt e
                omega
theorem Kc.step {w wr u w5 : World} {v : Value} (h : Kc w wr) (hb : Below wr.heap.size wr u) (hg : u.grownBy w5 v.ownBlock) (hn : NoC w v) : Kc w w5 := fun b o x hx =>
  hg.cell (carry hb (h b o x hx)) (fun e => by rw [hn b e.symm o] at hx; cases hx)
set_option maxRecDepth 100000 in
set_option maxHeartbeats 16000000 in
theorem sfarless_any (A : Option Addr) (n c : Nat) (L : Lst) (v : Int) (w : World) (hn : n ≤ 9223372036854775806) (hA : Lins w A n L) (hN : ∀ k, k < n → L.N k ≤ 1048576) :
    Calls Try.prog 24 #[.slice A n c, .int .i64 v] w (SLessP w (lessR n L v)) := by
  obtain ⟨i0, hi, hz0, hz1, hz2⟩ := info_parts infoLn
  generalize hr : lessR n L v = R
  have HR := hid hr; clear hr
  cases hok : okS n L with
  | false =>
    have HF := hid (lessR_no1 (v := v) hok)
    rw [HR.out] at HF
    have hG := fun W hb => sl3ok_at' (c := c) hn hA hN hok W hb
    clear hok hA hN
    go_enter Try.func24, Try.ntmps24
    go_wp2_with fail
    refine (hG _ (bal (Below.refl _ _) _)).mono ?_
    rintro e w1 ⟨rfl, hb⟩
    clear hG
    go_wp2
    go_ret2
    exact SLessP.no HF.out (btr (bal (Below.refl _ _) _) hb)
  | true =>
    have HOK := hid hok
    have hG := fun W hb => sl3ok_at' (c := c) hn hA hN hok W hb
    clear hok
    by_cases h0 : v < 0
    · have HF := hid (lessR_no2 (n := n) (L := L) h0)
      rw [HR.out] at HF
      have d0 : decide (v < 0) = true := by simpa using h0
      clear h0 hA hN
      go_enter Try.func24, Try.ntmps24
      go_wp2_with fail
      refine (hG _ (bal (Below.refl _ _) _)).mono ?_
      rintro e w1 ⟨rfl, hb⟩
      clear hG
      go_wp2
      go_ret2
      exact SLessP.no HF.out (btr (bal (Below.refl _ _) _) hb)
    have d0 : decide (v < 0) = false := by simp; omega
    by_cases h4 : 4 ≤ v
    · have HF := hid (lessR_no3 (n := n) (L := L) h4)
      rw [HR.out] at HF
      have d4 : decide (4 ≤ v) = true := by simpa using h4
      clear h4 h0 hA hN
      go_enter Try.func24, Try.ntmps24
      go_wp2_with fail
      refine (hG _ (bal (Below.refl _ _) _)).mono ?_
      rintro e w1 ⟨rfl, hb⟩
      clear hG
      go_wp2
      go_ret2
      exact SLessP.no HF.out (btr (bal (Below.refl _ _) _) hb)
    obtain ⟨y, rfl⟩ : ∃ y : Nat, v = y := ⟨v.toNat, by omega⟩
    have hy : y < 4 := by omega
    have hn20 := (okS_iff.1 HOK.out).1
    have hN4 : ∀ k, k < n → L.N k = 4 := fun k hk => (okL_iff.1 ((okS_iff.1 HOK.out).2 k hk)).1
    have d1 : decide ((y : Int) < 0) = false := decide_eq_false (by omega)
    have d2 : decide (4 ≤ (y : Int)) = false := decide_eq_false (by omega)
    have ho0 : (w.alloc (.cells #[] 28)).ownsRow w.heap.size 28 3 (.slice (some ⟨w.heap.size, 0, none⟩) 0 0) 0 (flat3 []) := World.ownsRow_made w #[] 0 (Nat.le_refl _) (by decide) rfl
    have q0 : Below w.heap.size w (w.alloc (.cells #[] 28)) := bal (Below.refl _ _) _
    clear h0 h4 d0
    have HA := hid hA
    clear hA hN
    go_enter Try.func24, Try.ntmps24
    go_wp2_with fail
    refine (hG _ q0).mono ?_
    rintro e w1 ⟨rfl, hb⟩
    clear hG
    replace ho0 := own_below hb ho0
    replace q0 := btr q0 hb
    clear hb
    have hRows := srows_any A n c L w1 hn20 (HA.out.below q0) hN4
    go_wp2_with fail
    refine hRows.mono ?_
    clear hRows
    rintro e w2 ⟨A2, c2, ms, rfl, hb, hml, hS, hM, hmr⟩
    replace ho0 := own_below hb ho0
    replace q0 := btr q0 hb
    have hZ := q0.size
    clear hb
    obtain ⟨n1, hn1, hn12, hS1, hM1, hO1⟩ : ∃ n1, 0 < n1 ∧ n1 ≤ 20 ∧ SlM n1 w2 A2 ms ∧ (∀ m ∈ ms, MRd n1 w2 m) ∧ (∀ m ∈ ms, m.r.ok n1) := by
      by_cases e : n = 0
      · have : ms = [] := List.length_eq_zero_iff.1 (by omega)
        subst this
        exact ⟨1, by omega, by omega, .inl rfl, (fun m hm => by cases hm), (fun m hm => by cases hm)⟩
      · exact ⟨n, by omega, hn20, hS, hM, fun m hm => given_ok HOK.out m.r (by rw [← hmr]; exact List.mem_map_of_mem hm)⟩
    have hD := sdrop_any n1 y A2 c2 ms w2 hy hn1 hn12 (by omega) hS1 hM1 hO1
    have hRL := hid (fun h => drop_ok hn12 hy (fun r hr => (by obtain ⟨m, hm, rfl⟩ := List.mem_map.1 hr; exact hO1 m hm)) h (l := ms.map MRow.r))
    clear hS hM hS1 hM1 hO1
    rw [hmr] at hD hRL
    rw [hml] at hD
    clear hmr hml
    go_wp2_with fail
    refine hD.mono ?_
    clear hD
    rintro e w3 ⟨A3, m, c3, qs, rfl, hb, hq⟩
    replace ho0 := own_below hb ho0
    replace q0 := btr q0 hb
    cases hd : dropOk y (givenL n L) with
    | false =>
      have HF := hid (lessR_no4 hd)
      rw [HR.out] at HF
      clear hd hq hb hRL ho0
      by_cases hm0 : 0 < m
      · have dm : decide ((0 : Int) < (m : Int)) = true := decide_eq_true (by omega)
        go_wp2
        go_loopw [6, 9] (fun r6 i wr => r6 = .slice (some ⟨w.heap.size, 0, none⟩) 0 0 ∧ i = .int .i64 0 ∧ wr = w3) (fun _ _ _ => 0)
        case atStart => exact ⟨rfl, rfl, rfl⟩
        case round =>
          obtain ⟨rfl, rfl, rfl⟩ := hrel
          go_wp2
          go_ret2
          exact SLessP.no HF.out q0
      · have dm : decide ((0 : Int) < (m : Int)) = false := decide_eq_false (by omega)
        go_wp2
        go_loopw [6, 9] (fun r6 i wr => r6 = .slice (some ⟨w.heap.size, 0, none⟩) 0 0 ∧ i = .int .i64 0 ∧ wr = w3) (fun _ _ _ => 0)
        case atStart => exact ⟨rfl, rfl, rfl⟩
        case round =>
          obtain ⟨rfl, rfl, rfl⟩ := hrel
          go_wp2
          go_ret2
          exact SLessP.no HF.out q0
    | true =>
      have HF := hid (lessR_yes HOK.out hy hd)
      rw [HR.out] at HF
      obtain ⟨hmq, hS2, hM2, hqr⟩ := hq hd
      have hRL2 := hRL.out hd
      rw [← hqr] at HF hRL2
      have hm200 : m ≤ 200 := by
        have h1 := drop_len y (givenL n L)
        unfold dropOk at hd
        rw [Bool.and_eq_true, decide_eq_true_iff] at hd
        rw [← hqr, List.length_map] at h1
        omega
      have HMQ := hid hmq
      have HM2 := hid hM2
      clear hd hq hqr hmq hRL hRL2 hM2 hb
      have hz3 := q0.size
      go_wp2
      go_loopw [6, 9] (fun r6 i wr => ∃ (k : Nat) (ys : List MRow), k ≤ m ∧ i = .int .i64 k ∧ Below w.heap.size w wr ∧ (Kc w3 wr ∧ NoC w3 r6 ∧ w3.heap.size ≤ wr.heap.size) ∧ ys.length = k ∧ wr.ownsRow w.heap.size 28 3 r6 ys.length (flat3 ys) ∧ (∀ y ∈ ys, Ints wr y.a 4 y.r.Z ∧ apA r6 y.a) ∧ ys.map MRow.r = (qs.map MRow.r).take k) (fun _ i _ => m - (intOf i).toNat)
      case atStart => exact ⟨0, [], Nat.zero_le _, rfl, q0, ⟨fun _ _ _ h => h, NoC.nil ho0, Nat.le_refl _⟩, rfl, ho0, (fun y hy => by cases hy), by simp⟩
      case round =>
        clear ho0 q0
        obtain ⟨k, ys, hk, rfl, hb, ⟨hkc, hnc, hzr⟩, hyl, ho, hyp, hym⟩ := hrel
        obtain ⟨a6, c6, e6⟩ := own_slice ho
        subst e6
        have HO := hid ho; have HYP := hid hyp; have HYM := hid hym; have HYL := hid hyl
        have HKC := hid hkc; have HNC := hid hnc
        clear ho hyp hym hyl hkc hnc
        by_cases hlt : k < m
        · obtain ⟨⟨aA, aC, aT, aD, ar⟩, hp⟩ : ∃ p, qs[k]? = some p := ⟨_, List.getElem?_eq_getElem (by have := HMQ.out; omega)⟩
          have hrd := hid (HKC.out.ints (by omega) (HM2.out _ (List.mem_of_getElem? hp)).1)
          have hgk := hid (show (qs.map MRow.r)[k]? = some ar by rw [List.getElem?_map, hp]; rfl)
          rcases hS2 with h0 | ⟨g, off, rfl, hg, hcA⟩
          · rw [h0] at hp; cases hp
          obtain ⟨a0, a1, a2, _⟩ := hcA k _ hp
          try simp only at a0 a1 a2
          replace a0 := HKC.out _ _ _ a0
          replace a1 := HKC.out _ _ _ a1
          replace a2 := HKC.out _ _ _ a2
          have lg := cell_lt a0
          have hyn : ys.length ≤ 200 := by have := HYL.out; omega
          clear hcA hp
          go_upto_region 8 with fail
          have gc := @gro_cell wr
          refine region_plan (.takes [0, 2, 3, 4, 5, 6, 7, 9, 10, 11, 12, 13, 14, 15, 16, 17, 18, 19, 20] (.make 1 (.make 8 (.takes [21] (.make 22 .fin))))) 23 rfl (by kernel_rfl) ?_
          refine plan_takes ?_; simp only [pickOps, List.getElem?_cons_zero, List.getElem?_cons_succ]; (repeat (go_big_quiet_step (fail))); refine wpQuiet_nil ?_
          clear gc
          have hB := (Below.refl wr.heap.size wr).drew
          have al := bal (Below.refl (wr.drew).heap.size (wr.drew)) (.cells #[] 3)
          refine plan_val rfl rfl (.slice (some ⟨(wr.drew).heap.size, 0, none⟩) 0 0) (w'' := (wr.drew).alloc (.cells #[] 3)) (by kernel_rfl) (btr hB al) ?_
          have hzd : wr.heap.size ≤ (wr.drew).heap.size := hB.size
          have hcg : ((wr.drew).alloc (.cells #[] 3)).heap[(wr.drew).heap.size]? = some (.cells #[] 3 (0, 0)) := (MapKept.heap_alloc (wr.drew) (.cells #[] 3)).1
          obtain ⟨B, d, u3, hr, hI, hgrow, hblk⟩ := app_copy4 ((wr.drew).alloc (.cells #[] 3)) (wr.drew).heap.size aA aC ar.Z hcg (hrd.out.below (btr hB al)) 24 wr.heap.size hzd
          have hB3 : Below wr.heap.size wr u3 := below_growK (btr hB al) hgrow (fun x e => by obtain rfl := Option.some.inj e; exact hzd) (Nat.le_refl _)
          refine plan_app rfl rfl _ _ 24 rfl (.slice B 4 d) hr hB3 ?_
          refine plan_takes ?_; simp only [pickOps, List.getElem?_cons_zero, List.getElem?_cons_succ]
          refine quiet_do rfl (.agg #[.slice B 4 d, .int .i64 ar.B, .bool ar.S]) (fun _ => by kernel_rfl) ?_
          refine wpQuiet_nil ?_
          have al2 := bal (Below.refl u3.heap.size u3) (.cells #[.slice B 4 d, .int .i64 ar.B, .bool ar.S] 28)
          refine plan_val rfl rfl (.slice (some ⟨u3.heap.size, 0, none⟩) 1 1) (w'' := u3.alloc (.cells #[.slice B 4 d, .int .i64 ar.B, .bool ar.S] 28)) (by kernel_rfl) (btr hB3 al2) ?_
          refine plan_fin ?_
          simp only [List.drop_succ_cons, List.drop_zero]
          have hapB : apA (.slice a6 ys.length c6) B := fun b off e e2 => by
            have h1 := (HO.out.lt b e2).2
            rcases hblk b off e with h | h
            · omega
            · simp at h; omega
          have hB4 := btr hB3 al2
          have hoA := hid (own_below hB4 HO.out)
          have hYA := hid (show ∀ y ∈ ys ++ [(⟨B, d, none, 0, ar⟩ : MRow)], Ints (u3.alloc (.cells #[.slice B 4 d, .int .i64 ar.B, .bool ar.S] 28)) y.a 4 y.r.Z ∧ apA (.slice a6 ys.length c6) y.a from fun y hy => by
            rcases List.mem_append.1 hy with hy | hy
            · exact ⟨(HYP.out y hy).1.below hB4, (HYP.out y hy).2⟩
            · obtain rfl := List.mem_singleton.1 hy
              exact ⟨hI.below al2, hapB⟩)
          have hn1' := hid (news_l3 u3 (⟨B, d, none, 0, ar⟩ : MRow) 28)
          have h1c := hid (one_l3 (⟨B, d, none, 0, ar⟩ : MRow))
          have hszA : w.heap.size ≤ (u3.alloc (.cells #[.slice B 4 d, .int .i64 ar.B, .bool ar.S] 28)).heap.size := Nat.le_trans hb.size hB4.size
          have hbb := hid (btr hb hB4)
          have HB4 := hid hB4
          have hzu : wr.heap.size ≤ (u3.alloc (.cells #[.slice B 4 d, .int .i64 ar.B, .bool ar.S] 28)).heap.size := hB4.size
          clear hB hB3 al al2 hB4 hr hI hgrow hblk hapB hcg hzd a0 a1 a2 lg
          simp only [Act.put, List.setIfInBounds_toArray, List.set_cons_succ, List.set_cons_zero]
          go_wp2_with ((at_builtin; go_loud (refine wpList_append_own_at _ rfl _ _ 23 rfl w.heap.size 28 i0 _ 3 40 Try.underlying23 hi hz0 hz1 hz2 rfl (by decide) _ _ _ rfl hoA.out ⟨u3.heap.size, 0, none⟩ 1 1 [.slice B 4 d, .int .i64 ar.B, .bool ar.S] rfl rfl hn1'.out h1c.out (by unfold maxLen; omega) (by omega) hszA ?_); intro v' w5 hown hgrow _ hblk; have hb5 := hid (fl_growM hbb.out hgrow (fun g e => (hoA.out.lt g e).1)); have HOW := hid hown; have HGR := hid hgrow; have HBL := hid hblk; clear hown hgrow hblk))
          go_roundw
          case rel =>
            refine ⟨k + 1, ys ++ [⟨B, d, none, 0, ar⟩], by omega, by go_num, hb5.out, ⟨HKC.out.step HB4.out HGR.out HNC.out, HNC.out.next HBL.out (by omega), Nat.le_trans (Nat.le_trans hzr hzu) HGR.out.size⟩, by rw [List.length_append, HYL.out]; rfl, by rw [flat3_app, flat3_one, List.length_append]; exact HOW.out, fun y hy => ?_, ?_⟩
            · obtain ⟨h1, h2⟩ := hYA.out y hy
              exact ⟨h1.growM HGR.out h2, h2.next HBL.out (h1.ltM (by omega))⟩
            · rw [List.map_append, HYM.out, List.map_cons, List.map_nil, List.take_add_one, hgk.out]; rfl
          case measure => simp [intOf]; omega
        · have hke : k = m := by omega
          have HKE := hid hke
          clear hke
          go_wp2
          go_ret2
          have e1 : ys.map MRow.r = qs.map MRow.r := by rw [HYM.out, List.take_of_length_le (by rw [List.length_map, ← HMQ.out, HKE.out]; exact Nat.le_refl _)]
          exact SLessP.yes (l := qs.map MRow.r) HF.out (by rw [List.length_map, HYL.out, HKE.out, HMQ.out]) hb (by rw [← e1]; exact own_lsW HO.out (fun y hy => (HYP.out y hy).1))
end Go.Proofs.Ytplocljoanaoeaa

namespace Go.Proofs.Ytplocljoanaoeaa
set_option linter.unusedVariables false
set_option linter.unusedSimpArgs false
open Go.RowKit
end Go.Proofs.Ytplocljoanaoeaa

namespace Go.Proofs.Ytplocljoanaoeaa
set_option linter.unusedVariables false
set_option linter.unusedSimpArgs false
open Go.RowKit
theorem LsB.wider {lo hi lo' hi' : Nat} {w : World} {A : Option Addr} {n : Nat} {L : Lst} (h : LsB lo hi w A n L) (h1 : lo' ≤ lo) (h2 : hi ≤ hi') : LsB lo' hi' w A n L := by
  obtain ⟨g, LA, LC, ha, g1, g2, hr, hc, hx, hy⟩ := h
  exact ⟨g, LA, LC, ha, by omega, by omega, hr, fun k hk => ⟨(hc k hk).1, (hc k hk).2.1, (hc k hk).2.2.wider h1 h2⟩, hx, hy⟩
/-- nothing, or a list in blocks of [lo, hi) -/
def LsO (lo hi : Nat) (w : World) (A : Option Addr) (n : Nat) (L : Lst) : Prop := n = 0 ∨ LsB lo hi w A n L
theorem LsO.below {lo hi : Nat} {w w' : World} {A : Option Addr} {n : Nat} {L : Lst} (h : LsO lo hi w A n L) (hb : Below w.heap.size w w') : LsO lo hi w' A n L := h.imp id (fun h => h.below hb)
theorem LsO.wrt {lo hi lo' hi' : Nat} {w w' : World} {A : Option Addr} {n : Nat} {L : Lst} (h : LsO lo hi w A n L) (hg : Wrt lo' hi' w w') (hd : hi ≤ lo' ∨ hi' ≤ lo) : LsO lo hi w' A n L := h.imp id (fun h => h.wrt hg hd)
theorem LsO.lins {lo hi : Nat} {w : World} {A : Option Addr} {n : Nat} {L : Lst} (h : LsO lo hi w A n L) (hN : ∀ k, k < n → L.N k ≤ 1048576) : Lins w A n L := h.elim .inl (fun h => h.lins hN)
theorem lstF_n (l : List FRw) : ∀ k, k < l.length → (lstF l).N k ≤ 1048576 := fun k _ => (show (4 : Nat) ≤ 1048576 by omega)
end Go.Proofs.Ytplocljoanaoeaa
