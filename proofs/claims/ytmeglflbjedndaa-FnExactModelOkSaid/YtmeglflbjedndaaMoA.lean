/- Rows of a model that are read; contracts of the laws' helpers over one row: the size, the copy, the comparison. -/
import Derived.Test.YtmeglflbjedndaaSigA
import Derived.Test.YtmeglflbjedndaaLinU
namespace Go.Proofs.Ytmeglflbjedndaa
set_option linter.unusedVariables false
set_option linter.unusedSimpArgs false
open Go.RowKit
/-- what a list of rows says: names, how many arguments, their numerators and denominators, those of the values -/
structure Mo where
  Nm : Nat → ByteArray
  N : Nat → Nat
  P : Nat → Nat → Int
  Q : Nat → Nat → Int
  U : Nat → Int
  V : Nat → Int
/-- the slice of n rows at A reads as L -/
def MRows (w : World) (A : Option Addr) (n : Nat) (L : Mo) : Prop :=
  n = 0 ∨ ∃ g off, A = some ⟨g, off, none⟩ ∧ g < w.heap.size ∧ ∀ k, k < n → ∃ a c, w.cell? ⟨g, off + k * 4, none⟩ = some (.string (L.Nm k)) ∧ w.cell? ⟨g, off + k * 4 + 1, none⟩ = some (.slice a (L.N k) c) ∧ w.cell? ⟨g, off + k * 4 + 2, none⟩ = some (.int .i64 (L.U k)) ∧ w.cell? ⟨g, off + k * 4 + 3, none⟩ = some (.int .i64 (L.V k)) ∧
    (L.Nm k).size ≤ 9223372036854775807 ∧ L.N k ≤ 9223372036854775807 ∧ Rats w a (L.N k) (L.P k) (L.Q k)
theorem MRows.below {w w1 : World} {A : Option Addr} {n : Nat} {L : Mo} (h : MRows w A n L) (hb : Below w.heap.size w w1) : MRows w1 A n L := by
  rcases h with h | ⟨g, off, ha, hg, hc⟩
  · exact .inl h
  · refine .inr ⟨g, off, ha, Nat.lt_of_lt_of_le hg hb.size, fun k hk => ?_⟩
    obtain ⟨a, c, h0, h1, h2, h3, h4, h5, h6⟩ := hc k hk
    exact ⟨a, c, carry hb h0, carry hb h1, carry hb h2, carry hb h3, h4, h5, h6.below hb⟩
/-- fractions that are read in memory new since W -/
def OwnR (W w : World) (A : Option Addr) (n : Nat) (N D : Nat → Int) : Prop :=
  ∃ g, A = some ⟨g, 0, none⟩ ∧ W.heap.size ≤ g ∧ w.rowIs g 48 (n * 2) (ratV N D)
theorem OwnR.below {W w w' : World} {A : Option Addr} {n : Nat} {N D : Nat → Int} (h : OwnR W w A n N D) (hb : Below w.heap.size w w') : OwnR W w' A n N D := by
  obtain ⟨g, ha, hg, hr⟩ := h
  exact ⟨g, ha, hg, row_below hr hb⟩
theorem OwnR.old {W W1 w : World} {A : Option Addr} {n : Nat} {N D : Nat → Int} (hb : W.heap.size ≤ W1.heap.size) (h : OwnR W1 w A n N D) : OwnR W w A n N D := by
  obtain ⟨g, ha, hg, hr⟩ := h
  exact ⟨g, ha, Nat.le_trans hb hg, hr⟩
theorem OwnR.set {W w : World} {A : Option Addr} {n : Nat} {N D : Nat → Int} {p o : Nat} (v : Value) (hp : p < W.heap.size) (h : OwnR W w A n N D) : OwnR W (w.setCell ⟨p, o, none⟩ v) A n N D := by
  obtain ⟨g, ha, hg, hr⟩ := h
  exact ⟨g, ha, hg, hr.setOther (by simp; omega) _⟩
theorem OwnR.rats {W w : World} {A : Option Addr} {n : Nat} {N D : Nat → Int} (h : OwnR W w A n N D) : Rats w A n N D := by
  obtain ⟨g, rfl, _, hr⟩ := h
  exact Rats.of_row hr
def moV (LA : Nat → Option Addr) (LC : Nat → Nat) (L : Mo) (j : Nat) : Value :=
  if j % 4 = 0 then .string (L.Nm (j / 4)) else if j % 4 = 1 then .slice (LA (j / 4)) (L.N (j / 4)) (LC (j / 4)) else if j % 4 = 2 then .int .i64 (L.U (j / 4)) else .int .i64 (L.V (j / 4))
theorem moV_0 (LA : Nat → Option Addr) (LC : Nat → Nat) (L : Mo) (k : Nat) : moV LA LC L (k * 4) = .string (L.Nm k) := by
  unfold moV; rw [if_pos (by omega), show k * 4 / 4 = k by omega]
theorem moV_1 (LA : Nat → Option Addr) (LC : Nat → Nat) (L : Mo) (k : Nat) : moV LA LC L (k * 4 + 1) = .slice (LA k) (L.N k) (LC k) := by
  unfold moV; rw [if_neg (by omega), if_pos (by omega), show (k * 4 + 1) / 4 = k by omega]
theorem moV_2 (LA : Nat → Option Addr) (LC : Nat → Nat) (L : Mo) (k : Nat) : moV LA LC L (k * 4 + 2) = .int .i64 (L.U k) := by
  unfold moV; rw [if_neg (by omega), if_neg (by omega), if_pos (by omega), show (k * 4 + 2) / 4 = k by omega]
theorem moV_3 (LA : Nat → Option Addr) (LC : Nat → Nat) (L : Mo) (k : Nat) : moV LA LC L (k * 4 + 3) = .int .i64 (L.V k) := by
  unfold moV; rw [if_neg (by omega), if_neg (by omega), if_neg (by omega), show (k * 4 + 3) / 4 = k by omega]
theorem moV_old {LA : Nat → Option Addr} {LC : Nat → Nat} {L : Mo} {A : Option Addr} {c k j : Nat} (h : j / 4 ≠ k) : moV (fun i => if i = k then A else LA i) (fun i => if i = k then c else LC i) L j = moV LA LC L j := by
  unfold moV; simp [h]
def zeroMo (j : Nat) : Value := if j % 4 = 0 then .string ⟨#[]⟩ else if j % 4 = 1 then .slice none 0 0 else .int .i64 0
/-- a list of n rows, all of memory new since W -/
def OwnM2 (W w : World) (A : Option Addr) (n : Nat) (L : Mo) : Prop :=
  ∃ g LA LC, A = some ⟨g, 0, none⟩ ∧ W.heap.size ≤ g ∧ w.rowIs g 122 (n * 4) (moV LA LC L) ∧ ∀ k, k < n → L.N k ≤ LC k ∧ LC k ≤ 9223372036854775807 ∧ OwnR W w (LA k) (L.N k) (L.P k) (L.Q k)
theorem OwnM2.below {W w w' : World} {A : Option Addr} {n : Nat} {L : Mo} (h : OwnM2 W w A n L) (hb : Below w.heap.size w w') : OwnM2 W w' A n L := by
  obtain ⟨g, LA, LC, ha, hg, hr, hc⟩ := h
  exact ⟨g, LA, LC, ha, hg, row_below hr hb, fun k hk => ⟨(hc k hk).1, (hc k hk).2.1, (hc k hk).2.2.below hb⟩⟩
/-- no row is too long -/
def SmM (n : Nat) (L : Mo) : Prop := ∀ k, k < n → L.N k ≤ 1048576 ∧ (L.Nm k).size ≤ 1048576
theorem OwnM2.rows {W w : World} {A : Option Addr} {n : Nat} {L : Mo} (h : OwnM2 W w A n L) (hN : SmM n L) : MRows w A n L := by
  obtain ⟨g, LA, LC, ha, hg, hr, hc⟩ := h
  refine .inr ⟨g, 0, ha, hr.lt, fun k hk => ⟨LA k, LC k, ?_, ?_, ?_, ?_, by have := hN k hk; omega, by have := hN k hk; omega, (hc k hk).2.2.rats⟩⟩
  · rw [Nat.zero_add]; exact (hr.cell (by omega)).trans (by rw [moV_0])
  · rw [Nat.zero_add]; exact (hr.cell (by omega)).trans (by rw [moV_1])
  · rw [Nat.zero_add]; exact (hr.cell (by omega)).trans (by rw [moV_2])
  · rw [Nat.zero_add]; exact (hr.cell (by omega)).trans (by rw [moV_3])
theorem infoMo : (Try.prog.info? 122).map (fun i => (i.zero, i.size, i.bytes)) = some (some (.agg #[.string ⟨#[]⟩, .slice none 0 0, .int .i64 0, .int .i64 0]), 4, 56) := by kernel_rfl
theorem rowIs_madeMo (w : World) (n : Nat) (t : TypeId) : (w.alloc (.cells (madeCells #[.string ⟨#[]⟩, .slice none 0 0, .int .i64 0, .int .i64 0] n) t)).rowIs w.heap.size t n zeroMo :=
  ⟨_, Deep.blk_alloc_new _ _, size_madeCells _ _, fun i hi => by
    have h2 : i % 4 = 0 ∨ i % 4 = 1 ∨ i % 4 = 2 ∨ i % 4 = 3 := by omega
    rcases h2 with h2 | h2 | h2 | h2 <;> simp [madeCells, hi, h2, zeroMo]⟩
theorem run_make_mrows (n : Nat) (hn : n ≤ 1048576) (w : World) :
    (Instr.makeSlice 27 (.int .i64 (n : Int)) (.int .i64 (n : Int))).run Try.prog w = .ok (.slice (some ⟨w.heap.size, 0, none⟩) n n) (w.alloc (.cells (madeCells #[.string ⟨#[]⟩, .slice none 0 0, .int .i64 0, .int .i64 0] (n * 4)) 122)) := by
  obtain ⟨i, hi, hzz⟩ := Option.map_eq_some_iff.1 infoMo
  simp only [Prod.mk.injEq] at hzz
  obtain ⟨hz, hs, hb⟩ := hzz
  have hr := run_make (P := Try.prog) w 27 122 i _ Try.underlying27 hi hz .i64 .i64 n n (by omega) (Int.le_refl _) (by rw [hb]; omega) (by omega)
  simp only [Int.toNat_natCast, hs] at hr
  exact hr
set_option maxHeartbeats 1000000 in
theorem szrow_any (nm : ByteArray) (A : Option Addr) (n c : Nat) (u v l : Int) (w : World) (hm : nm.size ≤ 9223372036854775807) (hn : n ≤ 9223372036854775807) (hl : 0 ≤ l ∧ l ≤ 1048576) :
    Calls Try.prog 145 #[.agg #[.string nm, .slice A n c, .int .i64 u, .int .i64 v], .int .i64 l] w (SzY w nm n l) := by
  obtain ⟨l1, l2⟩ := hl
  by_cases h : l < nm.size
  · go_enter Try.func145, Try.ntmps145
    go_wp2
    go_ret
    exact ⟨-1, rfl, .inl (by omega), bal (Below.refl _ _) _⟩
  · have h2 : 0 ≤ l - (nm.size : Int) := by omega
    have hS := fun W => szrats_any A n c (l - nm.size) W hn ⟨h2, by omega⟩
    by_cases h3 : l - (nm.size : Int) < n
    · rw [if_pos h3] at hS
      have H := hid h; have H3 := hid h3; clear h h3
      go_enter Try.func145, Try.ntmps145
      go_wp2_with (go_at_call 190; refine (hS _).mono ?_; rintro e w1 ⟨rfl, rfl⟩)
      go_ret
      exact ⟨-1, rfl, .inl (by omega), bal (Below.refl _ _) _⟩
    · rw [if_neg h3] at hS
      have h4 : 0 ≤ l - (nm.size : Int) - n := by omega
      have H := hid h; have H3 := hid h3; clear h h3
      go_enter Try.func145, Try.ntmps145
      go_wp2_with (go_at_call 190; refine (hS _).mono ?_; rintro e w1 ⟨rfl, rfl⟩)
      go_ret
      exact ⟨_, rfl, .inr ⟨h4, by omega, by omega, by have := H.out; omega⟩, bal (Below.refl _ _) _⟩
def rowQ (cs : Array Value) (i : Nat) : Value := cs[i]?.getD undef
theorem row_newQ (w : World) (cs : Array Value) (t : TypeId) : (w.alloc (.cells cs t)).rowIs w.heap.size t cs.size (rowQ cs) := World.rowIs_alloc w cs t _ (fun i hi => by simp [rowQ, hi])
/-- a value that reads as a row of new memory -/
def NewMo (W : World) (nm : ByteArray) (n : Nat) (P Q : Nat → Int) (u v : Int) (x : Value) (w' : World) : Prop :=
  ∃ A c, x = .agg #[.string nm, .slice A n c, .int .i64 u, .int .i64 v] ∧ n ≤ c ∧ c ≤ 9223372036854775807 ∧ OwnR W w' A n P Q
set_option maxHeartbeats 1000000 in
theorem torow_any (nm : ByteArray) (A : Option Addr) (n c : Nat) (P Q : Nat → Int) (u v : Int) (w : World) (hn : n ≤ 1048576) (hA : Rats w A n P Q) :
    Calls Try.prog 146 #[.agg #[.string nm, .slice A n c, .int .i64 u, .int .i64 v]] w fun e w' => ∃ x, e = .returned x ∧ NewMo w nm n P Q u v x w' ∧ Below w.heap.size w w' := by
  have C1 := hid (fun W (h : Below w.heap.size w W) => torats_any A n c P Q W hn (hA.below h))
  have C2 := hid (fun W => torat_any u v W)
  clear hA
  have H : KcL [(w.heap.size, 2, .int .i64 u), (w.heap.size, 3, .int .i64 v)] (((w.alloc (.cells #[.string nm, .slice A n c, .int .i64 u, .int .i64 v] 238)).alloc (.cells #[.string ⟨#[]⟩, .slice none 0 0, .int .i64 0, .int .i64 0] 122)).alloc (.cells #[.string nm, .slice none 0 0, .int .i64 0, .int .i64 0] 122)) := by
    refine ⟨?_, ?_, trivial⟩ <;> simp [go_sem]
  have q0 : Below w.heap.size w (((w.alloc (.cells #[.string nm, .slice A n c, .int .i64 u, .int .i64 v] 238)).alloc (.cells #[.string ⟨#[]⟩, .slice none 0 0, .int .i64 0, .int .i64 0] 122)).alloc (.cells #[.string nm, .slice none 0 0, .int .i64 0, .int .i64 0] 122)) := bal (bal (bal (Below.refl _ _) _) _) _
  have R2 : (((w.alloc (.cells #[.string nm, .slice A n c, .int .i64 u, .int .i64 v] 238)).alloc (.cells #[.string ⟨#[]⟩, .slice none 0 0, .int .i64 0, .int .i64 0] 122)).alloc (.cells #[.string nm, .slice none 0 0, .int .i64 0, .int .i64 0] 122)).rowIs (w.heap.size + 1) 122 4 (rowQ #[.string ⟨#[]⟩, .slice none 0 0, .int .i64 0, .int .i64 0]) := by
    have h := (row_newQ (w.alloc (.cells #[.string nm, .slice A n c, .int .i64 u, .int .i64 v] 238)) #[.string ⟨#[]⟩, .slice none 0 0, .int .i64 0, .int .i64 0] 122).alloc (.cells #[.string nm, .slice none 0 0, .int .i64 0, .int .i64 0] 122)
    rw [World.size_alloc] at h
    exact h
  have R3 : (((w.alloc (.cells #[.string nm, .slice A n c, .int .i64 u, .int .i64 v] 238)).alloc (.cells #[.string ⟨#[]⟩, .slice none 0 0, .int .i64 0, .int .i64 0] 122)).alloc (.cells #[.string nm, .slice none 0 0, .int .i64 0, .int .i64 0] 122)).rowIs (w.heap.size + 1 + 1) 122 4 (rowQ #[.string nm, .slice none 0 0, .int .i64 0, .int .i64 0]) := by
    have h := row_newQ ((w.alloc (.cells #[.string nm, .slice A n c, .int .i64 u, .int .i64 v] 238)).alloc (.cells #[.string ⟨#[]⟩, .slice none 0 0, .int .i64 0, .int .i64 0] 122)) #[.string nm, .slice none 0 0, .int .i64 0, .int .i64 0] 122
    rw [World.size_alloc, World.size_alloc] at h
    exact h
  have zz : w.heap.size + 3 ≤ (((w.alloc (.cells #[.string nm, .slice A n c, .int .i64 u, .int .i64 v] 238)).alloc (.cells #[.string ⟨#[]⟩, .slice none 0 0, .int .i64 0, .int .i64 0] 122)).alloc (.cells #[.string nm, .slice none 0 0, .int .i64 0, .int .i64 0] 122)).heap.size := by simp
  go_enter Try.func146, Try.ntmps146
  go_wp2_with fail
  generalize ((w.alloc (.cells #[.string nm, .slice A n c, .int .i64 u, .int .i64 v] 238)).alloc (.cells #[.string ⟨#[]⟩, .slice none 0 0, .int .i64 0, .int .i64 0] 122)).alloc (.cells #[.string nm, .slice none 0 0, .int .i64 0, .int .i64 0] 122) = w0 at *
  refine (C1.out _ q0).mono ?_
  rintro e w1 ⟨g, rfl, hg, hr, hq⟩
  have O : OwnR w0 w1 (some ⟨g, 0, none⟩) n P Q := ⟨g, rfl, hg, hr⟩
  clear hr hg
  replace H := H.below hq
  replace q0 := btr q0 hq
  replace R2 := row_below R2 hq
  replace R3 := row_below R3 hq
  clear hq C1
  have hx2 : w.heap.size + 1 + 1 < w0.heap.size := by omega
  have hx1 : w.heap.size + 1 < w0.heap.size := by omega
  have H0 := hid hx2; have H1 := hid hx1
  have HH_ := H; obtain ⟨c0, c1, _⟩ := HH_
  have l0 := cell_lt c0
  have g1 := R3.cell (i := 1) (by omega)
  have f1 : w1.frozen? ⟨w.heap.size + 1 + 1, 1, none⟩ = false := R3.frozen _
  go_wp2_with fail
  replace q0 := bst q0 (p := ⟨w.heap.size + 1 + 1, 1, none⟩) (show w.heap.size ≤ w.heap.size + 1 + 1 by omega) (.slice (some ⟨g, 0, none⟩) n n)
  replace R2 := R2.setOther (a := ⟨w.heap.size + 1 + 1, 1, none⟩) (by simp) (.slice (some ⟨g, 0, none⟩) n n)
  replace R3 := R3.set 1 (.slice (some ⟨g, 0, none⟩) n n)
  replace O := O.set (p := w.heap.size + 1 + 1) (o := 1) (.slice (some ⟨g, 0, none⟩) n n) H0.out
  clear c0 c1 l0 g1 f1 H
  refine (C2.out _).mono ?_
  rintro e w2 ⟨rfl, hq⟩
  replace q0 := btr q0 hq
  replace R2 := row_below R2 hq
  replace R3 := row_below R3 hq
  replace O := O.below hq
  clear hq C2
  have g2 := R3.cell (i := 2) (by omega)
  have g3 := R3.cell (i := 3) (by omega)
  have f2 : w2.frozen? ⟨w.heap.size + 1 + 1, 2, none⟩ = false := R3.frozen _
  have f3 : w2.frozen? ⟨w.heap.size + 1 + 1, 3, none⟩ = false := R3.frozen _
  go_upto_region 5 with fail
  clear g2 f2 g3 f3
  replace q0 := bst q0 (p := ⟨w.heap.size + 1 + 1, 2, none⟩) (show w.heap.size ≤ w.heap.size + 1 + 1 by omega) (.int .i64 u)
  replace R2 := R2.setOther (a := ⟨w.heap.size + 1 + 1, 2, none⟩) (by simp) (.int .i64 u)
  replace R3 := R3.set 2 (.int .i64 u)
  replace O := O.set (p := w.heap.size + 1 + 1) (o := 2) (.int .i64 u) H0.out
  replace q0 := bst q0 (p := ⟨w.heap.size + 1 + 1, 3, none⟩) (show w.heap.size ≤ w.heap.size + 1 + 1 by omega) (.int .i64 v)
  replace R2 := R2.setOther (a := ⟨w.heap.size + 1 + 1, 3, none⟩) (by simp) (.int .i64 v)
  replace R3 := R3.set 3 (.int .i64 v)
  replace O := O.set (p := w.heap.size + 1 + 1) (o := 3) (.int .i64 v) H0.out
  generalize (w2.setCell ⟨w.heap.size + 1 + 1, 2, none⟩ (.int .i64 u)).setCell ⟨w.heap.size + 1 + 1, 3, none⟩ (.int .i64 v) = X at *
  have k0 : X.cell? ⟨w.heap.size + 1 + 1, 0, none⟩ = some (.string nm) := R3.cell (i := 0) (by omega)
  have k1 : X.cell? ⟨w.heap.size + 1 + 1, 1, none⟩ = some (.slice (some ⟨g, 0, none⟩) n n) := R3.cell (i := 1) (by omega)
  have k2 : X.cell? ⟨w.heap.size + 1 + 1, 2, none⟩ = some (.int .i64 u) := R3.cell (i := 2) (by omega)
  have k3 : X.cell? ⟨w.heap.size + 1 + 1, 3, none⟩ = some (.int .i64 v) := R3.cell (i := 3) (by omega)
  have y0 : X.cell? ⟨w.heap.size + 1, 0, none⟩ = some (.string ⟨#[]⟩) := R2.cell (i := 0) (by omega)
  have y1 : X.cell? ⟨w.heap.size + 1, 1, none⟩ = some (.slice none 0 0) := R2.cell (i := 1) (by omega)
  have y2 : X.cell? ⟨w.heap.size + 1, 2, none⟩ = some (.int .i64 0) := R2.cell (i := 2) (by omega)
  have y3 : X.cell? ⟨w.heap.size + 1, 3, none⟩ = some (.int .i64 0) := R2.cell (i := 3) (by omega)
  have f0 : X.frozen? ⟨w.heap.size + 1, 0, none⟩ = false := R2.frozen _
  have f1 : X.frozen? ⟨w.heap.size + 1, 1, none⟩ = false := R2.frozen _
  have f2 : X.frozen? ⟨w.heap.size + 1, 2, none⟩ = false := R2.frozen _
  have f3 : X.frozen? ⟨w.heap.size + 1, 3, none⟩ = false := R2.frozen _
  have RF := hid ((((R2.set 0 (.string nm)).set 1 (.slice (some ⟨g, 0, none⟩) n n)).set 2 (.int .i64 u)).set 3 (.int .i64 v))
  have t0 : ((((X.setCell ⟨w.heap.size + 1, 0, none⟩ (.string nm)).setCell ⟨w.heap.size + 1, 1, none⟩ (.slice (some ⟨g, 0, none⟩) n n)).setCell ⟨w.heap.size + 1, 2, none⟩ (.int .i64 u)).setCell ⟨w.heap.size + 1, 3, none⟩ (.int .i64 v)).cell? ⟨w.heap.size + 1, 0, none⟩ = some (.string nm) := RF.out.cell (i := 0) (by omega)
  have t1 : ((((X.setCell ⟨w.heap.size + 1, 0, none⟩ (.string nm)).setCell ⟨w.heap.size + 1, 1, none⟩ (.slice (some ⟨g, 0, none⟩) n n)).setCell ⟨w.heap.size + 1, 2, none⟩ (.int .i64 u)).setCell ⟨w.heap.size + 1, 3, none⟩ (.int .i64 v)).cell? ⟨w.heap.size + 1, 1, none⟩ = some (.slice (some ⟨g, 0, none⟩) n n) := RF.out.cell (i := 1) (by omega)
  have t2 : ((((X.setCell ⟨w.heap.size + 1, 0, none⟩ (.string nm)).setCell ⟨w.heap.size + 1, 1, none⟩ (.slice (some ⟨g, 0, none⟩) n n)).setCell ⟨w.heap.size + 1, 2, none⟩ (.int .i64 u)).setCell ⟨w.heap.size + 1, 3, none⟩ (.int .i64 v)).cell? ⟨w.heap.size + 1, 2, none⟩ = some (.int .i64 u) := RF.out.cell (i := 2) (by omega)
  have t3 : ((((X.setCell ⟨w.heap.size + 1, 0, none⟩ (.string nm)).setCell ⟨w.heap.size + 1, 1, none⟩ (.slice (some ⟨g, 0, none⟩) n n)).setCell ⟨w.heap.size + 1, 2, none⟩ (.int .i64 u)).setCell ⟨w.heap.size + 1, 3, none⟩ (.int .i64 v)).cell? ⟨w.heap.size + 1, 3, none⟩ = some (.int .i64 v) := RF.out.cell (i := 3) (by omega)
  have Qd := hid q0; have Od := hid O
  clear O R2 R3 q0
  go_wp2
  refine bodyPost_ret (v := .agg #[.string nm, .slice (some ⟨g, 0, none⟩) n n, .int .i64 u, .int .i64 v]) (by simp [results, Try.results146, go_sem, t0, t1, t2, t3]) rfl ?_
  clear t0 t1 t2 t3 k0 k1 k2 k3 y0 y1 y2 y3
  exact ⟨_, rfl, ⟨_, _, rfl, Nat.le_refl _, by omega, ((((Od.out.set (p := w.heap.size + 1) (o := 0) (.string nm) H1.out).set (p := w.heap.size + 1) (o := 1) (.slice (some ⟨g, 0, none⟩) n n) H1.out).set (p := w.heap.size + 1) (o := 2) (.int .i64 u) H1.out).set (p := w.heap.size + 1) (o := 3) (.int .i64 v) H1.out).old (by omega)⟩, bst (bst (bst (bst Qd.out (p := ⟨w.heap.size + 1, 0, none⟩) (show w.heap.size ≤ w.heap.size + 1 by omega) (.string nm)) (p := ⟨w.heap.size + 1, 1, none⟩) (show w.heap.size ≤ w.heap.size + 1 by omega) (.slice (some ⟨g, 0, none⟩) n n)) (p := ⟨w.heap.size + 1, 2, none⟩) (show w.heap.size ≤ w.heap.size + 1 by omega) (.int .i64 u)) (p := ⟨w.heap.size + 1, 3, none⟩) (show w.heap.size ≤ w.heap.size + 1 by omega) (.int .i64 v)⟩
set_option maxHeartbeats 1000000 in
theorem eqrow_same {nm : ByteArray} {A B : Option Addr} {n c d : Nat} {P Q : Nat → Int} {u v : Int} {w : World} (hn : n ≤ 9223372036854775807) (hA : Rats w A n P Q) (hB : Rats w B n P Q) :
    Calls Try.prog 148 #[.agg #[.string nm, .slice A n c, .int .i64 u, .int .i64 v], .agg #[.string nm, .slice B n d, .int .i64 u, .int .i64 v]] w fun e w' => e = .returned (.bool true) ∧ Below w.heap.size w w' := by
  have hS := fun W (hb : Below w.heap.size w W) => eqrats_same A B n c d P Q W hn (hA.below hb) (hB.below hb)
  have hE := fun W => eqrat_any u v W
  clear hA hB hn
  have H : KcL [(w.heap.size, 2, .int .i64 u), (w.heap.size, 3, .int .i64 v), (w.heap.size + 1, 2, .int .i64 u), (w.heap.size + 1, 3, .int .i64 v)] ((w.alloc (.cells #[.string nm, .slice A n c, .int .i64 u, .int .i64 v] 122)).alloc (.cells #[.string nm, .slice B n d, .int .i64 u, .int .i64 v] 122)) := by
    refine ⟨?_, ?_, ?_, ?_, trivial⟩ <;> simp [go_sem]
  have q0 := bal (bal (Below.refl w.heap.size w) (.cells #[.string nm, .slice A n c, .int .i64 u, .int .i64 v] 122)) (.cells #[.string nm, .slice B n d, .int .i64 u, .int .i64 v] 122)
  go_enter Try.func148, Try.ntmps148
  go_wp2_with fail
  refine (hS _ q0).mono ?_
  rintro e w1 ⟨rfl, hq⟩
  replace H := H.below hq
  replace q0 := btr q0 hq
  clear hS hq
  have HH_ := H; obtain ⟨c0, c1, c2, c3, _⟩ := HH_
  have l0 := cell_lt c0
  have l1 := cell_lt c2
  go_wp2_with fail
  refine (hE _).mono ?_
  rintro e w2 ⟨rfl, hq⟩
  clear c0 c1 c2 c3 l0 l1
  go_wp2
  go_ret
  exact ⟨rfl, btr q0 hq⟩
end Go.Proofs.Ytmeglflbjedndaa
