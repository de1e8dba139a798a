/- Several texts in one: LtA, LtB, LtC. -/
import Derived.Test.YtanfljajafelgaaBA
import Derived.Test.YtanfljajafelgaaBP
namespace Go.Proofs.Ytanfljajafelgaa
set_option linter.unusedVariables false
set_option linter.unusedSimpArgs false
open Go.RowKit
/-- the parts of an atom lie apart, in blocks from lo up to hi -/
def LtS (w : World) (x : At) (lo hi : Nat) (A1 A2 A3 A4 : Option Addr) : Prop :=
  ∃ h1 h2 h3, lo ≤ h1 ∧ h1 ≤ h2 ∧ h2 ≤ h3 ∧ h3 ≤ hi ∧ SepT w x.a lo h1 A1 ∧ SepT w x.b h1 h2 A2 ∧ SepT w (.mk ⟨#[]⟩ x.n x.kid) h2 h3 A3 ∧ OwnB h3 hi w A4 x.m x.Z
theorem LtS.below {w w' : World} {x : At} {lo hi : Nat} {A1 A2 A3 A4 : Option Addr} (h : LtS w x lo hi A1 A2 A3 A4) (hb : Below w.heap.size w w') : LtS w' x lo hi A1 A2 A3 A4 := by
  obtain ⟨h1, h2, h3, a, b, c, d, s1, s2, s3, o⟩ := h
  exact ⟨h1, h2, h3, a, b, c, d, s1.below hb, s2.below hb, s3.below hb, o.below hb⟩
theorem LtS.wrt {w w' : World} {x : At} {lo hi lo' hi' : Nat} {A1 A2 A3 A4 : Option Addr} (h : LtS w x lo hi A1 A2 A3 A4) (hw : Wrt lo' hi' w w') (hd : hi ≤ lo' ∨ hi' ≤ lo) : LtS w' x lo hi A1 A2 A3 A4 := by
  obtain ⟨h1, h2, h3, a, b, c, d, s1, s2, s3, o⟩ := h
  exact ⟨h1, h2, h3, a, b, c, d, s1.wrt hw (by omega), s2.wrt hw (by omega), s3.wrt hw (by omega), o.wrt hw (by omega)⟩
theorem SepT.kidsB {w : World} {t : Tm} {lo hi : Nat} {A : Option Addr} (h : SepT w t lo hi A) : Kids 0 w t A := (h.kidT (Nat.zero_le lo)).kids
theorem LtS.k {w : World} {x : At} {lo hi : Nat} {A1 A2 A3 A4 : Option Addr} (h : LtS w x lo hi A1 A2 A3 A4) : AtK w x A1 A2 A3 A4 := by
  obtain ⟨h1, h2, h3, a, b, c, d, s1, s2, s3, o⟩ := h
  exact ⟨s1.kidsB, s2.kidsB, s3.kidsB, o.ints⟩
theorem LtS.t {w : World} {x : At} {lo hi g : Nat} {A1 A2 A4 : Option Addr} (h : LtS w x lo hi A1 A2 (some ⟨g, 0, none⟩) A4) : AtT w x A1 A2 (some ⟨g, 0, none⟩) A4 := by
  obtain ⟨h1, h2, h3, a, b, c, d, s1, s2, s3, o⟩ := h
  exact ⟨s1.kidT (Nat.zero_le _), s2.kidT (Nat.zero_le _), s3.kidT (Nat.zero_le _), ⟨_, rfl⟩, o.ints⟩
theorem SepT.setO {p o lo hi : Nat} {w : World} {t : Tm} {A : Option Addr} (v : Value) (hp : p < lo) (h : SepT w t lo hi A) : SepT (w.setCell ⟨p, o, none⟩ v) t lo hi A :=
  h.keep fun g cs h1 h2 hg => (Deep.blk_setCell_other _ _ _ _ (by simp only; omega)).trans hg
/-- an atom of new memory, handed back, its parts apart -/
def NewAS (W : World) (x : At) (e : Ending) (w' : World) : Prop :=
  ∃ A1 A2 g3 A4, e = .returned (.agg (x.cs A1 x.a.n A2 x.b.n (some ⟨g3, 0, none⟩) x.n A4 x.m)) ∧ LtS w' x W.heap.size w'.heap.size A1 A2 (some ⟨g3, 0, none⟩) A4 ∧ Below W.heap.size W w'
set_option maxRecDepth 100000 in
set_option maxHeartbeats 8000000 in
theorem toatom_S (x : At) (hF : AtF 1048576 x) (A1 : Option Addr) (c1 : Nat) (A2 : Option Addr) (c2 : Nat) (A3 : Option Addr) (c3 : Nat) (A4 : Option Addr) (c4 : Nat) (w : World) (hA : AtK w x A1 A2 A3 A4) :
    Calls Try.prog 63 #[.agg (x.cs A1 c1 A2 c2 A3 c3 A4 c4)] w (NewAS w x) := by
  obtain ⟨kd, a, b, n, kid, m, Z, bd, st⟩ := x
  obtain ⟨f1, f2, f3, f4, f5⟩ := hF
  obtain ⟨k1, k2, k3, k4⟩ := hA
  simp only at f1 f2 f3 f4 f5 k1 k2 k3 k4
  simp only [At.cs]
  have C1 := hid (fun W (h : Below w.heap.size w W) => totermS_any a f1 A1 c1 W (k1.below h))
  have C2 := hid (fun W (h : Below w.heap.size w W) => totermS_any b f2 A2 c2 W (k2.below h))
  have C3 := hid (fun W (h : Below w.heap.size w W) => toterms_S n kid f3 f4 A3 c3 W (k3.below h))
  have C4 := hid (fun W (h : Below w.heap.size w W) => toints_any A4 m c4 Z W f5 (k4.below h))
  clear f1 f2 f4 k1 k2 k3 k4
  have H : KcL [(w.heap.size, 1, .string a.nm), (w.heap.size, 2, .slice A1 a.n c1), (w.heap.size, 3, .string b.nm), (w.heap.size, 4, .slice A2 b.n c2), (w.heap.size, 5, .slice A3 n c3), (w.heap.size, 6, .slice A4 m c4), (w.heap.size, 7, .int .i64 bd), (w.heap.size, 8, .bool st)] (((w.alloc (.cells #[.int .i64 kd, .string a.nm, .slice A1 a.n c1, .string b.nm, .slice A2 b.n c2, .slice A3 n c3, .slice A4 m c4, .int .i64 bd, .bool st] 91)).alloc (.cells #[.int .i64 0, .string ⟨#[]⟩, .slice none 0 0, .string ⟨#[]⟩, .slice none 0 0, .slice none 0 0, .slice none 0 0, .int .i64 0, .bool false] 95)).alloc (.cells #[.int .i64 kd, .string ⟨#[]⟩, .slice none 0 0, .string ⟨#[]⟩, .slice none 0 0, .slice none 0 0, .slice none 0 0, .int .i64 0, .bool false] 95)) := by
    refine ⟨?_, ?_, ?_, ?_, ?_, ?_, ?_, ?_, trivial⟩ <;> simp [go_sem]
  have q0 : Below w.heap.size w (((w.alloc (.cells #[.int .i64 kd, .string a.nm, .slice A1 a.n c1, .string b.nm, .slice A2 b.n c2, .slice A3 n c3, .slice A4 m c4, .int .i64 bd, .bool st] 91)).alloc (.cells #[.int .i64 0, .string ⟨#[]⟩, .slice none 0 0, .string ⟨#[]⟩, .slice none 0 0, .slice none 0 0, .slice none 0 0, .int .i64 0, .bool false] 95)).alloc (.cells #[.int .i64 kd, .string ⟨#[]⟩, .slice none 0 0, .string ⟨#[]⟩, .slice none 0 0, .slice none 0 0, .slice none 0 0, .int .i64 0, .bool false] 95)) := bal (bal (bal (Below.refl _ _) _) _) _
  have R2 : (((w.alloc (.cells #[.int .i64 kd, .string a.nm, .slice A1 a.n c1, .string b.nm, .slice A2 b.n c2, .slice A3 n c3, .slice A4 m c4, .int .i64 bd, .bool st] 91)).alloc (.cells #[.int .i64 0, .string ⟨#[]⟩, .slice none 0 0, .string ⟨#[]⟩, .slice none 0 0, .slice none 0 0, .slice none 0 0, .int .i64 0, .bool false] 95)).alloc (.cells #[.int .i64 kd, .string ⟨#[]⟩, .slice none 0 0, .string ⟨#[]⟩, .slice none 0 0, .slice none 0 0, .slice none 0 0, .int .i64 0, .bool false] 95)).rowIs (w.heap.size + 1) 95 9 (rowOf #[.int .i64 0, .string ⟨#[]⟩, .slice none 0 0, .string ⟨#[]⟩, .slice none 0 0, .slice none 0 0, .slice none 0 0, .int .i64 0, .bool false]) := by
    have h := (row_newA (w.alloc (.cells #[.int .i64 kd, .string a.nm, .slice A1 a.n c1, .string b.nm, .slice A2 b.n c2, .slice A3 n c3, .slice A4 m c4, .int .i64 bd, .bool st] 91)) #[.int .i64 0, .string ⟨#[]⟩, .slice none 0 0, .string ⟨#[]⟩, .slice none 0 0, .slice none 0 0, .slice none 0 0, .int .i64 0, .bool false] 95).alloc (.cells #[.int .i64 kd, .string ⟨#[]⟩, .slice none 0 0, .string ⟨#[]⟩, .slice none 0 0, .slice none 0 0, .slice none 0 0, .int .i64 0, .bool false] 95)
    rw [World.size_alloc] at h
    exact h
  have R3 : (((w.alloc (.cells #[.int .i64 kd, .string a.nm, .slice A1 a.n c1, .string b.nm, .slice A2 b.n c2, .slice A3 n c3, .slice A4 m c4, .int .i64 bd, .bool st] 91)).alloc (.cells #[.int .i64 0, .string ⟨#[]⟩, .slice none 0 0, .string ⟨#[]⟩, .slice none 0 0, .slice none 0 0, .slice none 0 0, .int .i64 0, .bool false] 95)).alloc (.cells #[.int .i64 kd, .string ⟨#[]⟩, .slice none 0 0, .string ⟨#[]⟩, .slice none 0 0, .slice none 0 0, .slice none 0 0, .int .i64 0, .bool false] 95)).rowIs (w.heap.size + 1 + 1) 95 9 (rowOf #[.int .i64 kd, .string ⟨#[]⟩, .slice none 0 0, .string ⟨#[]⟩, .slice none 0 0, .slice none 0 0, .slice none 0 0, .int .i64 0, .bool false]) := by
    have h := row_newA ((w.alloc (.cells #[.int .i64 kd, .string a.nm, .slice A1 a.n c1, .string b.nm, .slice A2 b.n c2, .slice A3 n c3, .slice A4 m c4, .int .i64 bd, .bool st] 91)).alloc (.cells #[.int .i64 0, .string ⟨#[]⟩, .slice none 0 0, .string ⟨#[]⟩, .slice none 0 0, .slice none 0 0, .slice none 0 0, .int .i64 0, .bool false] 95)) #[.int .i64 kd, .string ⟨#[]⟩, .slice none 0 0, .string ⟨#[]⟩, .slice none 0 0, .slice none 0 0, .slice none 0 0, .int .i64 0, .bool false] 95
    rw [World.size_alloc, World.size_alloc] at h
    exact h
  have zz : w.heap.size + 3 ≤ (((w.alloc (.cells #[.int .i64 kd, .string a.nm, .slice A1 a.n c1, .string b.nm, .slice A2 b.n c2, .slice A3 n c3, .slice A4 m c4, .int .i64 bd, .bool st] 91)).alloc (.cells #[.int .i64 0, .string ⟨#[]⟩, .slice none 0 0, .string ⟨#[]⟩, .slice none 0 0, .slice none 0 0, .slice none 0 0, .int .i64 0, .bool false] 95)).alloc (.cells #[.int .i64 kd, .string ⟨#[]⟩, .slice none 0 0, .string ⟨#[]⟩, .slice none 0 0, .slice none 0 0, .slice none 0 0, .int .i64 0, .bool false] 95)).heap.size := by simp
  go_enter Try.func63, Try.ntmps63
  go_wp2_with fail
  generalize ((w.alloc (.cells #[.int .i64 kd, .string a.nm, .slice A1 a.n c1, .string b.nm, .slice A2 b.n c2, .slice A3 n c3, .slice A4 m c4, .int .i64 bd, .bool st] 91)).alloc (.cells #[.int .i64 0, .string ⟨#[]⟩, .slice none 0 0, .string ⟨#[]⟩, .slice none 0 0, .slice none 0 0, .slice none 0 0, .int .i64 0, .bool false] 95)).alloc (.cells #[.int .i64 kd, .string ⟨#[]⟩, .slice none 0 0, .string ⟨#[]⟩, .slice none 0 0, .slice none 0 0, .slice none 0 0, .int .i64 0, .bool false] 95) = w0 at *
  have z0 := zz
  refine (C1.out _ q0).mono ?_
  rintro e w1 ⟨D1, rfl, O1, hq⟩
  replace H := H.below hq
  replace q0 := btr q0 hq
  replace R2 := row_below R2 hq
  replace R3 := row_below R3 hq
  replace zz := Nat.le_trans zz hq.size
  clear hq C1
  have z1 := zz
  have HH_ := H; obtain ⟨c0, c1, c2, c3, c4, c5, c6, c7, _⟩ := HH_
  have l0 := cell_lt c0
  have g1 := R3.cell (i := 1) (by omega)
  have f1 : w1.frozen? ⟨w.heap.size + 1 + 1, 1, none⟩ = false := R3.frozen _
  have g2 := R3.cell (i := 2) (by omega)
  have f2 : w1.frozen? ⟨w.heap.size + 1 + 1, 2, none⟩ = false := R3.frozen _
  go_wp2_with fail
  replace H := H.keep (grow_set _ (w.heap.size + 1 + 1) 1 (.string a.nm)) (fun e he g hg => by cases hg; simp at he; rcases he with rfl | rfl | rfl | rfl | rfl | rfl | rfl | rfl <;> simp <;> omega)
  replace q0 := bst q0 (p := ⟨w.heap.size + 1 + 1, 1, none⟩) (show w.heap.size ≤ w.heap.size + 1 + 1 by omega) (.string a.nm)
  replace R2 := R2.setOther (a := ⟨w.heap.size + 1 + 1, 1, none⟩) (by simp) (.string a.nm)
  replace R3 := R3.set 1 (.string a.nm)
  replace O1 := O1.setO (p := w.heap.size + 1 + 1) (o := 1) (.string a.nm) (by omega)
  replace H := H.keep (grow_set _ (w.heap.size + 1 + 1) 2 (.slice D1 a.n a.n)) (fun e he g hg => by cases hg; simp at he; rcases he with rfl | rfl | rfl | rfl | rfl | rfl | rfl | rfl <;> simp <;> omega)
  replace q0 := bst q0 (p := ⟨w.heap.size + 1 + 1, 2, none⟩) (show w.heap.size ≤ w.heap.size + 1 + 1 by omega) (.slice D1 a.n a.n)
  replace R2 := R2.setOther (a := ⟨w.heap.size + 1 + 1, 2, none⟩) (by simp) (.slice D1 a.n a.n)
  replace R3 := R3.set 2 (.slice D1 a.n a.n)
  replace O1 := O1.setO (p := w.heap.size + 1 + 1) (o := 2) (.slice D1 a.n a.n) (by omega)
  replace zz : w.heap.size + 3 ≤ ((w1.setCell ⟨w.heap.size + 1 + 1, 1, none⟩ (.string a.nm)).setCell ⟨w.heap.size + 1 + 1, 2, none⟩ (.slice D1 a.n a.n)).heap.size := by simpa [World.setCell] using zz
  clear c0 c1 c2 c3 c4 c5 c6 c7 l0 g1 f1 g2 f2
  refine (C2.out _ q0).mono ?_
  rintro e w2 ⟨D2, rfl, O2, hq⟩
  replace O2 : SepT w2 _ w1.heap.size w2.heap.size _ := O2.mono (by simp [World.setCell]) (Nat.le_refl _)
  replace H := H.below hq
  replace q0 := btr q0 hq
  replace R2 := row_below R2 hq
  replace R3 := row_below R3 hq
  replace O1 := O1.below hq
  have y12 : w1.heap.size ≤ w2.heap.size := by have := hq.size; simpa [World.setCell] using this
  replace zz := Nat.le_trans zz hq.size
  clear hq C2
  have z2 := zz
  have HH_ := H; obtain ⟨c0, c1, c2, c3, c4, c5, c6, c7, _⟩ := HH_
  have l0 := cell_lt c0
  have g3 := R3.cell (i := 3) (by omega)
  have f3 : w2.frozen? ⟨w.heap.size + 1 + 1, 3, none⟩ = false := R3.frozen _
  have g4 := R3.cell (i := 4) (by omega)
  have f4 : w2.frozen? ⟨w.heap.size + 1 + 1, 4, none⟩ = false := R3.frozen _
  go_wp2_with fail
  replace H := H.keep (grow_set _ (w.heap.size + 1 + 1) 3 (.string b.nm)) (fun e he g hg => by cases hg; simp at he; rcases he with rfl | rfl | rfl | rfl | rfl | rfl | rfl | rfl <;> simp <;> omega)
  replace q0 := bst q0 (p := ⟨w.heap.size + 1 + 1, 3, none⟩) (show w.heap.size ≤ w.heap.size + 1 + 1 by omega) (.string b.nm)
  replace R2 := R2.setOther (a := ⟨w.heap.size + 1 + 1, 3, none⟩) (by simp) (.string b.nm)
  replace R3 := R3.set 3 (.string b.nm)
  replace O1 := O1.setO (p := w.heap.size + 1 + 1) (o := 3) (.string b.nm) (by omega)
  replace O2 := O2.setO (p := w.heap.size + 1 + 1) (o := 3) (.string b.nm) (by omega)
  replace H := H.keep (grow_set _ (w.heap.size + 1 + 1) 4 (.slice D2 b.n b.n)) (fun e he g hg => by cases hg; simp at he; rcases he with rfl | rfl | rfl | rfl | rfl | rfl | rfl | rfl <;> simp <;> omega)
  replace q0 := bst q0 (p := ⟨w.heap.size + 1 + 1, 4, none⟩) (show w.heap.size ≤ w.heap.size + 1 + 1 by omega) (.slice D2 b.n b.n)
  replace R2 := R2.setOther (a := ⟨w.heap.size + 1 + 1, 4, none⟩) (by simp) (.slice D2 b.n b.n)
  replace R3 := R3.set 4 (.slice D2 b.n b.n)
  replace O1 := O1.setO (p := w.heap.size + 1 + 1) (o := 4) (.slice D2 b.n b.n) (by omega)
  replace O2 := O2.setO (p := w.heap.size + 1 + 1) (o := 4) (.slice D2 b.n b.n) (by omega)
  replace zz : w.heap.size + 3 ≤ ((w2.setCell ⟨w.heap.size + 1 + 1, 3, none⟩ (.string b.nm)).setCell ⟨w.heap.size + 1 + 1, 4, none⟩ (.slice D2 b.n b.n)).heap.size := by simpa [World.setCell] using zz
  clear c0 c1 c2 c3 c4 c5 c6 c7 l0 g3 f3 g4 f4
  refine (C3.out _ q0).mono ?_
  rintro e w3 ⟨D3, rfl, ⟨g3, rfl⟩, O3a, hq⟩
  have O3 := O3a ⟨#[]⟩
  clear O3a
  replace O3 : SepT w3 _ w2.heap.size w3.heap.size _ := O3.mono (by simp [World.setCell]) (Nat.le_refl _)
  replace H := H.below hq
  replace q0 := btr q0 hq
  replace R2 := row_below R2 hq
  replace R3 := row_below R3 hq
  replace O1 := O1.below hq
  replace O2 := O2.below hq
  have y23 : w2.heap.size ≤ w3.heap.size := by have := hq.size; simpa [World.setCell] using this
  replace zz := Nat.le_trans zz hq.size
  clear hq C3
  have z3 := zz
  have HH_ := H; obtain ⟨c0, c1, c2, c3, c4, c5, c6, c7, _⟩ := HH_
  have l0 := cell_lt c0
  have g5 := R3.cell (i := 5) (by omega)
  have f5 : w3.frozen? ⟨w.heap.size + 1 + 1, 5, none⟩ = false := R3.frozen _
  go_wp2_with fail
  replace H := H.keep (grow_set _ (w.heap.size + 1 + 1) 5 (.slice (some ⟨g3, 0, none⟩) n n)) (fun e he g hg => by cases hg; simp at he; rcases he with rfl | rfl | rfl | rfl | rfl | rfl | rfl | rfl <;> simp <;> omega)
  replace q0 := bst q0 (p := ⟨w.heap.size + 1 + 1, 5, none⟩) (show w.heap.size ≤ w.heap.size + 1 + 1 by omega) (.slice (some ⟨g3, 0, none⟩) n n)
  replace R2 := R2.setOther (a := ⟨w.heap.size + 1 + 1, 5, none⟩) (by simp) (.slice (some ⟨g3, 0, none⟩) n n)
  replace R3 := R3.set 5 (.slice (some ⟨g3, 0, none⟩) n n)
  replace O1 := O1.setO (p := w.heap.size + 1 + 1) (o := 5) (.slice (some ⟨g3, 0, none⟩) n n) (by omega)
  replace O2 := O2.setO (p := w.heap.size + 1 + 1) (o := 5) (.slice (some ⟨g3, 0, none⟩) n n) (by omega)
  replace O3 := O3.setO (p := w.heap.size + 1 + 1) (o := 5) (.slice (some ⟨g3, 0, none⟩) n n) (by omega)
  replace zz : w.heap.size + 3 ≤ (w3.setCell ⟨w.heap.size + 1 + 1, 5, none⟩ (.slice (some ⟨g3, 0, none⟩) n n)).heap.size := by simpa [World.setCell] using zz
  clear c0 c1 c2 c3 c4 c5 c6 c7 l0 g5 f5
  refine (C4.out _ q0).mono ?_
  rintro e w4 ⟨g4, rfl, hg4, hr4, hq⟩
  have zbb := zz
  have O4 : OwnI _ _ _ m Z := own_row hg4 hr4
  clear hr4 hg4
  replace H := H.below hq
  replace q0 := btr q0 hq
  replace R2 := row_below R2 hq
  replace R3 := row_below R3 hq
  replace O1 := O1.below hq
  replace O2 := O2.below hq
  replace O3 := O3.below hq
  have y34 := hq.size
  replace zz := Nat.le_trans zz hq.size
  clear hq C4
  have HH_ := H; obtain ⟨c0, c1, c2, c3, c4, c5, c6, c7, _⟩ := HH_
  have l0 := cell_lt c0
  have g6 := R3.cell (i := 6) (by omega)
  have f6 : w4.frozen? ⟨w.heap.size + 1 + 1, 6, none⟩ = false := R3.frozen _
  have g7 := R3.cell (i := 7) (by omega)
  have f7 : w4.frozen? ⟨w.heap.size + 1 + 1, 7, none⟩ = false := R3.frozen _
  have g8 := R3.cell (i := 8) (by omega)
  have f8 : w4.frozen? ⟨w.heap.size + 1 + 1, 8, none⟩ = false := R3.frozen _
  have zb := hid zbb
  go_upto_region 9 with fail
  clear c0 c1 c2 c3 c4 c5 c6 c7 l0 g6 f6 g7 f7 g8 f8
  replace q0 := bst q0 (p := ⟨w.heap.size + 1 + 1, 6, none⟩) (show w.heap.size ≤ w.heap.size + 1 + 1 by omega) (.slice (some ⟨g4, 0, none⟩) m m)
  replace R2 := R2.setOther (a := ⟨w.heap.size + 1 + 1, 6, none⟩) (by simp) (.slice (some ⟨g4, 0, none⟩) m m)
  replace R3 := R3.set 6 (.slice (some ⟨g4, 0, none⟩) m m)
  replace O1 := O1.setO (p := w.heap.size + 1 + 1) (o := 6) (.slice (some ⟨g4, 0, none⟩) m m) (by omega)
  replace O2 := O2.setO (p := w.heap.size + 1 + 1) (o := 6) (.slice (some ⟨g4, 0, none⟩) m m) (by omega)
  replace O3 := O3.setO (p := w.heap.size + 1 + 1) (o := 6) (.slice (some ⟨g4, 0, none⟩) m m) (by omega)
  replace O4 := O4.set (p := w.heap.size + 1 + 1) (o := 6) (.slice (some ⟨g4, 0, none⟩) m m) (by omega)
  replace q0 := bst q0 (p := ⟨w.heap.size + 1 + 1, 7, none⟩) (show w.heap.size ≤ w.heap.size + 1 + 1 by omega) (.int .i64 bd)
  replace R2 := R2.setOther (a := ⟨w.heap.size + 1 + 1, 7, none⟩) (by simp) (.int .i64 bd)
  replace R3 := R3.set 7 (.int .i64 bd)
  replace O1 := O1.setO (p := w.heap.size + 1 + 1) (o := 7) (.int .i64 bd) (by omega)
  replace O2 := O2.setO (p := w.heap.size + 1 + 1) (o := 7) (.int .i64 bd) (by omega)
  replace O3 := O3.setO (p := w.heap.size + 1 + 1) (o := 7) (.int .i64 bd) (by omega)
  replace O4 := O4.set (p := w.heap.size + 1 + 1) (o := 7) (.int .i64 bd) (by omega)
  replace q0 := bst q0 (p := ⟨w.heap.size + 1 + 1, 8, none⟩) (show w.heap.size ≤ w.heap.size + 1 + 1 by omega) (.bool st)
  replace R2 := R2.setOther (a := ⟨w.heap.size + 1 + 1, 8, none⟩) (by simp) (.bool st)
  replace R3 := R3.set 8 (.bool st)
  replace O1 := O1.setO (p := w.heap.size + 1 + 1) (o := 8) (.bool st) (by omega)
  replace O2 := O2.setO (p := w.heap.size + 1 + 1) (o := 8) (.bool st) (by omega)
  replace O3 := O3.setO (p := w.heap.size + 1 + 1) (o := 8) (.bool st) (by omega)
  replace O4 := O4.set (p := w.heap.size + 1 + 1) (o := 8) (.bool st) (by omega)
  replace y34 : (w3.setCell ⟨w.heap.size + 1 + 1, 5, none⟩ (.slice (some ⟨g3, 0, none⟩) n n)).heap.size ≤ (((w4.setCell ⟨w.heap.size + 1 + 1, 6, none⟩ (.slice (some ⟨g4, 0, none⟩) m m)).setCell ⟨w.heap.size + 1 + 1, 7, none⟩ (.int .i64 bd)).setCell ⟨w.heap.size + 1 + 1, 8, none⟩ (.bool st)).heap.size := by simpa [World.setCell] using y34
  have y33 : w3.heap.size ≤ (w3.setCell ⟨w.heap.size + 1 + 1, 5, none⟩ (.slice (some ⟨g3, 0, none⟩) n n)).heap.size := by simp [World.setCell]
  generalize ((w4.setCell ⟨w.heap.size + 1 + 1, 6, none⟩ (.slice (some ⟨g4, 0, none⟩) m m)).setCell ⟨w.heap.size + 1 + 1, 7, none⟩ (.int .i64 bd)).setCell ⟨w.heap.size + 1 + 1, 8, none⟩ (.bool st) = X at *
  generalize w3.setCell ⟨w.heap.size + 1 + 1, 5, none⟩ (.slice (some ⟨g3, 0, none⟩) n n) = X3 at *
  have k0 : X.cell? ⟨w.heap.size + 1 + 1, 0, none⟩ = some (.int .i64 kd) := R3.cell (i := 0) (by omega)
  have k1 : X.cell? ⟨w.heap.size + 1 + 1, 1, none⟩ = some (.string a.nm) := R3.cell (i := 1) (by omega)
  have k2 : X.cell? ⟨w.heap.size + 1 + 1, 2, none⟩ = some (.slice D1 a.n a.n) := R3.cell (i := 2) (by omega)
  have k3 : X.cell? ⟨w.heap.size + 1 + 1, 3, none⟩ = some (.string b.nm) := R3.cell (i := 3) (by omega)
  have k4 : X.cell? ⟨w.heap.size + 1 + 1, 4, none⟩ = some (.slice D2 b.n b.n) := R3.cell (i := 4) (by omega)
  have k5 : X.cell? ⟨w.heap.size + 1 + 1, 5, none⟩ = some (.slice (some ⟨g3, 0, none⟩) n n) := R3.cell (i := 5) (by omega)
  have k6 : X.cell? ⟨w.heap.size + 1 + 1, 6, none⟩ = some (.slice (some ⟨g4, 0, none⟩) m m) := R3.cell (i := 6) (by omega)
  have k7 : X.cell? ⟨w.heap.size + 1 + 1, 7, none⟩ = some (.int .i64 bd) := R3.cell (i := 7) (by omega)
  have k8 : X.cell? ⟨w.heap.size + 1 + 1, 8, none⟩ = some (.bool st) := R3.cell (i := 8) (by omega)
  have y0 : X.cell? ⟨w.heap.size + 1, 0, none⟩ = some (.int .i64 0) := R2.cell (i := 0) (by omega)
  have f0 : X.frozen? ⟨w.heap.size + 1, 0, none⟩ = false := R2.frozen _
  have y1 : X.cell? ⟨w.heap.size + 1, 1, none⟩ = some (.string ⟨#[]⟩) := R2.cell (i := 1) (by omega)
  have f1 : X.frozen? ⟨w.heap.size + 1, 1, none⟩ = false := R2.frozen _
  have y2 : X.cell? ⟨w.heap.size + 1, 2, none⟩ = some (.slice none 0 0) := R2.cell (i := 2) (by omega)
  have f2 : X.frozen? ⟨w.heap.size + 1, 2, none⟩ = false := R2.frozen _
  have y3 : X.cell? ⟨w.heap.size + 1, 3, none⟩ = some (.string ⟨#[]⟩) := R2.cell (i := 3) (by omega)
  have f3 : X.frozen? ⟨w.heap.size + 1, 3, none⟩ = false := R2.frozen _
  have y4 : X.cell? ⟨w.heap.size + 1, 4, none⟩ = some (.slice none 0 0) := R2.cell (i := 4) (by omega)
  have f4 : X.frozen? ⟨w.heap.size + 1, 4, none⟩ = false := R2.frozen _
  have y5 : X.cell? ⟨w.heap.size + 1, 5, none⟩ = some (.slice none 0 0) := R2.cell (i := 5) (by omega)
  have f5 : X.frozen? ⟨w.heap.size + 1, 5, none⟩ = false := R2.frozen _
  have y6 : X.cell? ⟨w.heap.size + 1, 6, none⟩ = some (.slice none 0 0) := R2.cell (i := 6) (by omega)
  have f6 : X.frozen? ⟨w.heap.size + 1, 6, none⟩ = false := R2.frozen _
  have y7 : X.cell? ⟨w.heap.size + 1, 7, none⟩ = some (.int .i64 0) := R2.cell (i := 7) (by omega)
  have f7 : X.frozen? ⟨w.heap.size + 1, 7, none⟩ = false := R2.frozen _
  have y8 : X.cell? ⟨w.heap.size + 1, 8, none⟩ = some (.bool false) := R2.cell (i := 8) (by omega)
  have f8 : X.frozen? ⟨w.heap.size + 1, 8, none⟩ = false := R2.frozen _
  have RF := hid (((((((((R2.set 0 (.int .i64 kd)).set 1 (.string a.nm)).set 2 (.slice D1 a.n a.n)).set 3 (.string b.nm)).set 4 (.slice D2 b.n b.n)).set 5 (.slice (some ⟨g3, 0, none⟩) n n)).set 6 (.slice (some ⟨g4, 0, none⟩) m m)).set 7 (.int .i64 bd)).set 8 (.bool st))
  have t0 : (((((((((X.setCell ⟨w.heap.size + 1, 0, none⟩ (.int .i64 kd)).setCell ⟨w.heap.size + 1, 1, none⟩ (.string a.nm)).setCell ⟨w.heap.size + 1, 2, none⟩ (.slice D1 a.n a.n)).setCell ⟨w.heap.size + 1, 3, none⟩ (.string b.nm)).setCell ⟨w.heap.size + 1, 4, none⟩ (.slice D2 b.n b.n)).setCell ⟨w.heap.size + 1, 5, none⟩ (.slice (some ⟨g3, 0, none⟩) n n)).setCell ⟨w.heap.size + 1, 6, none⟩ (.slice (some ⟨g4, 0, none⟩) m m)).setCell ⟨w.heap.size + 1, 7, none⟩ (.int .i64 bd)).setCell ⟨w.heap.size + 1, 8, none⟩ (.bool st)).cell? ⟨w.heap.size + 1, 0, none⟩ = some (.int .i64 kd) := RF.out.cell (i := 0) (by omega)
  have t1 : (((((((((X.setCell ⟨w.heap.size + 1, 0, none⟩ (.int .i64 kd)).setCell ⟨w.heap.size + 1, 1, none⟩ (.string a.nm)).setCell ⟨w.heap.size + 1, 2, none⟩ (.slice D1 a.n a.n)).setCell ⟨w.heap.size + 1, 3, none⟩ (.string b.nm)).setCell ⟨w.heap.size + 1, 4, none⟩ (.slice D2 b.n b.n)).setCell ⟨w.heap.size + 1, 5, none⟩ (.slice (some ⟨g3, 0, none⟩) n n)).setCell ⟨w.heap.size + 1, 6, none⟩ (.slice (some ⟨g4, 0, none⟩) m m)).setCell ⟨w.heap.size + 1, 7, none⟩ (.int .i64 bd)).setCell ⟨w.heap.size + 1, 8, none⟩ (.bool st)).cell? ⟨w.heap.size + 1, 1, none⟩ = some (.string a.nm) := RF.out.cell (i := 1) (by omega)
  have t2 : (((((((((X.setCell ⟨w.heap.size + 1, 0, none⟩ (.int .i64 kd)).setCell ⟨w.heap.size + 1, 1, none⟩ (.string a.nm)).setCell ⟨w.heap.size + 1, 2, none⟩ (.slice D1 a.n a.n)).setCell ⟨w.heap.size + 1, 3, none⟩ (.string b.nm)).setCell ⟨w.heap.size + 1, 4, none⟩ (.slice D2 b.n b.n)).setCell ⟨w.heap.size + 1, 5, none⟩ (.slice (some ⟨g3, 0, none⟩) n n)).setCell ⟨w.heap.size + 1, 6, none⟩ (.slice (some ⟨g4, 0, none⟩) m m)).setCell ⟨w.heap.size + 1, 7, none⟩ (.int .i64 bd)).setCell ⟨w.heap.size + 1, 8, none⟩ (.bool st)).cell? ⟨w.heap.size + 1, 2, none⟩ = some (.slice D1 a.n a.n) := RF.out.cell (i := 2) (by omega)
  have t3 : (((((((((X.setCell ⟨w.heap.size + 1, 0, none⟩ (.int .i64 kd)).setCell ⟨w.heap.size + 1, 1, none⟩ (.string a.nm)).setCell ⟨w.heap.size + 1, 2, none⟩ (.slice D1 a.n a.n)).setCell ⟨w.heap.size + 1, 3, none⟩ (.string b.nm)).setCell ⟨w.heap.size + 1, 4, none⟩ (.slice D2 b.n b.n)).setCell ⟨w.heap.size + 1, 5, none⟩ (.slice (some ⟨g3, 0, none⟩) n n)).setCell ⟨w.heap.size + 1, 6, none⟩ (.slice (some ⟨g4, 0, none⟩) m m)).setCell ⟨w.heap.size + 1, 7, none⟩ (.int .i64 bd)).setCell ⟨w.heap.size + 1, 8, none⟩ (.bool st)).cell? ⟨w.heap.size + 1, 3, none⟩ = some (.string b.nm) := RF.out.cell (i := 3) (by omega)
  have t4 : (((((((((X.setCell ⟨w.heap.size + 1, 0, none⟩ (.int .i64 kd)).setCell ⟨w.heap.size + 1, 1, none⟩ (.string a.nm)).setCell ⟨w.heap.size + 1, 2, none⟩ (.slice D1 a.n a.n)).setCell ⟨w.heap.size + 1, 3, none⟩ (.string b.nm)).setCell ⟨w.heap.size + 1, 4, none⟩ (.slice D2 b.n b.n)).setCell ⟨w.heap.size + 1, 5, none⟩ (.slice (some ⟨g3, 0, none⟩) n n)).setCell ⟨w.heap.size + 1, 6, none⟩ (.slice (some ⟨g4, 0, none⟩) m m)).setCell ⟨w.heap.size + 1, 7, none⟩ (.int .i64 bd)).setCell ⟨w.heap.size + 1, 8, none⟩ (.bool st)).cell? ⟨w.heap.size + 1, 4, none⟩ = some (.slice D2 b.n b.n) := RF.out.cell (i := 4) (by omega)
  have t5 : (((((((((X.setCell ⟨w.heap.size + 1, 0, none⟩ (.int .i64 kd)).setCell ⟨w.heap.size + 1, 1, none⟩ (.string a.nm)).setCell ⟨w.heap.size + 1, 2, none⟩ (.slice D1 a.n a.n)).setCell ⟨w.heap.size + 1, 3, none⟩ (.string b.nm)).setCell ⟨w.heap.size + 1, 4, none⟩ (.slice D2 b.n b.n)).setCell ⟨w.heap.size + 1, 5, none⟩ (.slice (some ⟨g3, 0, none⟩) n n)).setCell ⟨w.heap.size + 1, 6, none⟩ (.slice (some ⟨g4, 0, none⟩) m m)).setCell ⟨w.heap.size + 1, 7, none⟩ (.int .i64 bd)).setCell ⟨w.heap.size + 1, 8, none⟩ (.bool st)).cell? ⟨w.heap.size + 1, 5, none⟩ = some (.slice (some ⟨g3, 0, none⟩) n n) := RF.out.cell (i := 5) (by omega)
  have t6 : (((((((((X.setCell ⟨w.heap.size + 1, 0, none⟩ (.int .i64 kd)).setCell ⟨w.heap.size + 1, 1, none⟩ (.string a.nm)).setCell ⟨w.heap.size + 1, 2, none⟩ (.slice D1 a.n a.n)).setCell ⟨w.heap.size + 1, 3, none⟩ (.string b.nm)).setCell ⟨w.heap.size + 1, 4, none⟩ (.slice D2 b.n b.n)).setCell ⟨w.heap.size + 1, 5, none⟩ (.slice (some ⟨g3, 0, none⟩) n n)).setCell ⟨w.heap.size + 1, 6, none⟩ (.slice (some ⟨g4, 0, none⟩) m m)).setCell ⟨w.heap.size + 1, 7, none⟩ (.int .i64 bd)).setCell ⟨w.heap.size + 1, 8, none⟩ (.bool st)).cell? ⟨w.heap.size + 1, 6, none⟩ = some (.slice (some ⟨g4, 0, none⟩) m m) := RF.out.cell (i := 6) (by omega)
  have t7 : (((((((((X.setCell ⟨w.heap.size + 1, 0, none⟩ (.int .i64 kd)).setCell ⟨w.heap.size + 1, 1, none⟩ (.string a.nm)).setCell ⟨w.heap.size + 1, 2, none⟩ (.slice D1 a.n a.n)).setCell ⟨w.heap.size + 1, 3, none⟩ (.string b.nm)).setCell ⟨w.heap.size + 1, 4, none⟩ (.slice D2 b.n b.n)).setCell ⟨w.heap.size + 1, 5, none⟩ (.slice (some ⟨g3, 0, none⟩) n n)).setCell ⟨w.heap.size + 1, 6, none⟩ (.slice (some ⟨g4, 0, none⟩) m m)).setCell ⟨w.heap.size + 1, 7, none⟩ (.int .i64 bd)).setCell ⟨w.heap.size + 1, 8, none⟩ (.bool st)).cell? ⟨w.heap.size + 1, 7, none⟩ = some (.int .i64 bd) := RF.out.cell (i := 7) (by omega)
  have t8 : (((((((((X.setCell ⟨w.heap.size + 1, 0, none⟩ (.int .i64 kd)).setCell ⟨w.heap.size + 1, 1, none⟩ (.string a.nm)).setCell ⟨w.heap.size + 1, 2, none⟩ (.slice D1 a.n a.n)).setCell ⟨w.heap.size + 1, 3, none⟩ (.string b.nm)).setCell ⟨w.heap.size + 1, 4, none⟩ (.slice D2 b.n b.n)).setCell ⟨w.heap.size + 1, 5, none⟩ (.slice (some ⟨g3, 0, none⟩) n n)).setCell ⟨w.heap.size + 1, 6, none⟩ (.slice (some ⟨g4, 0, none⟩) m m)).setCell ⟨w.heap.size + 1, 7, none⟩ (.int .i64 bd)).setCell ⟨w.heap.size + 1, 8, none⟩ (.bool st)).cell? ⟨w.heap.size + 1, 8, none⟩ = some (.bool st) := RF.out.cell (i := 8) (by omega)
  have Q := hid q0; have P1 := hid O1; have P2 := hid O2; have P3 := hid O3; have P4 := hid O4
  clear O1 O2 O3 O4 R2 R3 q0 H
  go_wp2
  refine bodyPost_ret (v := .agg #[.int .i64 kd, .string a.nm, .slice D1 a.n a.n, .string b.nm, .slice D2 b.n b.n, .slice (some ⟨g3, 0, none⟩) n n, .slice (some ⟨g4, 0, none⟩) m m, .int .i64 bd, .bool st]) (by simp [results, Try.results63, go_sem, t0, t1, t2, t3, t4, t5, t6, t7, t8]) rfl ?_
  clear t0 t1 t2 t3 t4 t5 t6 t7 t8 k0 k1 k2 k3 k4 k5 k6 k7 k8 y0 y1 y2 y3 y4 y5 y6 y7 y8
  exact ⟨_, _, _, _, rfl, ⟨w1.heap.size, w2.heap.size, X3.heap.size, by omega, y12, by omega, by simpa [World.setCell] using y34, ((((((((((P1.out.setO (p := w.heap.size + 1) (o := 0) (.int .i64 kd) (by omega)).setO (p := w.heap.size + 1) (o := 1) (.string a.nm) (by omega)).setO (p := w.heap.size + 1) (o := 2) (.slice D1 a.n a.n) (by omega)).setO (p := w.heap.size + 1) (o := 3) (.string b.nm) (by omega)).setO (p := w.heap.size + 1) (o := 4) (.slice D2 b.n b.n) (by omega)).setO (p := w.heap.size + 1) (o := 5) (.slice (some ⟨g3, 0, none⟩) n n) (by omega)).setO (p := w.heap.size + 1) (o := 6) (.slice (some ⟨g4, 0, none⟩) m m) (by omega)).setO (p := w.heap.size + 1) (o := 7) (.int .i64 bd) (by omega)).setO (p := w.heap.size + 1) (o := 8) (.bool st) (by omega))).mono (by omega) (Nat.le_refl _), (((((((((P2.out.setO (p := w.heap.size + 1) (o := 0) (.int .i64 kd) (by omega)).setO (p := w.heap.size + 1) (o := 1) (.string a.nm) (by omega)).setO (p := w.heap.size + 1) (o := 2) (.slice D1 a.n a.n) (by omega)).setO (p := w.heap.size + 1) (o := 3) (.string b.nm) (by omega)).setO (p := w.heap.size + 1) (o := 4) (.slice D2 b.n b.n) (by omega)).setO (p := w.heap.size + 1) (o := 5) (.slice (some ⟨g3, 0, none⟩) n n) (by omega)).setO (p := w.heap.size + 1) (o := 6) (.slice (some ⟨g4, 0, none⟩) m m) (by omega)).setO (p := w.heap.size + 1) (o := 7) (.int .i64 bd) (by omega)).setO (p := w.heap.size + 1) (o := 8) (.bool st) (by omega)), ((((((((((P3.out.setO (p := w.heap.size + 1) (o := 0) (.int .i64 kd) (by omega)).setO (p := w.heap.size + 1) (o := 1) (.string a.nm) (by omega)).setO (p := w.heap.size + 1) (o := 2) (.slice D1 a.n a.n) (by omega)).setO (p := w.heap.size + 1) (o := 3) (.string b.nm) (by omega)).setO (p := w.heap.size + 1) (o := 4) (.slice D2 b.n b.n) (by omega)).setO (p := w.heap.size + 1) (o := 5) (.slice (some ⟨g3, 0, none⟩) n n) (by omega)).setO (p := w.heap.size + 1) (o := 6) (.slice (some ⟨g4, 0, none⟩) m m) (by omega)).setO (p := w.heap.size + 1) (o := 7) (.int .i64 bd) (by omega)).setO (p := w.heap.size + 1) (o := 8) (.bool st) (by omega))).mono (Nat.le_refl _) (by omega), ((((((((((P4.out.set (p := w.heap.size + 1) (o := 0) (.int .i64 kd) (by have := zb.out; omega)).set (p := w.heap.size + 1) (o := 1) (.string a.nm) (by have := zb.out; omega)).set (p := w.heap.size + 1) (o := 2) (.slice D1 a.n a.n) (by have := zb.out; omega)).set (p := w.heap.size + 1) (o := 3) (.string b.nm) (by have := zb.out; omega)).set (p := w.heap.size + 1) (o := 4) (.slice D2 b.n b.n) (by have := zb.out; omega)).set (p := w.heap.size + 1) (o := 5) (.slice (some ⟨g3, 0, none⟩) n n) (by have := zb.out; omega)).set (p := w.heap.size + 1) (o := 6) (.slice (some ⟨g4, 0, none⟩) m m) (by have := zb.out; omega)).set (p := w.heap.size + 1) (o := 7) (.int .i64 bd) (by have := zb.out; omega)).set (p := w.heap.size + 1) (o := 8) (.bool st) (by have := zb.out; omega))).ownB⟩, (bst (bst (bst (bst (bst (bst (bst (bst (bst Q.out (p := ⟨w.heap.size + 1, 0, none⟩) (show w.heap.size ≤ w.heap.size + 1 by omega) (.int .i64 kd)) (p := ⟨w.heap.size + 1, 1, none⟩) (show w.heap.size ≤ w.heap.size + 1 by omega) (.string a.nm)) (p := ⟨w.heap.size + 1, 2, none⟩) (show w.heap.size ≤ w.heap.size + 1 by omega) (.slice D1 a.n a.n)) (p := ⟨w.heap.size + 1, 3, none⟩) (show w.heap.size ≤ w.heap.size + 1 by omega) (.string b.nm)) (p := ⟨w.heap.size + 1, 4, none⟩) (show w.heap.size ≤ w.heap.size + 1 by omega) (.slice D2 b.n b.n)) (p := ⟨w.heap.size + 1, 5, none⟩) (show w.heap.size ≤ w.heap.size + 1 by omega) (.slice (some ⟨g3, 0, none⟩) n n)) (p := ⟨w.heap.size + 1, 6, none⟩) (show w.heap.size ≤ w.heap.size + 1 by omega) (.slice (some ⟨g4, 0, none⟩) m m)) (p := ⟨w.heap.size + 1, 7, none⟩) (show w.heap.size ≤ w.heap.size + 1 by omega) (.int .i64 bd)) (p := ⟨w.heap.size + 1, 8, none⟩) (show w.heap.size ≤ w.heap.size + 1 by omega) (.bool st))⟩
end Go.Proofs.Ytanfljajafelgaa

namespace Go.Proofs.Ytanfljajafelgaa
set_option linter.unusedVariables false
set_option linter.unusedSimpArgs false
open Go.RowKit
/-- a literal with its slices -/
def At.lit (x : At) (no : Bool) (A1 : Option Addr) (c1 : Nat) (A2 : Option Addr) (c2 : Nat) (A3 : Option Addr) (c3 : Nat) (A4 : Option Addr) (c4 : Nat) : Array Value :=
  #[.int .i64 x.kd, .string x.a.nm, .slice A1 x.a.n c1, .string x.b.nm, .slice A2 x.b.n c2, .slice A3 x.n c3, .slice A4 x.m c4, .int .i64 x.bd, .bool x.st, .bool no]
set_option maxRecDepth 100000 in
set_option maxHeartbeats 4000000 in
theorem szlit_any (x : At) (no : Bool) (hF : AtF 9223372036854775807 x) (A1 : Option Addr) (c1 : Nat) (A2 : Option Addr) (c2 : Nat) (A3 : Option Addr) (c3 : Nat) (A4 : Option Addr) (c4 : Nat) (l : Int) (w : World) (hl : 0 ≤ l ∧ l ≤ 1048576) (hA : AtK w x A1 A2 A3 A4) :
    Calls Try.prog 66 #[.agg (x.lit no A1 c1 A2 c2 A3 c3 A4 c4), .int .i64 l] w (SzA w x l) := by
  have C1 := fun W (h : Below w.heap.size w W) => szatom_any x hF A1 c1 A2 c2 A3 c3 A4 c4 l W hl (hA.below h)
  clear hF hA hl
  obtain ⟨kd, a, b, n, kid, m, Z, bd, st⟩ := x
  simp only [At.cs] at C1
  simp only [At.lit]
  have q0 := bal (Below.refl w.heap.size w) (.cells #[.int .i64 kd, .string a.nm, .slice A1 a.n c1, .string b.nm, .slice A2 b.n c2, .slice A3 n c3, .slice A4 m c4, .int .i64 bd, .bool st, .bool no] 100)
  replace C1 := hid C1
  go_enter Try.func66, Try.ntmps66
  go_wp2_with fail
  refine (C1.out _ q0).mono ?_
  rintro e w1 ⟨r, rfl, hr, hq⟩
  replace q0 := btr q0 hq
  clear hq C1
  rcases hr with hr | ⟨r1, r2, F1⟩
  · go_wp2
    go_ret
    exact ⟨-1, rfl, .inl (by omega), q0⟩
  · have HF1 := hid F1; clear F1
    go_wp2
    go_ret
    exact ⟨r, rfl, .inr ⟨r1, r2, HF1.out⟩, q0⟩
set_option maxRecDepth 100000 in
set_option maxHeartbeats 4000000 in
theorem eqlit_same (x : At) (no : Bool) (hF : AtF 9223372036854775807 x) (A1 : Option Addr) (c1 : Nat) (A2 : Option Addr) (c2 : Nat) (A3 : Option Addr) (c3 : Nat) (A4 : Option Addr) (c4 : Nat) (B1 : Option Addr) (d1 : Nat) (B2 : Option Addr) (d2 : Nat) (B3 : Option Addr) (d3 : Nat) (B4 : Option Addr) (d4 : Nat) (w : World) (hA : AtK w x A1 A2 A3 A4) (hB : AtK w x B1 B2 B3 B4) :
    Calls Try.prog 70 #[.agg (x.lit no A1 c1 A2 c2 A3 c3 A4 c4), .agg (x.lit no B1 d1 B2 d2 B3 d3 B4 d4)] w fun e w' => e = .returned (.bool true) ∧ Below w.heap.size w w' := by
  have C1 := fun W (h : Below w.heap.size w W) => eqatom_same x hF A1 c1 A2 c2 A3 c3 A4 c4 B1 d1 B2 d2 B3 d3 B4 d4 W (hA.below h) (hB.below h)
  clear hF hA hB
  obtain ⟨kd, a, b, n, kid, m, Z, bd, st⟩ := x
  simp only [At.cs] at C1
  simp only [At.lit]
  have e3 : (no != no) = false := by simp
  have H : KcL [(w.heap.size, 9, .bool no), (w.heap.size + 1, 9, .bool no)] ((w.alloc (.cells #[.int .i64 kd, .string a.nm, .slice A1 a.n c1, .string b.nm, .slice A2 b.n c2, .slice A3 n c3, .slice A4 m c4, .int .i64 bd, .bool st, .bool no] 104)).alloc (.cells #[.int .i64 kd, .string a.nm, .slice B1 a.n d1, .string b.nm, .slice B2 b.n d2, .slice B3 n d3, .slice B4 m d4, .int .i64 bd, .bool st, .bool no] 104)) := by
    refine ⟨?_, ?_, trivial⟩ <;> simp [go_sem]
  have q0 := bal (bal (Below.refl w.heap.size w) (.cells #[.int .i64 kd, .string a.nm, .slice A1 a.n c1, .string b.nm, .slice A2 b.n c2, .slice A3 n c3, .slice A4 m c4, .int .i64 bd, .bool st, .bool no] 104)) (.cells #[.int .i64 kd, .string a.nm, .slice B1 a.n d1, .string b.nm, .slice B2 b.n d2, .slice B3 n d3, .slice B4 m d4, .int .i64 bd, .bool st, .bool no] 104)
  replace C1 := hid C1
  go_enter Try.func70, Try.ntmps70
  go_wp2_with fail
  refine (C1.out _ q0).mono ?_
  rintro e w1 ⟨rfl, hq⟩
  replace H := H.below hq
  replace q0 := btr q0 hq
  clear hq C1
  have HH_ := H; obtain ⟨c0, c1, _⟩ := HH_
  go_wp2
  go_ret
  exact ⟨rfl, q0⟩
/-- a literal of new memory, handed back, its parts apart -/
def NewLS (W : World) (x : At) (no : Bool) (e : Ending) (w' : World) : Prop :=
  ∃ A1 A2 g3 A4, e = .returned (.agg (x.lit no A1 x.a.n A2 x.b.n (some ⟨g3, 0, none⟩) x.n A4 x.m)) ∧ LtS w' x W.heap.size w'.heap.size A1 A2 (some ⟨g3, 0, none⟩) A4 ∧ Below W.heap.size W w'
theorem LtS.mono {w : World} {x : At} {lo hi lo' hi' : Nat} {A1 A2 A3 A4 : Option Addr} (h1 : lo' ≤ lo) (h2 : hi ≤ hi') (h : LtS w x lo hi A1 A2 A3 A4) : LtS w x lo' hi' A1 A2 A3 A4 := by
  obtain ⟨g1, g2, g3, a, b, c, d, s1, s2, s3, o⟩ := h
  exact ⟨g1, g2, g3, by omega, b, c, by omega, s1.mono h1 (Nat.le_refl _), s2, s3, o.wider (Nat.le_refl _) h2⟩
theorem LtS.setO {p o lo hi : Nat} {w : World} {x : At} {A1 A2 A3 A4 : Option Addr} (v : Value) (hp : p < lo) (h : LtS w x lo hi A1 A2 A3 A4) : LtS (w.setCell ⟨p, o, none⟩ v) x lo hi A1 A2 A3 A4 :=
  h.wrt (Wrt.of_grown (lo := p) (hi := p + 1) (grow_set w p o v) (fun g e => by cases e; omega)) (.inr hp)
set_option maxRecDepth 100000 in
set_option maxHeartbeats 8000000 in
theorem tolit_S (x : At) (no : Bool) (hF : AtF 1048576 x) (A1 : Option Addr) (c1 : Nat) (A2 : Option Addr) (c2 : Nat) (A3 : Option Addr) (c3 : Nat) (A4 : Option Addr) (c4 : Nat) (w : World) (hA : AtK w x A1 A2 A3 A4) :
    Calls Try.prog 68 #[.agg (x.lit no A1 c1 A2 c2 A3 c3 A4 c4)] w (NewLS w x no) := by
  have C1 := fun W (h : Below w.heap.size w W) => toatom_S x hF A1 c1 A2 c2 A3 c3 A4 c4 W (hA.below h)
  clear hF hA
  obtain ⟨kd, a, b, n, kid, m, Z, bd, st⟩ := x
  simp only [At.cs] at C1
  simp only [At.lit]
  have c9 : (((w.alloc (.cells #[.int .i64 kd, .string a.nm, .slice A1 a.n c1, .string b.nm, .slice A2 b.n c2, .slice A3 n c3, .slice A4 m c4, .int .i64 bd, .bool st, .bool no] 100)).alloc (.cells #[.int .i64 0, .string ⟨#[]⟩, .slice none 0 0, .string ⟨#[]⟩, .slice none 0 0, .slice none 0 0, .slice none 0 0, .int .i64 0, .bool false, .bool false] 104)).alloc (.cells #[.int .i64 0, .string ⟨#[]⟩, .slice none 0 0, .string ⟨#[]⟩, .slice none 0 0, .slice none 0 0, .slice none 0 0, .int .i64 0, .bool false, .bool false] 104)).cell? ⟨w.heap.size, 9, none⟩ = some (.bool no) := by simp [go_sem]
  have q0 : Below w.heap.size w (((w.alloc (.cells #[.int .i64 kd, .string a.nm, .slice A1 a.n c1, .string b.nm, .slice A2 b.n c2, .slice A3 n c3, .slice A4 m c4, .int .i64 bd, .bool st, .bool no] 100)).alloc (.cells #[.int .i64 0, .string ⟨#[]⟩, .slice none 0 0, .string ⟨#[]⟩, .slice none 0 0, .slice none 0 0, .slice none 0 0, .int .i64 0, .bool false, .bool false] 104)).alloc (.cells #[.int .i64 0, .string ⟨#[]⟩, .slice none 0 0, .string ⟨#[]⟩, .slice none 0 0, .slice none 0 0, .slice none 0 0, .int .i64 0, .bool false, .bool false] 104)) := bal (bal (bal (Below.refl _ _) _) _) _
  have R2 : (((w.alloc (.cells #[.int .i64 kd, .string a.nm, .slice A1 a.n c1, .string b.nm, .slice A2 b.n c2, .slice A3 n c3, .slice A4 m c4, .int .i64 bd, .bool st, .bool no] 100)).alloc (.cells #[.int .i64 0, .string ⟨#[]⟩, .slice none 0 0, .string ⟨#[]⟩, .slice none 0 0, .slice none 0 0, .slice none 0 0, .int .i64 0, .bool false, .bool false] 104)).alloc (.cells #[.int .i64 0, .string ⟨#[]⟩, .slice none 0 0, .string ⟨#[]⟩, .slice none 0 0, .slice none 0 0, .slice none 0 0, .int .i64 0, .bool false, .bool false] 104)).rowIs (w.heap.size + 1) 104 10 (rowOf #[.int .i64 0, .string ⟨#[]⟩, .slice none 0 0, .string ⟨#[]⟩, .slice none 0 0, .slice none 0 0, .slice none 0 0, .int .i64 0, .bool false, .bool false]) := by
    have h := (row_newA (w.alloc (.cells #[.int .i64 kd, .string a.nm, .slice A1 a.n c1, .string b.nm, .slice A2 b.n c2, .slice A3 n c3, .slice A4 m c4, .int .i64 bd, .bool st, .bool no] 100)) #[.int .i64 0, .string ⟨#[]⟩, .slice none 0 0, .string ⟨#[]⟩, .slice none 0 0, .slice none 0 0, .slice none 0 0, .int .i64 0, .bool false, .bool false] 104).alloc (.cells #[.int .i64 0, .string ⟨#[]⟩, .slice none 0 0, .string ⟨#[]⟩, .slice none 0 0, .slice none 0 0, .slice none 0 0, .int .i64 0, .bool false, .bool false] 104)
    rw [World.size_alloc] at h
    exact h
  have R3 : (((w.alloc (.cells #[.int .i64 kd, .string a.nm, .slice A1 a.n c1, .string b.nm, .slice A2 b.n c2, .slice A3 n c3, .slice A4 m c4, .int .i64 bd, .bool st, .bool no] 100)).alloc (.cells #[.int .i64 0, .string ⟨#[]⟩, .slice none 0 0, .string ⟨#[]⟩, .slice none 0 0, .slice none 0 0, .slice none 0 0, .int .i64 0, .bool false, .bool false] 104)).alloc (.cells #[.int .i64 0, .string ⟨#[]⟩, .slice none 0 0, .string ⟨#[]⟩, .slice none 0 0, .slice none 0 0, .slice none 0 0, .int .i64 0, .bool false, .bool false] 104)).rowIs (w.heap.size + 1 + 1) 104 10 (rowOf #[.int .i64 0, .string ⟨#[]⟩, .slice none 0 0, .string ⟨#[]⟩, .slice none 0 0, .slice none 0 0, .slice none 0 0, .int .i64 0, .bool false, .bool false]) := by
    have h := row_newA ((w.alloc (.cells #[.int .i64 kd, .string a.nm, .slice A1 a.n c1, .string b.nm, .slice A2 b.n c2, .slice A3 n c3, .slice A4 m c4, .int .i64 bd, .bool st, .bool no] 100)).alloc (.cells #[.int .i64 0, .string ⟨#[]⟩, .slice none 0 0, .string ⟨#[]⟩, .slice none 0 0, .slice none 0 0, .slice none 0 0, .int .i64 0, .bool false, .bool false] 104)) #[.int .i64 0, .string ⟨#[]⟩, .slice none 0 0, .string ⟨#[]⟩, .slice none 0 0, .slice none 0 0, .slice none 0 0, .int .i64 0, .bool false, .bool false] 104
    rw [World.size_alloc, World.size_alloc] at h
    exact h
  have zz : w.heap.size + 3 ≤ (((w.alloc (.cells #[.int .i64 kd, .string a.nm, .slice A1 a.n c1, .string b.nm, .slice A2 b.n c2, .slice A3 n c3, .slice A4 m c4, .int .i64 bd, .bool st, .bool no] 100)).alloc (.cells #[.int .i64 0, .string ⟨#[]⟩, .slice none 0 0, .string ⟨#[]⟩, .slice none 0 0, .slice none 0 0, .slice none 0 0, .int .i64 0, .bool false, .bool false] 104)).alloc (.cells #[.int .i64 0, .string ⟨#[]⟩, .slice none 0 0, .string ⟨#[]⟩, .slice none 0 0, .slice none 0 0, .slice none 0 0, .int .i64 0, .bool false, .bool false] 104)).heap.size := by simp
  replace C1 := hid C1
  go_enter Try.func68, Try.ntmps68
  go_wp2_with fail
  generalize ((w.alloc (.cells #[.int .i64 kd, .string a.nm, .slice A1 a.n c1, .string b.nm, .slice A2 b.n c2, .slice A3 n c3, .slice A4 m c4, .int .i64 bd, .bool st, .bool no] 100)).alloc (.cells #[.int .i64 0, .string ⟨#[]⟩, .slice none 0 0, .string ⟨#[]⟩, .slice none 0 0, .slice none 0 0, .slice none 0 0, .int .i64 0, .bool false, .bool false] 104)).alloc (.cells #[.int .i64 0, .string ⟨#[]⟩, .slice none 0 0, .string ⟨#[]⟩, .slice none 0 0, .slice none 0 0, .slice none 0 0, .int .i64 0, .bool false, .bool false] 104) = w0 at *
  refine (C1.out _ q0).mono ?_
  rintro e w1 ⟨D1, D2, g3, D4, rfl, O1, hq⟩
  simp only [At.cs] at *
  replace c9 := carry hq c9
  replace q0 := btr q0 hq
  replace R2 := row_below R2 hq
  replace R3 := row_below R3 hq
  have zb := Nat.le_trans zz hq.size
  clear hq C1
  have l0 := cell_lt c9
  have gc0 := R3.cell (i := 0) (by omega)
  have f0 : w1.frozen? ⟨w.heap.size + 1 + 1, 0, none⟩ = false := R3.frozen _
  have gc1 := R3.cell (i := 1) (by omega)
  have f1 : w1.frozen? ⟨w.heap.size + 1 + 1, 1, none⟩ = false := R3.frozen _
  have gc2 := R3.cell (i := 2) (by omega)
  have f2 : w1.frozen? ⟨w.heap.size + 1 + 1, 2, none⟩ = false := R3.frozen _
  have gc3 := R3.cell (i := 3) (by omega)
  have f3 : w1.frozen? ⟨w.heap.size + 1 + 1, 3, none⟩ = false := R3.frozen _
  have gc4 := R3.cell (i := 4) (by omega)
  have f4 : w1.frozen? ⟨w.heap.size + 1 + 1, 4, none⟩ = false := R3.frozen _
  have gc5 := R3.cell (i := 5) (by omega)
  have f5 : w1.frozen? ⟨w.heap.size + 1 + 1, 5, none⟩ = false := R3.frozen _
  have gc6 := R3.cell (i := 6) (by omega)
  have f6 : w1.frozen? ⟨w.heap.size + 1 + 1, 6, none⟩ = false := R3.frozen _
  have gc7 := R3.cell (i := 7) (by omega)
  have f7 : w1.frozen? ⟨w.heap.size + 1 + 1, 7, none⟩ = false := R3.frozen _
  have gc8 := R3.cell (i := 8) (by omega)
  have f8 : w1.frozen? ⟨w.heap.size + 1 + 1, 8, none⟩ = false := R3.frozen _
  have gc9 := R3.cell (i := 9) (by omega)
  have f9 : w1.frozen? ⟨w.heap.size + 1 + 1, 9, none⟩ = false := R3.frozen _
  go_upto_region 4 with fail
  replace q0 := bst q0 (p := ⟨w.heap.size + 1 + 1, 0, none⟩) (show w.heap.size ≤ w.heap.size + 1 + 1 by omega) (.int .i64 kd)
  replace R2 := R2.setOther (a := ⟨w.heap.size + 1 + 1, 0, none⟩) (by simp) (.int .i64 kd)
  replace R3 := R3.set 0 (.int .i64 kd)
  replace O1 := O1.setO (p := w.heap.size + 1 + 1) (o := 0) (.int .i64 kd) (by omega)
  replace q0 := bst q0 (p := ⟨w.heap.size + 1 + 1, 1, none⟩) (show w.heap.size ≤ w.heap.size + 1 + 1 by omega) (.string a.nm)
  replace R2 := R2.setOther (a := ⟨w.heap.size + 1 + 1, 1, none⟩) (by simp) (.string a.nm)
  replace R3 := R3.set 1 (.string a.nm)
  replace O1 := O1.setO (p := w.heap.size + 1 + 1) (o := 1) (.string a.nm) (by omega)
  replace q0 := bst q0 (p := ⟨w.heap.size + 1 + 1, 2, none⟩) (show w.heap.size ≤ w.heap.size + 1 + 1 by omega) (.slice D1 a.n a.n)
  replace R2 := R2.setOther (a := ⟨w.heap.size + 1 + 1, 2, none⟩) (by simp) (.slice D1 a.n a.n)
  replace R3 := R3.set 2 (.slice D1 a.n a.n)
  replace O1 := O1.setO (p := w.heap.size + 1 + 1) (o := 2) (.slice D1 a.n a.n) (by omega)
  replace q0 := bst q0 (p := ⟨w.heap.size + 1 + 1, 3, none⟩) (show w.heap.size ≤ w.heap.size + 1 + 1 by omega) (.string b.nm)
  replace R2 := R2.setOther (a := ⟨w.heap.size + 1 + 1, 3, none⟩) (by simp) (.string b.nm)
  replace R3 := R3.set 3 (.string b.nm)
  replace O1 := O1.setO (p := w.heap.size + 1 + 1) (o := 3) (.string b.nm) (by omega)
  replace q0 := bst q0 (p := ⟨w.heap.size + 1 + 1, 4, none⟩) (show w.heap.size ≤ w.heap.size + 1 + 1 by omega) (.slice D2 b.n b.n)
  replace R2 := R2.setOther (a := ⟨w.heap.size + 1 + 1, 4, none⟩) (by simp) (.slice D2 b.n b.n)
  replace R3 := R3.set 4 (.slice D2 b.n b.n)
  replace O1 := O1.setO (p := w.heap.size + 1 + 1) (o := 4) (.slice D2 b.n b.n) (by omega)
  replace q0 := bst q0 (p := ⟨w.heap.size + 1 + 1, 5, none⟩) (show w.heap.size ≤ w.heap.size + 1 + 1 by omega) (.slice (some ⟨g3, 0, none⟩) n n)
  replace R2 := R2.setOther (a := ⟨w.heap.size + 1 + 1, 5, none⟩) (by simp) (.slice (some ⟨g3, 0, none⟩) n n)
  replace R3 := R3.set 5 (.slice (some ⟨g3, 0, none⟩) n n)
  replace O1 := O1.setO (p := w.heap.size + 1 + 1) (o := 5) (.slice (some ⟨g3, 0, none⟩) n n) (by omega)
  replace q0 := bst q0 (p := ⟨w.heap.size + 1 + 1, 6, none⟩) (show w.heap.size ≤ w.heap.size + 1 + 1 by omega) (.slice D4 m m)
  replace R2 := R2.setOther (a := ⟨w.heap.size + 1 + 1, 6, none⟩) (by simp) (.slice D4 m m)
  replace R3 := R3.set 6 (.slice D4 m m)
  replace O1 := O1.setO (p := w.heap.size + 1 + 1) (o := 6) (.slice D4 m m) (by omega)
  replace q0 := bst q0 (p := ⟨w.heap.size + 1 + 1, 7, none⟩) (show w.heap.size ≤ w.heap.size + 1 + 1 by omega) (.int .i64 bd)
  replace R2 := R2.setOther (a := ⟨w.heap.size + 1 + 1, 7, none⟩) (by simp) (.int .i64 bd)
  replace R3 := R3.set 7 (.int .i64 bd)
  replace O1 := O1.setO (p := w.heap.size + 1 + 1) (o := 7) (.int .i64 bd) (by omega)
  replace q0 := bst q0 (p := ⟨w.heap.size + 1 + 1, 8, none⟩) (show w.heap.size ≤ w.heap.size + 1 + 1 by omega) (.bool st)
  replace R2 := R2.setOther (a := ⟨w.heap.size + 1 + 1, 8, none⟩) (by simp) (.bool st)
  replace R3 := R3.set 8 (.bool st)
  replace O1 := O1.setO (p := w.heap.size + 1 + 1) (o := 8) (.bool st) (by omega)
  replace q0 := bst q0 (p := ⟨w.heap.size + 1 + 1, 9, none⟩) (show w.heap.size ≤ w.heap.size + 1 + 1 by omega) (.bool no)
  replace R2 := R2.setOther (a := ⟨w.heap.size + 1 + 1, 9, none⟩) (by simp) (.bool no)
  replace R3 := R3.set 9 (.bool no)
  replace O1 := O1.setO (p := w.heap.size + 1 + 1) (o := 9) (.bool no) (by omega)
  have yy : w1.heap.size ≤ ((((((((((w1.setCell ⟨w.heap.size + 1 + 1, 0, none⟩ (.int .i64 kd)).setCell ⟨w.heap.size + 1 + 1, 1, none⟩ (.string a.nm)).setCell ⟨w.heap.size + 1 + 1, 2, none⟩ (.slice D1 a.n a.n)).setCell ⟨w.heap.size + 1 + 1, 3, none⟩ (.string b.nm)).setCell ⟨w.heap.size + 1 + 1, 4, none⟩ (.slice D2 b.n b.n)).setCell ⟨w.heap.size + 1 + 1, 5, none⟩ (.slice (some ⟨g3, 0, none⟩) n n)).setCell ⟨w.heap.size + 1 + 1, 6, none⟩ (.slice D4 m m)).setCell ⟨w.heap.size + 1 + 1, 7, none⟩ (.int .i64 bd)).setCell ⟨w.heap.size + 1 + 1, 8, none⟩ (.bool st)).setCell ⟨w.heap.size + 1 + 1, 9, none⟩ (.bool no)).heap.size := by simp [World.setCell]
  generalize (((((((((w1.setCell ⟨w.heap.size + 1 + 1, 0, none⟩ (.int .i64 kd)).setCell ⟨w.heap.size + 1 + 1, 1, none⟩ (.string a.nm)).setCell ⟨w.heap.size + 1 + 1, 2, none⟩ (.slice D1 a.n a.n)).setCell ⟨w.heap.size + 1 + 1, 3, none⟩ (.string b.nm)).setCell ⟨w.heap.size + 1 + 1, 4, none⟩ (.slice D2 b.n b.n)).setCell ⟨w.heap.size + 1 + 1, 5, none⟩ (.slice (some ⟨g3, 0, none⟩) n n)).setCell ⟨w.heap.size + 1 + 1, 6, none⟩ (.slice D4 m m)).setCell ⟨w.heap.size + 1 + 1, 7, none⟩ (.int .i64 bd)).setCell ⟨w.heap.size + 1 + 1, 8, none⟩ (.bool st)).setCell ⟨w.heap.size + 1 + 1, 9, none⟩ (.bool no) = X at *
  have k0 : X.cell? ⟨w.heap.size + 1 + 1, 0, none⟩ = some (.int .i64 kd) := R3.cell (i := 0) (by omega)
  have k1 : X.cell? ⟨w.heap.size + 1 + 1, 1, none⟩ = some (.string a.nm) := R3.cell (i := 1) (by omega)
  have k2 : X.cell? ⟨w.heap.size + 1 + 1, 2, none⟩ = some (.slice D1 a.n a.n) := R3.cell (i := 2) (by omega)
  have k3 : X.cell? ⟨w.heap.size + 1 + 1, 3, none⟩ = some (.string b.nm) := R3.cell (i := 3) (by omega)
  have k4 : X.cell? ⟨w.heap.size + 1 + 1, 4, none⟩ = some (.slice D2 b.n b.n) := R3.cell (i := 4) (by omega)
  have k5 : X.cell? ⟨w.heap.size + 1 + 1, 5, none⟩ = some (.slice (some ⟨g3, 0, none⟩) n n) := R3.cell (i := 5) (by omega)
  have k6 : X.cell? ⟨w.heap.size + 1 + 1, 6, none⟩ = some (.slice D4 m m) := R3.cell (i := 6) (by omega)
  have k7 : X.cell? ⟨w.heap.size + 1 + 1, 7, none⟩ = some (.int .i64 bd) := R3.cell (i := 7) (by omega)
  have k8 : X.cell? ⟨w.heap.size + 1 + 1, 8, none⟩ = some (.bool st) := R3.cell (i := 8) (by omega)
  have k9 : X.cell? ⟨w.heap.size + 1 + 1, 9, none⟩ = some (.bool no) := R3.cell (i := 9) (by omega)
  have y0 : X.cell? ⟨w.heap.size + 1, 0, none⟩ = some (.int .i64 0) := R2.cell (i := 0) (by omega)
  have f0 : X.frozen? ⟨w.heap.size + 1, 0, none⟩ = false := R2.frozen _
  have y1 : X.cell? ⟨w.heap.size + 1, 1, none⟩ = some (.string ⟨#[]⟩) := R2.cell (i := 1) (by omega)
  have f1 : X.frozen? ⟨w.heap.size + 1, 1, none⟩ = false := R2.frozen _
  have y2 : X.cell? ⟨w.heap.size + 1, 2, none⟩ = some (.slice none 0 0) := R2.cell (i := 2) (by omega)
  have f2 : X.frozen? ⟨w.heap.size + 1, 2, none⟩ = false := R2.frozen _
  have y3 : X.cell? ⟨w.heap.size + 1, 3, none⟩ = some (.string ⟨#[]⟩) := R2.cell (i := 3) (by omega)
  have f3 : X.frozen? ⟨w.heap.size + 1, 3, none⟩ = false := R2.frozen _
  have y4 : X.cell? ⟨w.heap.size + 1, 4, none⟩ = some (.slice none 0 0) := R2.cell (i := 4) (by omega)
  have f4 : X.frozen? ⟨w.heap.size + 1, 4, none⟩ = false := R2.frozen _
  have y5 : X.cell? ⟨w.heap.size + 1, 5, none⟩ = some (.slice none 0 0) := R2.cell (i := 5) (by omega)
  have f5 : X.frozen? ⟨w.heap.size + 1, 5, none⟩ = false := R2.frozen _
  have y6 : X.cell? ⟨w.heap.size + 1, 6, none⟩ = some (.slice none 0 0) := R2.cell (i := 6) (by omega)
  have f6 : X.frozen? ⟨w.heap.size + 1, 6, none⟩ = false := R2.frozen _
  have y7 : X.cell? ⟨w.heap.size + 1, 7, none⟩ = some (.int .i64 0) := R2.cell (i := 7) (by omega)
  have f7 : X.frozen? ⟨w.heap.size + 1, 7, none⟩ = false := R2.frozen _
  have y8 : X.cell? ⟨w.heap.size + 1, 8, none⟩ = some (.bool false) := R2.cell (i := 8) (by omega)
  have f8 : X.frozen? ⟨w.heap.size + 1, 8, none⟩ = false := R2.frozen _
  have y9 : X.cell? ⟨w.heap.size + 1, 9, none⟩ = some (.bool false) := R2.cell (i := 9) (by omega)
  have f9 : X.frozen? ⟨w.heap.size + 1, 9, none⟩ = false := R2.frozen _
  have RF := hid ((((((((((R2.set 0 (.int .i64 kd)).set 1 (.string a.nm)).set 2 (.slice D1 a.n a.n)).set 3 (.string b.nm)).set 4 (.slice D2 b.n b.n)).set 5 (.slice (some ⟨g3, 0, none⟩) n n)).set 6 (.slice D4 m m)).set 7 (.int .i64 bd)).set 8 (.bool st)).set 9 (.bool no))
  have t0 : ((((((((((X.setCell ⟨w.heap.size + 1, 0, none⟩ (.int .i64 kd)).setCell ⟨w.heap.size + 1, 1, none⟩ (.string a.nm)).setCell ⟨w.heap.size + 1, 2, none⟩ (.slice D1 a.n a.n)).setCell ⟨w.heap.size + 1, 3, none⟩ (.string b.nm)).setCell ⟨w.heap.size + 1, 4, none⟩ (.slice D2 b.n b.n)).setCell ⟨w.heap.size + 1, 5, none⟩ (.slice (some ⟨g3, 0, none⟩) n n)).setCell ⟨w.heap.size + 1, 6, none⟩ (.slice D4 m m)).setCell ⟨w.heap.size + 1, 7, none⟩ (.int .i64 bd)).setCell ⟨w.heap.size + 1, 8, none⟩ (.bool st)).setCell ⟨w.heap.size + 1, 9, none⟩ (.bool no)).cell? ⟨w.heap.size + 1, 0, none⟩ = some (.int .i64 kd) := RF.out.cell (i := 0) (by omega)
  have t1 : ((((((((((X.setCell ⟨w.heap.size + 1, 0, none⟩ (.int .i64 kd)).setCell ⟨w.heap.size + 1, 1, none⟩ (.string a.nm)).setCell ⟨w.heap.size + 1, 2, none⟩ (.slice D1 a.n a.n)).setCell ⟨w.heap.size + 1, 3, none⟩ (.string b.nm)).setCell ⟨w.heap.size + 1, 4, none⟩ (.slice D2 b.n b.n)).setCell ⟨w.heap.size + 1, 5, none⟩ (.slice (some ⟨g3, 0, none⟩) n n)).setCell ⟨w.heap.size + 1, 6, none⟩ (.slice D4 m m)).setCell ⟨w.heap.size + 1, 7, none⟩ (.int .i64 bd)).setCell ⟨w.heap.size + 1, 8, none⟩ (.bool st)).setCell ⟨w.heap.size + 1, 9, none⟩ (.bool no)).cell? ⟨w.heap.size + 1, 1, none⟩ = some (.string a.nm) := RF.out.cell (i := 1) (by omega)
  have t2 : ((((((((((X.setCell ⟨w.heap.size + 1, 0, none⟩ (.int .i64 kd)).setCell ⟨w.heap.size + 1, 1, none⟩ (.string a.nm)).setCell ⟨w.heap.size + 1, 2, none⟩ (.slice D1 a.n a.n)).setCell ⟨w.heap.size + 1, 3, none⟩ (.string b.nm)).setCell ⟨w.heap.size + 1, 4, none⟩ (.slice D2 b.n b.n)).setCell ⟨w.heap.size + 1, 5, none⟩ (.slice (some ⟨g3, 0, none⟩) n n)).setCell ⟨w.heap.size + 1, 6, none⟩ (.slice D4 m m)).setCell ⟨w.heap.size + 1, 7, none⟩ (.int .i64 bd)).setCell ⟨w.heap.size + 1, 8, none⟩ (.bool st)).setCell ⟨w.heap.size + 1, 9, none⟩ (.bool no)).cell? ⟨w.heap.size + 1, 2, none⟩ = some (.slice D1 a.n a.n) := RF.out.cell (i := 2) (by omega)
  have t3 : ((((((((((X.setCell ⟨w.heap.size + 1, 0, none⟩ (.int .i64 kd)).setCell ⟨w.heap.size + 1, 1, none⟩ (.string a.nm)).setCell ⟨w.heap.size + 1, 2, none⟩ (.slice D1 a.n a.n)).setCell ⟨w.heap.size + 1, 3, none⟩ (.string b.nm)).setCell ⟨w.heap.size + 1, 4, none⟩ (.slice D2 b.n b.n)).setCell ⟨w.heap.size + 1, 5, none⟩ (.slice (some ⟨g3, 0, none⟩) n n)).setCell ⟨w.heap.size + 1, 6, none⟩ (.slice D4 m m)).setCell ⟨w.heap.size + 1, 7, none⟩ (.int .i64 bd)).setCell ⟨w.heap.size + 1, 8, none⟩ (.bool st)).setCell ⟨w.heap.size + 1, 9, none⟩ (.bool no)).cell? ⟨w.heap.size + 1, 3, none⟩ = some (.string b.nm) := RF.out.cell (i := 3) (by omega)
  have t4 : ((((((((((X.setCell ⟨w.heap.size + 1, 0, none⟩ (.int .i64 kd)).setCell ⟨w.heap.size + 1, 1, none⟩ (.string a.nm)).setCell ⟨w.heap.size + 1, 2, none⟩ (.slice D1 a.n a.n)).setCell ⟨w.heap.size + 1, 3, none⟩ (.string b.nm)).setCell ⟨w.heap.size + 1, 4, none⟩ (.slice D2 b.n b.n)).setCell ⟨w.heap.size + 1, 5, none⟩ (.slice (some ⟨g3, 0, none⟩) n n)).setCell ⟨w.heap.size + 1, 6, none⟩ (.slice D4 m m)).setCell ⟨w.heap.size + 1, 7, none⟩ (.int .i64 bd)).setCell ⟨w.heap.size + 1, 8, none⟩ (.bool st)).setCell ⟨w.heap.size + 1, 9, none⟩ (.bool no)).cell? ⟨w.heap.size + 1, 4, none⟩ = some (.slice D2 b.n b.n) := RF.out.cell (i := 4) (by omega)
  have t5 : ((((((((((X.setCell ⟨w.heap.size + 1, 0, none⟩ (.int .i64 kd)).setCell ⟨w.heap.size + 1, 1, none⟩ (.string a.nm)).setCell ⟨w.heap.size + 1, 2, none⟩ (.slice D1 a.n a.n)).setCell ⟨w.heap.size + 1, 3, none⟩ (.string b.nm)).setCell ⟨w.heap.size + 1, 4, none⟩ (.slice D2 b.n b.n)).setCell ⟨w.heap.size + 1, 5, none⟩ (.slice (some ⟨g3, 0, none⟩) n n)).setCell ⟨w.heap.size + 1, 6, none⟩ (.slice D4 m m)).setCell ⟨w.heap.size + 1, 7, none⟩ (.int .i64 bd)).setCell ⟨w.heap.size + 1, 8, none⟩ (.bool st)).setCell ⟨w.heap.size + 1, 9, none⟩ (.bool no)).cell? ⟨w.heap.size + 1, 5, none⟩ = some (.slice (some ⟨g3, 0, none⟩) n n) := RF.out.cell (i := 5) (by omega)
  have t6 : ((((((((((X.setCell ⟨w.heap.size + 1, 0, none⟩ (.int .i64 kd)).setCell ⟨w.heap.size + 1, 1, none⟩ (.string a.nm)).setCell ⟨w.heap.size + 1, 2, none⟩ (.slice D1 a.n a.n)).setCell ⟨w.heap.size + 1, 3, none⟩ (.string b.nm)).setCell ⟨w.heap.size + 1, 4, none⟩ (.slice D2 b.n b.n)).setCell ⟨w.heap.size + 1, 5, none⟩ (.slice (some ⟨g3, 0, none⟩) n n)).setCell ⟨w.heap.size + 1, 6, none⟩ (.slice D4 m m)).setCell ⟨w.heap.size + 1, 7, none⟩ (.int .i64 bd)).setCell ⟨w.heap.size + 1, 8, none⟩ (.bool st)).setCell ⟨w.heap.size + 1, 9, none⟩ (.bool no)).cell? ⟨w.heap.size + 1, 6, none⟩ = some (.slice D4 m m) := RF.out.cell (i := 6) (by omega)
  have t7 : ((((((((((X.setCell ⟨w.heap.size + 1, 0, none⟩ (.int .i64 kd)).setCell ⟨w.heap.size + 1, 1, none⟩ (.string a.nm)).setCell ⟨w.heap.size + 1, 2, none⟩ (.slice D1 a.n a.n)).setCell ⟨w.heap.size + 1, 3, none⟩ (.string b.nm)).setCell ⟨w.heap.size + 1, 4, none⟩ (.slice D2 b.n b.n)).setCell ⟨w.heap.size + 1, 5, none⟩ (.slice (some ⟨g3, 0, none⟩) n n)).setCell ⟨w.heap.size + 1, 6, none⟩ (.slice D4 m m)).setCell ⟨w.heap.size + 1, 7, none⟩ (.int .i64 bd)).setCell ⟨w.heap.size + 1, 8, none⟩ (.bool st)).setCell ⟨w.heap.size + 1, 9, none⟩ (.bool no)).cell? ⟨w.heap.size + 1, 7, none⟩ = some (.int .i64 bd) := RF.out.cell (i := 7) (by omega)
  have t8 : ((((((((((X.setCell ⟨w.heap.size + 1, 0, none⟩ (.int .i64 kd)).setCell ⟨w.heap.size + 1, 1, none⟩ (.string a.nm)).setCell ⟨w.heap.size + 1, 2, none⟩ (.slice D1 a.n a.n)).setCell ⟨w.heap.size + 1, 3, none⟩ (.string b.nm)).setCell ⟨w.heap.size + 1, 4, none⟩ (.slice D2 b.n b.n)).setCell ⟨w.heap.size + 1, 5, none⟩ (.slice (some ⟨g3, 0, none⟩) n n)).setCell ⟨w.heap.size + 1, 6, none⟩ (.slice D4 m m)).setCell ⟨w.heap.size + 1, 7, none⟩ (.int .i64 bd)).setCell ⟨w.heap.size + 1, 8, none⟩ (.bool st)).setCell ⟨w.heap.size + 1, 9, none⟩ (.bool no)).cell? ⟨w.heap.size + 1, 8, none⟩ = some (.bool st) := RF.out.cell (i := 8) (by omega)
  have t9 : ((((((((((X.setCell ⟨w.heap.size + 1, 0, none⟩ (.int .i64 kd)).setCell ⟨w.heap.size + 1, 1, none⟩ (.string a.nm)).setCell ⟨w.heap.size + 1, 2, none⟩ (.slice D1 a.n a.n)).setCell ⟨w.heap.size + 1, 3, none⟩ (.string b.nm)).setCell ⟨w.heap.size + 1, 4, none⟩ (.slice D2 b.n b.n)).setCell ⟨w.heap.size + 1, 5, none⟩ (.slice (some ⟨g3, 0, none⟩) n n)).setCell ⟨w.heap.size + 1, 6, none⟩ (.slice D4 m m)).setCell ⟨w.heap.size + 1, 7, none⟩ (.int .i64 bd)).setCell ⟨w.heap.size + 1, 8, none⟩ (.bool st)).setCell ⟨w.heap.size + 1, 9, none⟩ (.bool no)).cell? ⟨w.heap.size + 1, 9, none⟩ = some (.bool no) := RF.out.cell (i := 9) (by omega)
  have Q := hid q0; have P1 := hid O1
  clear O1 R2 R3 q0
  go_wp2
  refine bodyPost_ret (v := .agg #[.int .i64 kd, .string a.nm, .slice D1 a.n a.n, .string b.nm, .slice D2 b.n b.n, .slice (some ⟨g3, 0, none⟩) n n, .slice D4 m m, .int .i64 bd, .bool st, .bool no]) (by simp [results, Try.results68, go_sem, t0, t1, t2, t3, t4, t5, t6, t7, t8, t9]) rfl ?_
  clear t0 k0 y0 t1 k1 y1 t2 k2 y2 t3 k3 y3 t4 k4 y4 t5 k5 y5 t6 k6 y6 t7 k7 y7 t8 k8 y8 t9 k9 y9
  exact ⟨_, _, _, _, rfl, ((((((((((P1.out.setO (p := w.heap.size + 1) (o := 0) (.int .i64 kd) (by omega)).setO (p := w.heap.size + 1) (o := 1) (.string a.nm) (by omega)).setO (p := w.heap.size + 1) (o := 2) (.slice D1 a.n a.n) (by omega)).setO (p := w.heap.size + 1) (o := 3) (.string b.nm) (by omega)).setO (p := w.heap.size + 1) (o := 4) (.slice D2 b.n b.n) (by omega)).setO (p := w.heap.size + 1) (o := 5) (.slice (some ⟨g3, 0, none⟩) n n) (by omega)).setO (p := w.heap.size + 1) (o := 6) (.slice D4 m m) (by omega)).setO (p := w.heap.size + 1) (o := 7) (.int .i64 bd) (by omega)).setO (p := w.heap.size + 1) (o := 8) (.bool st) (by omega)).setO (p := w.heap.size + 1) (o := 9) (.bool no) (by omega)).mono (by omega) (by simpa [World.setCell] using yy), (bst (bst (bst (bst (bst (bst (bst (bst (bst (bst Q.out (p := ⟨w.heap.size + 1, 0, none⟩) (show w.heap.size ≤ w.heap.size + 1 by omega) (.int .i64 kd)) (p := ⟨w.heap.size + 1, 1, none⟩) (show w.heap.size ≤ w.heap.size + 1 by omega) (.string a.nm)) (p := ⟨w.heap.size + 1, 2, none⟩) (show w.heap.size ≤ w.heap.size + 1 by omega) (.slice D1 a.n a.n)) (p := ⟨w.heap.size + 1, 3, none⟩) (show w.heap.size ≤ w.heap.size + 1 by omega) (.string b.nm)) (p := ⟨w.heap.size + 1, 4, none⟩) (show w.heap.size ≤ w.heap.size + 1 by omega) (.slice D2 b.n b.n)) (p := ⟨w.heap.size + 1, 5, none⟩) (show w.heap.size ≤ w.heap.size + 1 by omega) (.slice (some ⟨g3, 0, none⟩) n n)) (p := ⟨w.heap.size + 1, 6, none⟩) (show w.heap.size ≤ w.heap.size + 1 by omega) (.slice D4 m m)) (p := ⟨w.heap.size + 1, 7, none⟩) (show w.heap.size ≤ w.heap.size + 1 by omega) (.int .i64 bd)) (p := ⟨w.heap.size + 1, 8, none⟩) (show w.heap.size ≤ w.heap.size + 1 by omega) (.bool st)) (p := ⟨w.heap.size + 1, 9, none⟩) (show w.heap.size ≤ w.heap.size + 1 by omega) (.bool no))⟩
end Go.Proofs.Ytanfljajafelgaa

namespace Go.Proofs.Ytanfljajafelgaa
set_option linter.unusedVariables false
set_option linter.unusedSimpArgs false
open Go.RowKit
theorem Wrt.ofLt {lo hi : Nat} {w w' : World} (h : Below w.heap.size w w') : Wrt lo hi w w' := ⟨h.os, h.tape, h.output, h.size, fun k hk _ => h.block k hk⟩
theorem Wrt.wid {lo hi lo' hi' : Nat} {w w' : World} (h : Wrt lo hi w w') (h1 : lo' ≤ lo) (h2 : hi ≤ hi') : Wrt lo' hi' w w' := ⟨h.os, h.tape, h.output, h.size, fun k hk hr => h.block k hk (by omega)⟩
def mkN1 (x : At) (k : Nat) : Nat := k + tSz x.a - 1
def mkN2 (x : At) (k : Nat) : Nat := mkN1 x k + tSz x.b - 1
def mkN3 (x : At) (k : Nat) : Nat := mkN2 x k + tSz (.mk ⟨#[]⟩ x.n x.kid) - 1
def mkA (x : At) (k : Nat) : At := ⟨x.kd, mkT x.a k, mkT x.b (mkN1 x k), x.n, (mkT (.mk ⟨#[]⟩ x.n x.kid) (mkN2 x k)).kid, x.m, fun j => (mkN3 x k : Int) + j, x.bd, x.st⟩
theorem markterm_S (t : Tm) (lo hi : Nat) (A : Option Addr) (c k : Nat) (w : World) (hk0 : 0 < k) (hk : k + tSz t ≤ 1000000000000001) (hF : Fits 1048576 t) (h : SepT w t lo hi A) :
    Calls Try.prog 185 #[.agg #[.string t.nm, .slice A t.n c], .int .i64 (k : Int)] w fun e w' => e = .returned (.int .i64 ((k + tSz t - 1 : Nat) : Int)) ∧ SepT w' (mkT t k) lo hi A ∧ Wrt lo hi w w' := by
  have q0 := bal (Below.refl w.heap.size w) (.cells #[.string t.nm, .slice A t.n c] 76)
  have C := hid (markterms_any t lo hi A c k _ hF.n hk0 hk hF (h.below q0))
  generalize (k + tSz t - 1 : Nat) = K at C ⊢
  clear h hF hk
  go_enter Try.func185, Try.ntmps185
  go_wp2_with fail
  refine C.out.mono ?_
  rintro e w1 ⟨rfl, hs, hw⟩
  go_wp2
  go_ret
  exact ⟨rfl, hs, (Wrt.ofLt q0).trans hw⟩
theorem heldterm_S (t : Tm) (A : Option Addr) (c k : Nat) (w : World) (hk0 : 0 < k) (hk : k + tSz t ≤ 1000000000000001) (hF : Fits 1048576 t) (h : Kids 0 w (mkT t k) A) :
    Calls Try.prog 186 #[.agg #[.string t.nm, .slice A t.n c], .int .i64 (k : Int)] w fun e w' => e = .returned (.int .i64 ((k + tSz t - 1 : Nat) : Int)) ∧ Below w.heap.size w w' := by
  have q0 := bal (Below.refl w.heap.size w) (.cells #[.string t.nm, .slice A t.n c] 76)
  have C := hid (heldterms_any t A c k _ hF.n hk0 hk hF (h.below q0))
  generalize (k + tSz t - 1 : Nat) = K at C ⊢
  have dK : decide ((K : Int) < 0) = false := by simp
  clear h hF hk
  go_enter Try.func186, Try.ntmps186
  go_wp2_with fail
  refine C.out.mono ?_
  rintro e w1 ⟨rfl, hq⟩
  go_wp2
  go_ret
  exact ⟨rfl, btr q0 hq⟩
set_option maxRecDepth 100000 in
set_option maxHeartbeats 8000000 in
theorem markatom_S (x : At) (lo hi k : Nat) (hF : AtF 1048576 x) (hk0 : 0 < k) (hk : k + atSz x + x.m ≤ 1000000000000) (w : World) (hh : hi ≤ w.heap.size) (A1 : Option Addr) (c1 : Nat) (A2 : Option Addr) (c2 : Nat) (A3 : Option Addr) (c3 : Nat) (A4 : Option Addr) (c4 : Nat) (hA : LtS w x lo hi A1 A2 A3 A4) :
    Calls Try.prog 138 #[.agg (x.cs A1 c1 A2 c2 A3 c3 A4 c4), .int .i64 (k : Int)] w fun e w' => e = .returned (.int .i64 ((mkN3 x k + x.m : Nat) : Int)) ∧ LtS w' (mkA x k) lo hi A1 A2 A3 A4 ∧ Wrt lo hi w w' := by
  obtain ⟨h1, h2, h3, l1, l2, l3, l4, s1, s2, s3, o⟩ := hA
  obtain ⟨f1, f2, f3, f4, f5⟩ := hF
  have p1 := tSz_pos x.a
  have p2 := tSz_pos x.b
  have n1 : mkN1 x k = k + tSz x.a - 1 := rfl
  have n2 : mkN2 x k = mkN1 x k + tSz x.b - 1 := rfl
  have n3 : mkN3 x k = mkN2 x k + tSz (.mk ⟨#[]⟩ x.n x.kid) - 1 := rfl
  have p3 : tSz (.mk ⟨#[]⟩ x.n x.kid) = 1 + sumT x.n (fun i => tSz (x.kid i)) := by rw [tSz]
  unfold atSz at hk
  have C1 := fun W h => markterm_S x.a lo h1 A1 c1 k W hk0 (by omega) f1 h
  have C2 := fun W h => markterm_S x.b h1 h2 A2 c2 (mkN1 x k) W (by omega) (by omega) f2 h
  have C3 := fun W h => markterms_any (.mk ⟨#[]⟩ x.n x.kid) h2 h3 A3 c3 (mkN2 x k) W f3 (by omega) (by omega) ⟨Nat.zero_le _, f3, f4⟩ h
  have C4 := fun W h => markints_any h3 hi A4 x.m c4 x.Z (mkN3 x k : Int) W f5 (by omega) h
  rw [← n1] at C1
  rw [← n2] at C2
  rw [← n3] at C3
  have fin : ∀ w', SepT w' (mkT x.a k) lo h1 A1 → SepT w' (mkT x.b (mkN1 x k)) h1 h2 A2 → SepT w' (mkT (.mk ⟨#[]⟩ x.n x.kid) (mkN2 x k)) h2 h3 A3 → OwnB h3 hi w' A4 x.m (fun j => (mkN3 x k : Int) + j) → LtS w' (mkA x k) lo hi A1 A2 A3 A4 := fun w' a b c d => ⟨h1, h2, h3, l1, l2, l3, l4, a, b, c, d⟩
  replace fin := hid fin
  generalize mkA x k = y at fin ⊢
  have r3 : ((mkN3 x k : Nat) : Int) + (x.m : Int) = ((mkN3 x k + x.m : Nat) : Int) := by omega
  rw [← r3]
  clear n1 n2 n3 p3 p1 p2 r3 f1 f2 f4 hk hk0
  generalize mkN1 x k = K1 at *
  generalize mkN2 x k = K2 at *
  generalize mkN3 x k = K3 at *
  obtain ⟨kd, a, b, n, kid, m, Z, bd, st⟩ := x
  simp only at *
  simp only [At.cs]
  replace C1 := hid C1; replace C2 := hid C2; replace C3 := hid C3; replace C4 := hid C4
  have H : KcL [(w.heap.size, 3, .string b.nm), (w.heap.size, 4, .slice A2 b.n c2), (w.heap.size, 5, .slice A3 n c3), (w.heap.size, 6, .slice A4 m c4)] (w.alloc (.cells #[.int .i64 kd, .string a.nm, .slice A1 a.n c1, .string b.nm, .slice A2 b.n c2, .slice A3 n c3, .slice A4 m c4, .int .i64 bd, .bool st] 95)) := by
    refine ⟨?_, ?_, ?_, ?_, trivial⟩ <;> simp [go_sem]
  have q0 := bal (Below.refl w.heap.size w) (.cells #[.int .i64 kd, .string a.nm, .slice A1 a.n c1, .string b.nm, .slice A2 b.n c2, .slice A3 n c3, .slice A4 m c4, .int .i64 bd, .bool st] 95)
  have W0 := Wrt.ofLt (lo := lo) (hi := hi) q0
  replace s1 := s1.below q0
  replace s2 := s2.below q0
  replace s3 := s3.below q0
  replace o := o.below q0
  clear q0
  go_enter Try.func138, Try.ntmps138
  go_wp2_with fail
  refine (C1.out _ s1).mono ?_
  rintro e w1 ⟨rfl, s1', hw⟩
  replace H := hw.kc (fun e he => by simp at he; rcases he with rfl | rfl | rfl | rfl <;> simp <;> omega) H
  replace s2 := s2.wrt hw (.inr (Nat.le_refl _))
  replace s3 := s3.wrt hw (.inr l2)
  replace o := o.wrt hw (.inr (by omega))
  replace W0 := W0.trans (hw.wid (Nat.le_refl _) (by omega))
  clear hw C1 s1
  have HH_ := H; obtain ⟨c0, c1, c2, c3, _⟩ := HH_
  go_wp2_with fail
  refine (C2.out _ s2).mono ?_
  rintro e w2 ⟨rfl, s2', hw⟩
  clear c0 c1 c2 c3
  replace H := hw.kc (fun e he => by simp at he; rcases he with rfl | rfl | rfl | rfl <;> simp <;> omega) H
  replace s1' := s1'.wrt hw (.inl (Nat.le_refl _))
  replace s3 := s3.wrt hw (.inr (Nat.le_refl _))
  replace o := o.wrt hw (.inr l3)
  replace W0 := W0.trans (hw.wid l1 (by omega))
  clear hw C2 s2
  have HH_ := H; obtain ⟨c0, c1, c2, c3, _⟩ := HH_
  go_wp2_with fail
  refine (C3.out _ s3).mono ?_
  rintro e w3 ⟨rfl, s3', hw⟩
  clear c0 c1 c2 c3
  replace H := hw.kc (fun e he => by simp at he; rcases he with rfl | rfl | rfl | rfl <;> simp <;> omega) H
  replace s1' := s1'.wrt hw (.inl l2)
  replace s2' := s2'.wrt hw (.inl (Nat.le_refl _))
  replace o := o.wrt hw (.inr (Nat.le_refl _))
  replace W0 := W0.trans (hw.wid (by omega) l4)
  clear hw C3 s3
  have HH_ := H; obtain ⟨c0, c1, c2, c3, _⟩ := HH_
  go_wp2_with fail
  refine (C4.out _ o).mono ?_
  rintro e w4 ⟨rfl, o', row, hg, hr⟩
  clear c0 c1 c2 c3
  have hw := Wrt.of_grown hg hr
  replace s1' := s1'.wrt hw (.inl (by omega))
  replace s2' := s2'.wrt hw (.inl l3)
  replace s3' := s3'.wrt hw (.inl (Nat.le_refl _))
  replace W0 := W0.trans (hw.wid (by omega) (Nat.le_refl _))
  clear hw hg hr C4 o H
  go_wp2
  go_ret
  exact ⟨rfl, fin.out _ s1' s2' s3' o', W0⟩
set_option maxRecDepth 100000 in
set_option maxHeartbeats 8000000 in
theorem marklit_S (x : At) (no : Bool) (lo hi k : Nat) (hF : AtF 1048576 x) (hk0 : 0 < k) (hk : k + atSz x + x.m ≤ 1000000000000) (w : World) (hh : hi ≤ w.heap.size) (A1 : Option Addr) (c1 : Nat) (A2 : Option Addr) (c2 : Nat) (A3 : Option Addr) (c3 : Nat) (A4 : Option Addr) (c4 : Nat) (hA : LtS w x lo hi A1 A2 A3 A4) :
    Calls Try.prog 73 #[.agg (x.lit no A1 c1 A2 c2 A3 c3 A4 c4), .int .i64 (k : Int)] w fun e w' => e = .returned (.int .i64 ((mkN3 x k + x.m : Nat) : Int)) ∧ LtS w' (mkA x k) lo hi A1 A2 A3 A4 ∧ Wrt lo hi w w' := by
  have q0 := bal (Below.refl w.heap.size w) (.cells (x.lit no A1 c1 A2 c2 A3 c3 A4 c4) 104)
  have C := markatom_S x lo hi k hF hk0 hk _ (Nat.le_trans hh q0.size) A1 c1 A2 c2 A3 c3 A4 c4 (hA.below q0)
  clear hA hF hk hh hk0
  generalize mkA x k = y at C ⊢
  generalize mkN3 x k + x.m = K at C ⊢
  obtain ⟨kd, a, b, n, kid, m, Z, bd, st⟩ := x
  simp only [At.cs, At.lit] at C q0
  simp only [At.lit]
  replace C := hid C
  go_enter Try.func73, Try.ntmps73
  go_wp2_with fail
  refine C.out.mono ?_
  rintro e w1 ⟨rfl, hs, hw⟩
  go_wp2
  go_ret
  exact ⟨rfl, hs, (Wrt.ofLt q0).trans hw⟩
end Go.Proofs.Ytanfljajafelgaa
