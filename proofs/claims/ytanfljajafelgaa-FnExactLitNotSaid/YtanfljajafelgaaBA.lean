/- Several texts in one: AtA, AtB. -/
import Derived.Test.YtanfljajafelgaaTsW
import Derived.Test.YtanfljajafelgaaEqI
namespace Go.Proofs.Ytanfljajafelgaa
set_option linter.unusedVariables false
set_option linter.unusedSimpArgs false
open Go.RowKit
/-- what an atom says -/
structure At where
  kd : Int
  a : Tm
  b : Tm
  n : Nat
  kid : Nat → Tm
  m : Nat
  Z : Nat → Int
  bd : Int
  st : Bool
/-- an atom with its slices -/
def At.cs (x : At) (A1 : Option Addr) (c1 : Nat) (A2 : Option Addr) (c2 : Nat) (A3 : Option Addr) (c3 : Nat) (A4 : Option Addr) (c4 : Nat) : Array Value :=
  #[.int .i64 x.kd, .string x.a.nm, .slice A1 x.a.n c1, .string x.b.nm, .slice A2 x.b.n c2, .slice A3 x.n c3, .slice A4 x.m c4, .int .i64 x.bd, .bool x.st]
/-- the slices of an atom are read -/
def AtK (w : World) (x : At) (A1 A2 A3 A4 : Option Addr) : Prop := Kids 0 w x.a A1 ∧ Kids 0 w x.b A2 ∧ Kids 0 w (.mk ⟨#[]⟩ x.n x.kid) A3 ∧ Ints w A4 x.m x.Z
theorem AtK.below {w w' : World} {x : At} {A1 A2 A3 A4 : Option Addr} (h : AtK w x A1 A2 A3 A4) (hb : Below w.heap.size w w') : AtK w' x A1 A2 A3 A4 :=
  ⟨h.1.below hb, h.2.1.below hb, h.2.2.1.below hb, h.2.2.2.below hb⟩
/-- .. in blocks of terms -/
def AtT (w : World) (x : At) (A1 A2 A3 A4 : Option Addr) : Prop := KidT 0 w x.a A1 ∧ KidT 0 w x.b A2 ∧ KidT 0 w (.mk ⟨#[]⟩ x.n x.kid) A3 ∧ (∃ g, A3 = some ⟨g, 0, none⟩) ∧ Ints w A4 x.m x.Z
theorem AtT.below {w w' : World} {x : At} {A1 A2 A3 A4 : Option Addr} (h : AtT w x A1 A2 A3 A4) (hb : Below w.heap.size w w') : AtT w' x A1 A2 A3 A4 :=
  ⟨h.1.keep (KpT.below hb), h.2.1.keep (KpT.below hb), h.2.2.1.keep (KpT.below hb), h.2.2.2.1, h.2.2.2.2.below hb⟩
theorem AtT.k {w : World} {x : At} {A1 A2 A3 A4 : Option Addr} (h : AtT w x A1 A2 A3 A4) : AtK w x A1 A2 A3 A4 := ⟨h.1.kids, h.2.1.kids, h.2.2.1.kids, h.2.2.2.2⟩
/-- no part of an atom is longer than m -/
def AtF (M : Nat) (x : At) : Prop := Fits M x.a ∧ Fits M x.b ∧ x.n ≤ M ∧ (∀ k, k < x.n → Fits M (x.kid k)) ∧ x.m ≤ M
theorem AtF.mono {M M' : Nat} {x : At} (h : M ≤ M') (hF : AtF M x) : AtF M' x :=
  ⟨hF.1.mono h, hF.2.1.mono h, Nat.le_trans hF.2.2.1 h, fun k hk => (hF.2.2.2.1 k hk).mono h, Nat.le_trans hF.2.2.2.2 h⟩
/-- how many terms there are in an atom -/
def atSz (x : At) : Nat := tSz x.a + tSz x.b + sumT x.n (fun k => tSz (x.kid k))
theorem szterms_any (n : Nat) (kid : Nat → Tm) (hn : n ≤ 9223372036854775807) (hF : ∀ k, k < n → Fits 9223372036854775807 (kid k)) (A : Option Addr) (c : Nat) (l : Int) (w : World) (hl : 0 ≤ l ∧ l ≤ 1048576) (hA : Kids 0 w (.mk ⟨#[]⟩ n kid) A) :
    Calls Try.prog 30 #[.slice A n c, .int .i64 l] w (SzUs w n kid l) :=
  sztermsU_of n kid hn (fun k hk a c l W hl hK => sztermU_any (kid k) (hF k hk) a c l W hl hK) ⟨#[]⟩ A c l w hl hA
theorem toterms_P (n : Nat) (kid : Nat → Tm) (hn : n ≤ 1048576) (hF : ∀ k, k < n → Fits 1048576 (kid k)) (A : Option Addr) (c : Nat) (w : World) (hA : Kids 0 w (.mk ⟨#[]⟩ n kid) A) :
    Calls Try.prog 34 #[.slice A n c] w (NewPs w n kid) :=
  totermsP_of n kid hn hF (fun k hk a c W h => totermP_any (kid k) (hF k hk) a c W h) ⟨#[]⟩ A c w hA
theorem eqterms_same (n : Nat) (kid : Nat → Tm) (hn : n ≤ 9223372036854775807) (hF : ∀ k, k < n → Fits 9223372036854775807 (kid k)) (A B : Option Addr) (c d : Nat) (w : World) (hA : Kids 0 w (.mk ⟨#[]⟩ n kid) A) (hB : Kids 0 w (.mk ⟨#[]⟩ n kid) B) :
    Calls Try.prog 36 #[.slice A n c, .slice B n d] w fun e w' => e = .returned (.bool true) ∧ Below w.heap.size w w' :=
  eqterms_of n kid hn (fun k hk a b c d W h1 h2 => eqterm_same (kid k) (hF k hk) a b c d W h1 h2) ⟨#[]⟩ A B c d w hA hB
/-- what the size of an atom answers -/
def SzA (w : World) (x : At) (l : Int) (e : Ending) (w' : World) : Prop :=
  ∃ r : Int, e = .returned (.int .i64 r) ∧ (r < 0 ∨ (0 ≤ r ∧ r + atSz x ≤ l + 2 ∧ AtF 1048576 x)) ∧ Below w.heap.size w w'
set_option maxRecDepth 100000 in
set_option maxHeartbeats 4000000 in
theorem szatom_any (x : At) (hF : AtF 9223372036854775807 x) (A1 : Option Addr) (c1 : Nat) (A2 : Option Addr) (c2 : Nat) (A3 : Option Addr) (c3 : Nat) (A4 : Option Addr) (c4 : Nat) (l : Int) (w : World) (hl : 0 ≤ l ∧ l ≤ 1048576) (hA : AtK w x A1 A2 A3 A4) :
    Calls Try.prog 61 #[.agg (x.cs A1 c1 A2 c2 A3 c3 A4 c4), .int .i64 l] w (SzA w x l) := by
  obtain ⟨kd, a, b, n, kid, m, Z, bd, st⟩ := x
  obtain ⟨f1, f2, f3, f4, f5⟩ := hF
  obtain ⟨k1, k2, k3, k4⟩ := hA
  simp only at f1 f2 f3 f4 f5 k1 k2 k3 k4
  simp only [At.cs]
  obtain ⟨l1, l2⟩ := hl
  have C1 := hid (fun W (h : Below w.heap.size w W) => sztermU_any a f1 A1 c1 l W ⟨l1, l2⟩ (k1.below h))
  have C2 := hid (fun W (r : Int) (hr : 0 ≤ r ∧ r ≤ 1048576) (h : Below w.heap.size w W) => sztermU_any b f2 A2 c2 r W hr (k2.below h))
  have C3 := hid (fun W (r : Int) (hr : 0 ≤ r ∧ r ≤ 1048576) (h : Below w.heap.size w W) => szterms_any n kid f3 f4 A3 c3 r W hr (k3.below h))
  have C4 := hid (fun W (r : Int) (hr : 0 ≤ r ∧ r ≤ 1048576) => szints_any A4 m c4 r W f5 hr)
  have pa := tSz_pos a; have pb := tSz_pos b
  clear f1 f2 f4 k1 k2 k3 k4
  have H : KcL [(w.heap.size, 1, .string a.nm), (w.heap.size, 2, .slice A1 a.n c1), (w.heap.size, 3, .string b.nm), (w.heap.size, 4, .slice A2 b.n c2), (w.heap.size, 5, .slice A3 n c3), (w.heap.size, 6, .slice A4 m c4)] (w.alloc (.cells #[.int .i64 kd, .string a.nm, .slice A1 a.n c1, .string b.nm, .slice A2 b.n c2, .slice A3 n c3, .slice A4 m c4, .int .i64 bd, .bool st] 91)) := ⟨by simp [go_sem], by simp [go_sem], by simp [go_sem], by simp [go_sem], by simp [go_sem], by simp [go_sem], trivial⟩
  have q0 := bal (Below.refl w.heap.size w) (.cells #[.int .i64 kd, .string a.nm, .slice A1 a.n c1, .string b.nm, .slice A2 b.n c2, .slice A3 n c3, .slice A4 m c4, .int .i64 bd, .bool st] 91)
  go_enter Try.func61, Try.ntmps61
  go_wp2_with fail
  refine (C1.out _ q0).mono ?_
  rintro e w1 ⟨r, rfl, hr, hq⟩
  replace H := H.below hq
  replace q0 := btr q0 hq
  clear hq C1
  rcases hr with hr | ⟨r1, r2, F1⟩
  · go_wp2
    go_ret
    exact ⟨-1, rfl, .inl (by omega), q0⟩
  have HF1 := hid F1; clear F1
  have HH_ := H; obtain ⟨c0, c1, c2, c3, c4, c5, _⟩ := HH_
  go_wp2_with fail
  refine (C2.out _ r ⟨r1, by omega⟩ q0).mono ?_
  rintro e w2 ⟨s, rfl, hs, hq⟩
  clear c0 c1 c2 c3 c4 c5
  replace H := H.below hq
  replace q0 := btr q0 hq
  clear hq C2
  rcases hs with hs | ⟨s1, s2, F2⟩
  · go_wp2
    go_ret
    exact ⟨-1, rfl, .inl (by omega), q0⟩
  have HF2 := hid F2; clear F2
  have HH_ := H; obtain ⟨c0, c1, c2, c3, c4, c5, _⟩ := HH_
  go_wp2_with fail
  refine (C3.out _ s ⟨s1, by omega⟩ q0).mono ?_
  rintro e w3 ⟨t, rfl, ht, hq⟩
  clear c0 c1 c2 c3 c4 c5
  replace H := H.below hq
  replace q0 := btr q0 hq
  clear hq C3
  rcases ht with ht | ⟨t1, t2, t3, F3⟩
  · go_wp2
    go_ret
    exact ⟨-1, rfl, .inl (by omega), q0⟩
  have HF3 := hid F3; clear F3
  have C := C4.out w3 t ⟨t1, by omega⟩
  have HH_ := H; obtain ⟨c0, c1, c2, c3, c4, c5, _⟩ := HH_
  by_cases hm : t < m
  · rw [if_pos hm] at C
    have HM := hid hm; clear hm
    go_wp2_with (go_at_call 130; refine C.mono ?_; rintro e w4 ⟨rfl, rfl⟩)
    go_ret
    exact ⟨-1, rfl, .inl (by omega), q0⟩
  · rw [if_neg hm] at C
    have ht0 : 0 ≤ t - (m : Int) := by omega
    have HM := hid hm; clear hm
    go_wp2_with (go_at_call 130; refine C.mono ?_; rintro e w4 ⟨rfl, rfl⟩)
    go_ret
    refine ⟨_, rfl, .inr ⟨ht0, ?_, ⟨HF1.out, HF2.out, t3, HF3.out, by have := HM.out; simp only; omega⟩⟩, q0⟩
    unfold atSz
    simp only
    omega
set_option maxRecDepth 100000 in
set_option maxHeartbeats 4000000 in
theorem eqatom_same (x : At) (hF : AtF 9223372036854775807 x) (A1 : Option Addr) (c1 : Nat) (A2 : Option Addr) (c2 : Nat) (A3 : Option Addr) (c3 : Nat) (A4 : Option Addr) (c4 : Nat) (B1 : Option Addr) (d1 : Nat) (B2 : Option Addr) (d2 : Nat) (B3 : Option Addr) (d3 : Nat) (B4 : Option Addr) (d4 : Nat) (w : World) (hA : AtK w x A1 A2 A3 A4) (hB : AtK w x B1 B2 B3 B4) :
    Calls Try.prog 65 #[.agg (x.cs A1 c1 A2 c2 A3 c3 A4 c4), .agg (x.cs B1 d1 B2 d2 B3 d3 B4 d4)] w fun e w' => e = .returned (.bool true) ∧ Below w.heap.size w w' := by
  obtain ⟨kd, a, b, n, kid, m, Z, bd, st⟩ := x
  obtain ⟨f1, f2, f3, f4, f5⟩ := hF
  obtain ⟨k1, k2, k3, k4⟩ := hA
  obtain ⟨j1, j2, j3, j4⟩ := hB
  simp only at f1 f2 f3 f4 f5 k1 k2 k3 k4 j1 j2 j3 j4
  simp only [At.cs]
  have C1 := hid (fun W (h : Below w.heap.size w W) => eqterm_same a f1 A1 B1 c1 d1 W (k1.below h) (j1.below h))
  have C2 := hid (fun W (h : Below w.heap.size w W) => eqterm_same b f2 A2 B2 c2 d2 W (k2.below h) (j2.below h))
  have C3 := hid (fun W (h : Below w.heap.size w W) => eqterms_same n kid f3 f4 A3 B3 c3 d3 W (k3.below h) (j3.below h))
  have C4 := hid (fun W (h : Below w.heap.size w W) => eqints_same A4 B4 m c4 d4 Z W f5 (k4.below h) (j4.below h))
  clear f1 f2 f4 k1 k2 k3 k4 j1 j2 j3 j4
  have e1 : (kd != kd) = false := by simp
  have e2 : (bd != bd) = false := by simp
  have e3 : (st != st) = false := by simp
  have H : KcL [(w.heap.size, 0, .int .i64 kd), (w.heap.size, 1, .string a.nm), (w.heap.size, 2, .slice A1 a.n c1), (w.heap.size, 3, .string b.nm), (w.heap.size, 4, .slice A2 b.n c2), (w.heap.size, 5, .slice A3 n c3), (w.heap.size, 6, .slice A4 m c4), (w.heap.size, 7, .int .i64 bd), (w.heap.size, 8, .bool st), (w.heap.size + 1, 0, .int .i64 kd), (w.heap.size + 1, 1, .string a.nm), (w.heap.size + 1, 2, .slice B1 a.n d1), (w.heap.size + 1, 3, .string b.nm), (w.heap.size + 1, 4, .slice B2 b.n d2), (w.heap.size + 1, 5, .slice B3 n d3), (w.heap.size + 1, 6, .slice B4 m d4), (w.heap.size + 1, 7, .int .i64 bd), (w.heap.size + 1, 8, .bool st)] ((w.alloc (.cells #[.int .i64 kd, .string a.nm, .slice A1 a.n c1, .string b.nm, .slice A2 b.n c2, .slice A3 n c3, .slice A4 m c4, .int .i64 bd, .bool st] 95)).alloc (.cells #[.int .i64 kd, .string a.nm, .slice B1 a.n d1, .string b.nm, .slice B2 b.n d2, .slice B3 n d3, .slice B4 m d4, .int .i64 bd, .bool st] 95)) := by
    refine ⟨?_, ?_, ?_, ?_, ?_, ?_, ?_, ?_, ?_, ?_, ?_, ?_, ?_, ?_, ?_, ?_, ?_, ?_, trivial⟩ <;> simp [go_sem]
  have q0 := bal (bal (Below.refl w.heap.size w) (.cells #[.int .i64 kd, .string a.nm, .slice A1 a.n c1, .string b.nm, .slice A2 b.n c2, .slice A3 n c3, .slice A4 m c4, .int .i64 bd, .bool st] 95)) (.cells #[.int .i64 kd, .string a.nm, .slice B1 a.n d1, .string b.nm, .slice B2 b.n d2, .slice B3 n d3, .slice B4 m d4, .int .i64 bd, .bool st] 95)
  go_enter Try.func65, Try.ntmps65
  have HH_ := H; obtain ⟨c0, c1, c2, c3, c4, c5, c6, c7, c8, c9, c10, c11, c12, c13, c14, c15, c16, c17, _⟩ := HH_
  go_wp2_with fail
  refine (C1.out _ q0).mono ?_
  rintro e w1 ⟨rfl, hq⟩
  clear c0 c1 c2 c3 c4 c5 c6 c7 c8 c9 c10 c11 c12 c13 c14 c15 c16 c17
  replace H := H.below hq
  replace q0 := btr q0 hq
  clear hq C1
  have HH_ := H; obtain ⟨c0, c1, c2, c3, c4, c5, c6, c7, c8, c9, c10, c11, c12, c13, c14, c15, c16, c17, _⟩ := HH_
  go_wp2_with fail
  refine (C2.out _ q0).mono ?_
  rintro e w2 ⟨rfl, hq⟩
  clear c0 c1 c2 c3 c4 c5 c6 c7 c8 c9 c10 c11 c12 c13 c14 c15 c16 c17
  replace H := H.below hq
  replace q0 := btr q0 hq
  clear hq C2
  have HH_ := H; obtain ⟨c0, c1, c2, c3, c4, c5, c6, c7, c8, c9, c10, c11, c12, c13, c14, c15, c16, c17, _⟩ := HH_
  go_wp2_with fail
  refine (C3.out _ q0).mono ?_
  rintro e w3 ⟨rfl, hq⟩
  clear c0 c1 c2 c3 c4 c5 c6 c7 c8 c9 c10 c11 c12 c13 c14 c15 c16 c17
  replace H := H.below hq
  replace q0 := btr q0 hq
  clear hq C3
  have HH_ := H; obtain ⟨c0, c1, c2, c3, c4, c5, c6, c7, c8, c9, c10, c11, c12, c13, c14, c15, c16, c17, _⟩ := HH_
  go_wp2_with fail
  refine (C4.out _ q0).mono ?_
  rintro e w4 ⟨rfl, hq⟩
  clear c0 c1 c2 c3 c4 c5 c6 c7 c8 c9 c10 c11 c12 c13 c14 c15 c16 c17
  replace H := H.below hq
  replace q0 := btr q0 hq
  clear hq C4
  have HH_ := H; obtain ⟨c0, c1, c2, c3, c4, c5, c6, c7, c8, c9, c10, c11, c12, c13, c14, c15, c16, c17, _⟩ := HH_
  go_wp2
  go_ret
  exact ⟨rfl, q0⟩
end Go.Proofs.Ytanfljajafelgaa

namespace Go.Proofs.Ytanfljajafelgaa
set_option linter.unusedVariables false
set_option linter.unusedSimpArgs false
open Go.RowKit
def rowOf (cs : Array Value) (i : Nat) : Value := cs[i]?.getD undef
theorem row_newA (w : World) (cs : Array Value) (t : TypeId) : (w.alloc (.cells cs t)).rowIs w.heap.size t cs.size (rowOf cs) := World.rowIs_alloc w cs t _ (fun i hi => by simp [rowOf, hi])
/-- an atom of new memory, handed back -/
def NewA (W : World) (x : At) (e : Ending) (w' : World) : Prop :=
  ∃ A1 A2 A3 A4, e = .returned (.agg (x.cs A1 x.a.n A2 x.b.n A3 x.n A4 x.m)) ∧ AtT w' x A1 A2 A3 A4 ∧ Below W.heap.size W w'
theorem KidT.setN {B p o : Nat} {w : World} {t : Tm} {A : Option Addr} (v : Value) (hp : p < B) (h : KidT B w t A) : KidT B (w.setCell ⟨p, o, none⟩ v) t A := h.set v hp
set_option maxRecDepth 100000 in
set_option maxHeartbeats 8000000 in
theorem toatom_any (x : At) (hF : AtF 1048576 x) (A1 : Option Addr) (c1 : Nat) (A2 : Option Addr) (c2 : Nat) (A3 : Option Addr) (c3 : Nat) (A4 : Option Addr) (c4 : Nat) (w : World) (hA : AtK w x A1 A2 A3 A4) :
    Calls Try.prog 63 #[.agg (x.cs A1 c1 A2 c2 A3 c3 A4 c4)] w (NewA w x) := by
  obtain ⟨kd, a, b, n, kid, m, Z, bd, st⟩ := x
  obtain ⟨f1, f2, f3, f4, f5⟩ := hF
  obtain ⟨k1, k2, k3, k4⟩ := hA
  simp only at f1 f2 f3 f4 f5 k1 k2 k3 k4
  simp only [At.cs]
  have C1 := hid (fun W (h : Below w.heap.size w W) => totermP_any a f1 A1 c1 W (k1.below h))
  have C2 := hid (fun W (h : Below w.heap.size w W) => totermP_any b f2 A2 c2 W (k2.below h))
  have C3 := hid (fun W (h : Below w.heap.size w W) => toterms_P n kid f3 f4 A3 c3 W (k3.below h))
  have C4 := hid (fun W (h : Below w.heap.size w W) => toints_any A4 m c4 Z W f5 (k4.below h))
  clear f1 f2 f4 k1 k2 k3 k4
  have H : KcL [(w.heap.size, 1, .string a.nm), (w.heap.size, 2, .slice A1 a.n c1), (w.heap.size, 3, .string b.nm), (w.heap.size, 4, .slice A2 b.n c2), (w.heap.size, 5, .slice A3 n c3), (w.heap.size, 6, .slice A4 m c4), (w.heap.size, 7, .int .i64 bd), (w.heap.size, 8, .bool st)] (((w.alloc (.cells #[.int .i64 kd, .string a.nm, .slice A1 a.n c1, .string b.nm, .slice A2 b.n c2, .slice A3 n c3, .slice A4 m c4, .int .i64 bd, .bool st] 91)).alloc (.cells #[.int .i64 0, .string ⟨#[]⟩, .slice none 0 0, .string ⟨#[]⟩, .slice none 0 0, .slice none 0 0, .slice none 0 0, .int .i64 0, .bool false] 95)).alloc (.cells #[.int .i64 kd, .string ⟨#[]⟩, .slice none 0 0, .string ⟨#[]⟩, .slice none 0 0, .slice none 0 0, .slice none 0 0, .int .i64 0, .bool false] 95)) := by
    refine ⟨?_, ?_, ?_, ?_, ?_, ?_, ?_, ?_, trivial⟩ <;> simp [go_sem]
  have q0 : Below w.heap.size w (((w.alloc (.cells #[.int .i64 kd, .string a.nm, .slice A1 a.n c1, .string b.nm, .slice A2 b.n c2, .slice A3 n c3, .slice A4 m c4, .int .i64 bd, .bool st] 91)).alloc (.cells #[.int .i64 0, .string ⟨#[]⟩, .slice none 0 0, .string ⟨#[]⟩, .slice none 0 0, .slice none 0 0, .slice none 0 0, .int .i64 0, .bool false] 95)).alloc (.cells #[.int .i64 kd, .string ⟨#[]⟩, .slice none 0 0, .string ⟨#[]⟩, .slice none 0 0, .slice none 0 0, .slice none 0 0, .int .i64 0, .bool false] 95)) := bal (bal (bal (Below.refl _ _) _) _) _
  have R2 : (((w.alloc (.cells #[.int .i64 kd, .string a.nm, .slice A1 a.n c1, .string b.nm, .slice A2 b.n c2, .slice A3 n c3, .slice A4 m c4, .int .i64 bd, .bool st] 91)).alloc (.cells #[.int .i64 0, .string ⟨#[]⟩, .slice none 0 0, .string ⟨#[]⟩, .slice none 0 0, .slice none 0 0, .slice none 0 0, .int .i64 0, .bool false] 95)).alloc (.cells #[.int .i64 kd, .string ⟨#[]⟩, .slice none 0 0, .string ⟨#[]⟩, .slice none 0 0, .slice none 0 0, .slice none 0 0, .int .i64 0, .bool false] 95)).rowIs (w.heap.size + 1) 95 9 (rowOf #[.int .i64 0, .string ⟨#[]⟩, .slice none 0 0, .string ⟨#[]⟩, .slice none 0 0, .slice none 0 0, .slice none 0 0, .int .i64 0, .bool false]) := by
    have h := (row_newA (w.alloc (.cells #[.int .i64 kd, .string a.nm, .slice A1 a.n c1, .string b.nm, .slice A2 b.n c2, .slice A3 n c3, .slice A4 m c4, .int .i64 bd, .bool st] 91)) #[.int .i64 0, .string ⟨#[]⟩, .slice none 0 0, .string ⟨#[]⟩, .slice none 0 0, .slice none 0 0, .slice none 0 0, .int .i64 0, .bool false] 95).alloc (.cells #[.int .i64 kd, .string ⟨#[]⟩, .slice none 0 0, .string ⟨#[]⟩, .slice none 0 0, .slice none 0 0, .slice none 0 0, .int .i64 0, .bool false] 95)
    rw [World.size_alloc] at h
    exact h
  have R3 : (((w.alloc (.cells #[.int .i64 kd, .string a.nm, .slice A1 a.n c1, .string b.nm, .slice A2 b.n c2, .slice A3 n c3, .slice A4 m c4, .int .i64 bd, .bool st] 91)).alloc (.cells #[.int .i64 0, .string ⟨#[]⟩, .slice none 0 0, .string ⟨#[]⟩, .slice none 0 0, .slice none 0 0, .slice none 0 0, .int .i64 0, .bool false] 95)).alloc (.cells #[.int .i64 kd, .string ⟨#[]⟩, .slice none 0 0, .string ⟨#[]⟩, .slice none 0 0, .slice none 0 0, .slice none 0 0, .int .i64 0, .bool false] 95)).rowIs (w.heap.size + 1 + 1) 95 9 (rowOf #[.int .i64 kd, .string ⟨#[]⟩, .slice none 0 0, .string ⟨#[]⟩, .slice none 0 0, .slice none 0 0, .slice none 0 0, .int .i64 0, .bool false]) := by
    have h := row_newA ((w.alloc (.cells #[.int .i64 kd, .string a.nm, .slice A1 a.n c1, .string b.nm, .slice A2 b.n c2, .slice A3 n c3, .slice A4 m c4, .int .i64 bd, .bool st] 91)).alloc (.cells #[.int .i64 0, .string ⟨#[]⟩, .slice none 0 0, .string ⟨#[]⟩, .slice none 0 0, .slice none 0 0, .slice none 0 0, .int .i64 0, .bool false] 95)) #[.int .i64 kd, .string ⟨#[]⟩, .slice none 0 0, .string ⟨#[]⟩, .slice none 0 0, .slice none 0 0, .slice none 0 0, .int .i64 0, .bool false] 95
    rw [World.size_alloc, World.size_alloc] at h
    exact h
  have zz : w.heap.size + 3 ≤ (((w.alloc (.cells #[.int .i64 kd, .string a.nm, .slice A1 a.n c1, .string b.nm, .slice A2 b.n c2, .slice A3 n c3, .slice A4 m c4, .int .i64 bd, .bool st] 91)).alloc (.cells #[.int .i64 0, .string ⟨#[]⟩, .slice none 0 0, .string ⟨#[]⟩, .slice none 0 0, .slice none 0 0, .slice none 0 0, .int .i64 0, .bool false] 95)).alloc (.cells #[.int .i64 kd, .string ⟨#[]⟩, .slice none 0 0, .string ⟨#[]⟩, .slice none 0 0, .slice none 0 0, .slice none 0 0, .int .i64 0, .bool false] 95)).heap.size := by simp
  go_enter Try.func63, Try.ntmps63
  go_wp2_with fail
  generalize ((w.alloc (.cells #[.int .i64 kd, .string a.nm, .slice A1 a.n c1, .string b.nm, .slice A2 b.n c2, .slice A3 n c3, .slice A4 m c4, .int .i64 bd, .bool st] 91)).alloc (.cells #[.int .i64 0, .string ⟨#[]⟩, .slice none 0 0, .string ⟨#[]⟩, .slice none 0 0, .slice none 0 0, .slice none 0 0, .int .i64 0, .bool false] 95)).alloc (.cells #[.int .i64 kd, .string ⟨#[]⟩, .slice none 0 0, .string ⟨#[]⟩, .slice none 0 0, .slice none 0 0, .slice none 0 0, .int .i64 0, .bool false] 95) = w0 at *
  refine (C1.out _ q0).mono ?_
  rintro e w1 ⟨D1, rfl, O1, hq⟩
  replace O1 := O1.mono zz
  replace H := H.below hq
  replace q0 := btr q0 hq
  replace R2 := row_below R2 hq
  replace R3 := row_below R3 hq
  replace zz := Nat.le_trans zz hq.size
  clear hq C1
  have HH_ := H; obtain ⟨c0, c1, c2, c3, c4, c5, c6, c7, _⟩ := HH_
  have l0 := cell_lt c0
  have g1 := R3.cell (i := 1) (by omega)
  have f1 : w1.frozen? ⟨w.heap.size + 1 + 1, 1, none⟩ = false := R3.frozen _
  have g2 := R3.cell (i := 2) (by omega)
  have f2 : w1.frozen? ⟨w.heap.size + 1 + 1, 2, none⟩ = false := R3.frozen _
  go_wp2_with fail
  replace H := H.keep (grow_set _ (w.heap.size + 1 + 1) 1 (.string a.nm)) (fun e he g hg => by cases hg; simp at he; rcases he with rfl | rfl | rfl | rfl | rfl | rfl | rfl | rfl <;> simp <;> omega)
  replace q0 := bst q0 (p := ⟨w.heap.size + 1 + 1, 1, none⟩) (show w.heap.size ≤ w.heap.size + 1 + 1 by omega) (.string a.nm)
  replace R2 := R2.setOther (a := ⟨w.heap.size + 1 + 1, 1, none⟩) (by simp) (.string a.nm)
  replace R3 := R3.set 1 (.string a.nm)
  replace O1 := O1.set (p := w.heap.size + 1 + 1) (o := 1) (.string a.nm) (by omega)
  replace H := H.keep (grow_set _ (w.heap.size + 1 + 1) 2 (.slice D1 a.n a.n)) (fun e he g hg => by cases hg; simp at he; rcases he with rfl | rfl | rfl | rfl | rfl | rfl | rfl | rfl <;> simp <;> omega)
  replace q0 := bst q0 (p := ⟨w.heap.size + 1 + 1, 2, none⟩) (show w.heap.size ≤ w.heap.size + 1 + 1 by omega) (.slice D1 a.n a.n)
  replace R2 := R2.setOther (a := ⟨w.heap.size + 1 + 1, 2, none⟩) (by simp) (.slice D1 a.n a.n)
  replace R3 := R3.set 2 (.slice D1 a.n a.n)
  replace O1 := O1.set (p := w.heap.size + 1 + 1) (o := 2) (.slice D1 a.n a.n) (by omega)
  replace zz : w.heap.size + 3 ≤ ((w1.setCell ⟨w.heap.size + 1 + 1, 1, none⟩ (.string a.nm)).setCell ⟨w.heap.size + 1 + 1, 2, none⟩ (.slice D1 a.n a.n)).heap.size := by simpa [World.setCell] using zz
  clear c0 c1 c2 c3 c4 c5 c6 c7 l0 g1 f1 g2 f2
  refine (C2.out _ q0).mono ?_
  rintro e w2 ⟨D2, rfl, O2, hq⟩
  replace O2 := O2.mono zz
  replace H := H.below hq
  replace q0 := btr q0 hq
  replace R2 := row_below R2 hq
  replace R3 := row_below R3 hq
  replace O1 := O1.keep (KpT.below hq)
  replace zz := Nat.le_trans zz hq.size
  clear hq C2
  have HH_ := H; obtain ⟨c0, c1, c2, c3, c4, c5, c6, c7, _⟩ := HH_
  have l0 := cell_lt c0
  have g3 := R3.cell (i := 3) (by omega)
  have f3 : w2.frozen? ⟨w.heap.size + 1 + 1, 3, none⟩ = false := R3.frozen _
  have g4 := R3.cell (i := 4) (by omega)
  have f4 : w2.frozen? ⟨w.heap.size + 1 + 1, 4, none⟩ = false := R3.frozen _
  go_wp2_with fail
  replace H := H.keep (grow_set _ (w.heap.size + 1 + 1) 3 (.string b.nm)) (fun e he g hg => by cases hg; simp at he; rcases he with rfl | rfl | rfl | rfl | rfl | rfl | rfl | rfl <;> simp <;> omega)
  replace q0 := bst q0 (p := ⟨w.heap.size + 1 + 1, 3, none⟩) (show w.heap.size ≤ w.heap.size + 1 + 1 by omega) (.string b.nm)
  replace R2 := R2.setOther (a := ⟨w.heap.size + 1 + 1, 3, none⟩) (by simp) (.string b.nm)
  replace R3 := R3.set 3 (.string b.nm)
  replace O1 := O1.set (p := w.heap.size + 1 + 1) (o := 3) (.string b.nm) (by omega)
  replace O2 := O2.set (p := w.heap.size + 1 + 1) (o := 3) (.string b.nm) (by omega)
  replace H := H.keep (grow_set _ (w.heap.size + 1 + 1) 4 (.slice D2 b.n b.n)) (fun e he g hg => by cases hg; simp at he; rcases he with rfl | rfl | rfl | rfl | rfl | rfl | rfl | rfl <;> simp <;> omega)
  replace q0 := bst q0 (p := ⟨w.heap.size + 1 + 1, 4, none⟩) (show w.heap.size ≤ w.heap.size + 1 + 1 by omega) (.slice D2 b.n b.n)
  replace R2 := R2.setOther (a := ⟨w.heap.size + 1 + 1, 4, none⟩) (by simp) (.slice D2 b.n b.n)
  replace R3 := R3.set 4 (.slice D2 b.n b.n)
  replace O1 := O1.set (p := w.heap.size + 1 + 1) (o := 4) (.slice D2 b.n b.n) (by omega)
  replace O2 := O2.set (p := w.heap.size + 1 + 1) (o := 4) (.slice D2 b.n b.n) (by omega)
  replace zz : w.heap.size + 3 ≤ ((w2.setCell ⟨w.heap.size + 1 + 1, 3, none⟩ (.string b.nm)).setCell ⟨w.heap.size + 1 + 1, 4, none⟩ (.slice D2 b.n b.n)).heap.size := by simpa [World.setCell] using zz
  clear c0 c1 c2 c3 c4 c5 c6 c7 l0 g3 f3 g4 f4
  refine (C3.out _ q0).mono ?_
  rintro e w3 ⟨D3, rfl, ⟨g3, rfl⟩, O3a, hq⟩
  have O3 := O3a ⟨#[]⟩
  clear O3a
  replace O3 := O3.mono zz
  replace H := H.below hq
  replace q0 := btr q0 hq
  replace R2 := row_below R2 hq
  replace R3 := row_below R3 hq
  replace O1 := O1.keep (KpT.below hq)
  replace O2 := O2.keep (KpT.below hq)
  replace zz := Nat.le_trans zz hq.size
  clear hq C3
  have HH_ := H; obtain ⟨c0, c1, c2, c3, c4, c5, c6, c7, _⟩ := HH_
  have l0 := cell_lt c0
  have g5 := R3.cell (i := 5) (by omega)
  have f5 : w3.frozen? ⟨w.heap.size + 1 + 1, 5, none⟩ = false := R3.frozen _
  go_wp2_with fail
  replace H := H.keep (grow_set _ (w.heap.size + 1 + 1) 5 (.slice (some ⟨g3, 0, none⟩) n n)) (fun e he g hg => by cases hg; simp at he; rcases he with rfl | rfl | rfl | rfl | rfl | rfl | rfl | rfl <;> simp <;> omega)
  replace q0 := bst q0 (p := ⟨w.heap.size + 1 + 1, 5, none⟩) (show w.heap.size ≤ w.heap.size + 1 + 1 by omega) (.slice (some ⟨g3, 0, none⟩) n n)
  replace R2 := R2.setOther (a := ⟨w.heap.size + 1 + 1, 5, none⟩) (by simp) (.slice (some ⟨g3, 0, none⟩) n n)
  replace R3 := R3.set 5 (.slice (some ⟨g3, 0, none⟩) n n)
  replace O1 := O1.set (p := w.heap.size + 1 + 1) (o := 5) (.slice (some ⟨g3, 0, none⟩) n n) (by omega)
  replace O2 := O2.set (p := w.heap.size + 1 + 1) (o := 5) (.slice (some ⟨g3, 0, none⟩) n n) (by omega)
  replace O3 := O3.set (p := w.heap.size + 1 + 1) (o := 5) (.slice (some ⟨g3, 0, none⟩) n n) (by omega)
  replace zz : w.heap.size + 3 ≤ (w3.setCell ⟨w.heap.size + 1 + 1, 5, none⟩ (.slice (some ⟨g3, 0, none⟩) n n)).heap.size := by simpa [World.setCell] using zz
  clear c0 c1 c2 c3 c4 c5 c6 c7 l0 g5 f5
  refine (C4.out _ q0).mono ?_
  rintro e w4 ⟨g4, rfl, hg4, hr4, hq⟩
  have zbb := zz
  have O4 : OwnI _ _ _ m Z := own_row hg4 hr4
  clear hr4 hg4
  replace H := H.below hq
  replace q0 := btr q0 hq
  replace R2 := row_below R2 hq
  replace R3 := row_below R3 hq
  replace O1 := O1.keep (KpT.below hq)
  replace O2 := O2.keep (KpT.below hq)
  replace O3 := O3.keep (KpT.below hq)
  replace zz := Nat.le_trans zz hq.size
  clear hq C4
  have HH_ := H; obtain ⟨c0, c1, c2, c3, c4, c5, c6, c7, _⟩ := HH_
  have l0 := cell_lt c0
  have g6 := R3.cell (i := 6) (by omega)
  have f6 : w4.frozen? ⟨w.heap.size + 1 + 1, 6, none⟩ = false := R3.frozen _
  have g7 := R3.cell (i := 7) (by omega)
  have f7 : w4.frozen? ⟨w.heap.size + 1 + 1, 7, none⟩ = false := R3.frozen _
  have g8 := R3.cell (i := 8) (by omega)
  have f8 : w4.frozen? ⟨w.heap.size + 1 + 1, 8, none⟩ = false := R3.frozen _
  have zb := hid zbb
  go_upto_region 9 with fail
  clear c0 c1 c2 c3 c4 c5 c6 c7 l0 g6 f6 g7 f7 g8 f8
  replace q0 := bst q0 (p := ⟨w.heap.size + 1 + 1, 6, none⟩) (show w.heap.size ≤ w.heap.size + 1 + 1 by omega) (.slice (some ⟨g4, 0, none⟩) m m)
  replace R2 := R2.setOther (a := ⟨w.heap.size + 1 + 1, 6, none⟩) (by simp) (.slice (some ⟨g4, 0, none⟩) m m)
  replace R3 := R3.set 6 (.slice (some ⟨g4, 0, none⟩) m m)
  replace O1 := O1.set (p := w.heap.size + 1 + 1) (o := 6) (.slice (some ⟨g4, 0, none⟩) m m) (by omega)
  replace O2 := O2.set (p := w.heap.size + 1 + 1) (o := 6) (.slice (some ⟨g4, 0, none⟩) m m) (by omega)
  replace O3 := O3.set (p := w.heap.size + 1 + 1) (o := 6) (.slice (some ⟨g4, 0, none⟩) m m) (by omega)
  replace O4 := O4.set (p := w.heap.size + 1 + 1) (o := 6) (.slice (some ⟨g4, 0, none⟩) m m) (by omega)
  replace q0 := bst q0 (p := ⟨w.heap.size + 1 + 1, 7, none⟩) (show w.heap.size ≤ w.heap.size + 1 + 1 by omega) (.int .i64 bd)
  replace R2 := R2.setOther (a := ⟨w.heap.size + 1 + 1, 7, none⟩) (by simp) (.int .i64 bd)
  replace R3 := R3.set 7 (.int .i64 bd)
  replace O1 := O1.set (p := w.heap.size + 1 + 1) (o := 7) (.int .i64 bd) (by omega)
  replace O2 := O2.set (p := w.heap.size + 1 + 1) (o := 7) (.int .i64 bd) (by omega)
  replace O3 := O3.set (p := w.heap.size + 1 + 1) (o := 7) (.int .i64 bd) (by omega)
  replace O4 := O4.set (p := w.heap.size + 1 + 1) (o := 7) (.int .i64 bd) (by omega)
  replace q0 := bst q0 (p := ⟨w.heap.size + 1 + 1, 8, none⟩) (show w.heap.size ≤ w.heap.size + 1 + 1 by omega) (.bool st)
  replace R2 := R2.setOther (a := ⟨w.heap.size + 1 + 1, 8, none⟩) (by simp) (.bool st)
  replace R3 := R3.set 8 (.bool st)
  replace O1 := O1.set (p := w.heap.size + 1 + 1) (o := 8) (.bool st) (by omega)
  replace O2 := O2.set (p := w.heap.size + 1 + 1) (o := 8) (.bool st) (by omega)
  replace O3 := O3.set (p := w.heap.size + 1 + 1) (o := 8) (.bool st) (by omega)
  replace O4 := O4.set (p := w.heap.size + 1 + 1) (o := 8) (.bool st) (by omega)
  generalize ((w4.setCell ⟨w.heap.size + 1 + 1, 6, none⟩ (.slice (some ⟨g4, 0, none⟩) m m)).setCell ⟨w.heap.size + 1 + 1, 7, none⟩ (.int .i64 bd)).setCell ⟨w.heap.size + 1 + 1, 8, none⟩ (.bool st) = X at *
  have k0 : X.cell? ⟨w.heap.size + 1 + 1, 0, none⟩ = some (.int .i64 kd) := R3.cell (i := 0) (by omega)
  have k1 : X.cell? ⟨w.heap.size + 1 + 1, 1, none⟩ = some (.string a.nm) := R3.cell (i := 1) (by omega)
  have k2 : X.cell? ⟨w.heap.size + 1 + 1, 2, none⟩ = some (.slice D1 a.n a.n) := R3.cell (i := 2) (by omega)
  have k3 : X.cell? ⟨w.heap.size + 1 + 1, 3, none⟩ = some (.string b.nm) := R3.cell (i := 3) (by omega)
  have k4 : X.cell? ⟨w.heap.size + 1 + 1, 4, none⟩ = some (.slice D2 b.n b.n) := R3.cell (i := 4) (by omega)
  have k5 : X.cell? ⟨w.heap.size + 1 + 1, 5, none⟩ = some (.slice (some ⟨g3, 0, none⟩) n n) := R3.cell (i := 5) (by omega)
  have k6 : X.cell? ⟨w.heap.size + 1 + 1, 6, none⟩ = some (.slice (some ⟨g4, 0, none⟩) m m) := R3.cell (i := 6) (by omega)
  have k7 : X.cell? ⟨w.heap.size + 1 + 1, 7, none⟩ = some (.int .i64 bd) := R3.cell (i := 7) (by omega)
  have k8 : X.cell? ⟨w.heap.size + 1 + 1, 8, none⟩ = some (.bool st) := R3.cell (i := 8) (by omega)
  have y0 : X.cell? ⟨w.heap.size + 1, 0, none⟩ = some (.int .i64 0) := R2.cell (i := 0) (by omega)
  have f0 : X.frozen? ⟨w.heap.size + 1, 0, none⟩ = false := R2.frozen _
  have y1 : X.cell? ⟨w.heap.size + 1, 1, none⟩ = some (.string ⟨#[]⟩) := R2.cell (i := 1) (by omega)
  have f1 : X.frozen? ⟨w.heap.size + 1, 1, none⟩ = false := R2.frozen _
  have y2 : X.cell? ⟨w.heap.size + 1, 2, none⟩ = some (.slice none 0 0) := R2.cell (i := 2) (by omega)
  have f2 : X.frozen? ⟨w.heap.size + 1, 2, none⟩ = false := R2.frozen _
  have y3 : X.cell? ⟨w.heap.size + 1, 3, none⟩ = some (.string ⟨#[]⟩) := R2.cell (i := 3) (by omega)
  have f3 : X.frozen? ⟨w.heap.size + 1, 3, none⟩ = false := R2.frozen _
  have y4 : X.cell? ⟨w.heap.size + 1, 4, none⟩ = some (.slice none 0 0) := R2.cell (i := 4) (by omega)
  have f4 : X.frozen? ⟨w.heap.size + 1, 4, none⟩ = false := R2.frozen _
  have y5 : X.cell? ⟨w.heap.size + 1, 5, none⟩ = some (.slice none 0 0) := R2.cell (i := 5) (by omega)
  have f5 : X.frozen? ⟨w.heap.size + 1, 5, none⟩ = false := R2.frozen _
  have y6 : X.cell? ⟨w.heap.size + 1, 6, none⟩ = some (.slice none 0 0) := R2.cell (i := 6) (by omega)
  have f6 : X.frozen? ⟨w.heap.size + 1, 6, none⟩ = false := R2.frozen _
  have y7 : X.cell? ⟨w.heap.size + 1, 7, none⟩ = some (.int .i64 0) := R2.cell (i := 7) (by omega)
  have f7 : X.frozen? ⟨w.heap.size + 1, 7, none⟩ = false := R2.frozen _
  have y8 : X.cell? ⟨w.heap.size + 1, 8, none⟩ = some (.bool false) := R2.cell (i := 8) (by omega)
  have f8 : X.frozen? ⟨w.heap.size + 1, 8, none⟩ = false := R2.frozen _
  have RF := hid (((((((((R2.set 0 (.int .i64 kd)).set 1 (.string a.nm)).set 2 (.slice D1 a.n a.n)).set 3 (.string b.nm)).set 4 (.slice D2 b.n b.n)).set 5 (.slice (some ⟨g3, 0, none⟩) n n)).set 6 (.slice (some ⟨g4, 0, none⟩) m m)).set 7 (.int .i64 bd)).set 8 (.bool st))
  have t0 : (((((((((X.setCell ⟨w.heap.size + 1, 0, none⟩ (.int .i64 kd)).setCell ⟨w.heap.size + 1, 1, none⟩ (.string a.nm)).setCell ⟨w.heap.size + 1, 2, none⟩ (.slice D1 a.n a.n)).setCell ⟨w.heap.size + 1, 3, none⟩ (.string b.nm)).setCell ⟨w.heap.size + 1, 4, none⟩ (.slice D2 b.n b.n)).setCell ⟨w.heap.size + 1, 5, none⟩ (.slice (some ⟨g3, 0, none⟩) n n)).setCell ⟨w.heap.size + 1, 6, none⟩ (.slice (some ⟨g4, 0, none⟩) m m)).setCell ⟨w.heap.size + 1, 7, none⟩ (.int .i64 bd)).setCell ⟨w.heap.size + 1, 8, none⟩ (.bool st)).cell? ⟨w.heap.size + 1, 0, none⟩ = some (.int .i64 kd) := RF.out.cell (i := 0) (by omega)
  have t1 : (((((((((X.setCell ⟨w.heap.size + 1, 0, none⟩ (.int .i64 kd)).setCell ⟨w.heap.size + 1, 1, none⟩ (.string a.nm)).setCell ⟨w.heap.size + 1, 2, none⟩ (.slice D1 a.n a.n)).setCell ⟨w.heap.size + 1, 3, none⟩ (.string b.nm)).setCell ⟨w.heap.size + 1, 4, none⟩ (.slice D2 b.n b.n)).setCell ⟨w.heap.size + 1, 5, none⟩ (.slice (some ⟨g3, 0, none⟩) n n)).setCell ⟨w.heap.size + 1, 6, none⟩ (.slice (some ⟨g4, 0, none⟩) m m)).setCell ⟨w.heap.size + 1, 7, none⟩ (.int .i64 bd)).setCell ⟨w.heap.size + 1, 8, none⟩ (.bool st)).cell? ⟨w.heap.size + 1, 1, none⟩ = some (.string a.nm) := RF.out.cell (i := 1) (by omega)
  have t2 : (((((((((X.setCell ⟨w.heap.size + 1, 0, none⟩ (.int .i64 kd)).setCell ⟨w.heap.size + 1, 1, none⟩ (.string a.nm)).setCell ⟨w.heap.size + 1, 2, none⟩ (.slice D1 a.n a.n)).setCell ⟨w.heap.size + 1, 3, none⟩ (.string b.nm)).setCell ⟨w.heap.size + 1, 4, none⟩ (.slice D2 b.n b.n)).setCell ⟨w.heap.size + 1, 5, none⟩ (.slice (some ⟨g3, 0, none⟩) n n)).setCell ⟨w.heap.size + 1, 6, none⟩ (.slice (some ⟨g4, 0, none⟩) m m)).setCell ⟨w.heap.size + 1, 7, none⟩ (.int .i64 bd)).setCell ⟨w.heap.size + 1, 8, none⟩ (.bool st)).cell? ⟨w.heap.size + 1, 2, none⟩ = some (.slice D1 a.n a.n) := RF.out.cell (i := 2) (by omega)
  have t3 : (((((((((X.setCell ⟨w.heap.size + 1, 0, none⟩ (.int .i64 kd)).setCell ⟨w.heap.size + 1, 1, none⟩ (.string a.nm)).setCell ⟨w.heap.size + 1, 2, none⟩ (.slice D1 a.n a.n)).setCell ⟨w.heap.size + 1, 3, none⟩ (.string b.nm)).setCell ⟨w.heap.size + 1, 4, none⟩ (.slice D2 b.n b.n)).setCell ⟨w.heap.size + 1, 5, none⟩ (.slice (some ⟨g3, 0, none⟩) n n)).setCell ⟨w.heap.size + 1, 6, none⟩ (.slice (some ⟨g4, 0, none⟩) m m)).setCell ⟨w.heap.size + 1, 7, none⟩ (.int .i64 bd)).setCell ⟨w.heap.size + 1, 8, none⟩ (.bool st)).cell? ⟨w.heap.size + 1, 3, none⟩ = some (.string b.nm) := RF.out.cell (i := 3) (by omega)
  have t4 : (((((((((X.setCell ⟨w.heap.size + 1, 0, none⟩ (.int .i64 kd)).setCell ⟨w.heap.size + 1, 1, none⟩ (.string a.nm)).setCell ⟨w.heap.size + 1, 2, none⟩ (.slice D1 a.n a.n)).setCell ⟨w.heap.size + 1, 3, none⟩ (.string b.nm)).setCell ⟨w.heap.size + 1, 4, none⟩ (.slice D2 b.n b.n)).setCell ⟨w.heap.size + 1, 5, none⟩ (.slice (some ⟨g3, 0, none⟩) n n)).setCell ⟨w.heap.size + 1, 6, none⟩ (.slice (some ⟨g4, 0, none⟩) m m)).setCell ⟨w.heap.size + 1, 7, none⟩ (.int .i64 bd)).setCell ⟨w.heap.size + 1, 8, none⟩ (.bool st)).cell? ⟨w.heap.size + 1, 4, none⟩ = some (.slice D2 b.n b.n) := RF.out.cell (i := 4) (by omega)
  have t5 : (((((((((X.setCell ⟨w.heap.size + 1, 0, none⟩ (.int .i64 kd)).setCell ⟨w.heap.size + 1, 1, none⟩ (.string a.nm)).setCell ⟨w.heap.size + 1, 2, none⟩ (.slice D1 a.n a.n)).setCell ⟨w.heap.size + 1, 3, none⟩ (.string b.nm)).setCell ⟨w.heap.size + 1, 4, none⟩ (.slice D2 b.n b.n)).setCell ⟨w.heap.size + 1, 5, none⟩ (.slice (some ⟨g3, 0, none⟩) n n)).setCell ⟨w.heap.size + 1, 6, none⟩ (.slice (some ⟨g4, 0, none⟩) m m)).setCell ⟨w.heap.size + 1, 7, none⟩ (.int .i64 bd)).setCell ⟨w.heap.size + 1, 8, none⟩ (.bool st)).cell? ⟨w.heap.size + 1, 5, none⟩ = some (.slice (some ⟨g3, 0, none⟩) n n) := RF.out.cell (i := 5) (by omega)
  have t6 : (((((((((X.setCell ⟨w.heap.size + 1, 0, none⟩ (.int .i64 kd)).setCell ⟨w.heap.size + 1, 1, none⟩ (.string a.nm)).setCell ⟨w.heap.size + 1, 2, none⟩ (.slice D1 a.n a.n)).setCell ⟨w.heap.size + 1, 3, none⟩ (.string b.nm)).setCell ⟨w.heap.size + 1, 4, none⟩ (.slice D2 b.n b.n)).setCell ⟨w.heap.size + 1, 5, none⟩ (.slice (some ⟨g3, 0, none⟩) n n)).setCell ⟨w.heap.size + 1, 6, none⟩ (.slice (some ⟨g4, 0, none⟩) m m)).setCell ⟨w.heap.size + 1, 7, none⟩ (.int .i64 bd)).setCell ⟨w.heap.size + 1, 8, none⟩ (.bool st)).cell? ⟨w.heap.size + 1, 6, none⟩ = some (.slice (some ⟨g4, 0, none⟩) m m) := RF.out.cell (i := 6) (by omega)
  have t7 : (((((((((X.setCell ⟨w.heap.size + 1, 0, none⟩ (.int .i64 kd)).setCell ⟨w.heap.size + 1, 1, none⟩ (.string a.nm)).setCell ⟨w.heap.size + 1, 2, none⟩ (.slice D1 a.n a.n)).setCell ⟨w.heap.size + 1, 3, none⟩ (.string b.nm)).setCell ⟨w.heap.size + 1, 4, none⟩ (.slice D2 b.n b.n)).setCell ⟨w.heap.size + 1, 5, none⟩ (.slice (some ⟨g3, 0, none⟩) n n)).setCell ⟨w.heap.size + 1, 6, none⟩ (.slice (some ⟨g4, 0, none⟩) m m)).setCell ⟨w.heap.size + 1, 7, none⟩ (.int .i64 bd)).setCell ⟨w.heap.size + 1, 8, none⟩ (.bool st)).cell? ⟨w.heap.size + 1, 7, none⟩ = some (.int .i64 bd) := RF.out.cell (i := 7) (by omega)
  have t8 : (((((((((X.setCell ⟨w.heap.size + 1, 0, none⟩ (.int .i64 kd)).setCell ⟨w.heap.size + 1, 1, none⟩ (.string a.nm)).setCell ⟨w.heap.size + 1, 2, none⟩ (.slice D1 a.n a.n)).setCell ⟨w.heap.size + 1, 3, none⟩ (.string b.nm)).setCell ⟨w.heap.size + 1, 4, none⟩ (.slice D2 b.n b.n)).setCell ⟨w.heap.size + 1, 5, none⟩ (.slice (some ⟨g3, 0, none⟩) n n)).setCell ⟨w.heap.size + 1, 6, none⟩ (.slice (some ⟨g4, 0, none⟩) m m)).setCell ⟨w.heap.size + 1, 7, none⟩ (.int .i64 bd)).setCell ⟨w.heap.size + 1, 8, none⟩ (.bool st)).cell? ⟨w.heap.size + 1, 8, none⟩ = some (.bool st) := RF.out.cell (i := 8) (by omega)
  have Q := hid q0; have P1 := hid O1; have P2 := hid O2; have P3 := hid O3; have P4 := hid O4
  clear O1 O2 O3 O4 R2 R3 q0 H
  go_wp2
  refine bodyPost_ret (v := .agg #[.int .i64 kd, .string a.nm, .slice D1 a.n a.n, .string b.nm, .slice D2 b.n b.n, .slice (some ⟨g3, 0, none⟩) n n, .slice (some ⟨g4, 0, none⟩) m m, .int .i64 bd, .bool st]) (by simp [results, Try.results63, go_sem, t0, t1, t2, t3, t4, t5, t6, t7, t8]) rfl ?_
  clear t0 t1 t2 t3 t4 t5 t6 t7 t8 k0 k1 k2 k3 k4 k5 k6 k7 k8 y0 y1 y2 y3 y4 y5 y6 y7 y8
  exact ⟨_, _, _, _, rfl, ⟨((((((((((P1.out.set (p := w.heap.size + 1) (o := 0) (.int .i64 kd) (by omega)).set (p := w.heap.size + 1) (o := 1) (.string a.nm) (by omega)).set (p := w.heap.size + 1) (o := 2) (.slice D1 a.n a.n) (by omega)).set (p := w.heap.size + 1) (o := 3) (.string b.nm) (by omega)).set (p := w.heap.size + 1) (o := 4) (.slice D2 b.n b.n) (by omega)).set (p := w.heap.size + 1) (o := 5) (.slice (some ⟨g3, 0, none⟩) n n) (by omega)).set (p := w.heap.size + 1) (o := 6) (.slice (some ⟨g4, 0, none⟩) m m) (by omega)).set (p := w.heap.size + 1) (o := 7) (.int .i64 bd) (by omega)).set (p := w.heap.size + 1) (o := 8) (.bool st) (by omega))).mono (Nat.zero_le _), ((((((((((P2.out.set (p := w.heap.size + 1) (o := 0) (.int .i64 kd) (by omega)).set (p := w.heap.size + 1) (o := 1) (.string a.nm) (by omega)).set (p := w.heap.size + 1) (o := 2) (.slice D1 a.n a.n) (by omega)).set (p := w.heap.size + 1) (o := 3) (.string b.nm) (by omega)).set (p := w.heap.size + 1) (o := 4) (.slice D2 b.n b.n) (by omega)).set (p := w.heap.size + 1) (o := 5) (.slice (some ⟨g3, 0, none⟩) n n) (by omega)).set (p := w.heap.size + 1) (o := 6) (.slice (some ⟨g4, 0, none⟩) m m) (by omega)).set (p := w.heap.size + 1) (o := 7) (.int .i64 bd) (by omega)).set (p := w.heap.size + 1) (o := 8) (.bool st) (by omega))).mono (Nat.zero_le _), ((((((((((P3.out.set (p := w.heap.size + 1) (o := 0) (.int .i64 kd) (by omega)).set (p := w.heap.size + 1) (o := 1) (.string a.nm) (by omega)).set (p := w.heap.size + 1) (o := 2) (.slice D1 a.n a.n) (by omega)).set (p := w.heap.size + 1) (o := 3) (.string b.nm) (by omega)).set (p := w.heap.size + 1) (o := 4) (.slice D2 b.n b.n) (by omega)).set (p := w.heap.size + 1) (o := 5) (.slice (some ⟨g3, 0, none⟩) n n) (by omega)).set (p := w.heap.size + 1) (o := 6) (.slice (some ⟨g4, 0, none⟩) m m) (by omega)).set (p := w.heap.size + 1) (o := 7) (.int .i64 bd) (by omega)).set (p := w.heap.size + 1) (o := 8) (.bool st) (by omega))).mono (Nat.zero_le _), ⟨_, rfl⟩, ((((((((((P4.out.set (p := w.heap.size + 1) (o := 0) (.int .i64 kd) (by have := zb.out; omega)).set (p := w.heap.size + 1) (o := 1) (.string a.nm) (by have := zb.out; omega)).set (p := w.heap.size + 1) (o := 2) (.slice D1 a.n a.n) (by have := zb.out; omega)).set (p := w.heap.size + 1) (o := 3) (.string b.nm) (by have := zb.out; omega)).set (p := w.heap.size + 1) (o := 4) (.slice D2 b.n b.n) (by have := zb.out; omega)).set (p := w.heap.size + 1) (o := 5) (.slice (some ⟨g3, 0, none⟩) n n) (by have := zb.out; omega)).set (p := w.heap.size + 1) (o := 6) (.slice (some ⟨g4, 0, none⟩) m m) (by have := zb.out; omega)).set (p := w.heap.size + 1) (o := 7) (.int .i64 bd) (by have := zb.out; omega)).set (p := w.heap.size + 1) (o := 8) (.bool st) (by have := zb.out; omega))).ints⟩, (bst (bst (bst (bst (bst (bst (bst (bst (bst Q.out (p := ⟨w.heap.size + 1, 0, none⟩) (show w.heap.size ≤ w.heap.size + 1 by omega) (.int .i64 kd)) (p := ⟨w.heap.size + 1, 1, none⟩) (show w.heap.size ≤ w.heap.size + 1 by omega) (.string a.nm)) (p := ⟨w.heap.size + 1, 2, none⟩) (show w.heap.size ≤ w.heap.size + 1 by omega) (.slice D1 a.n a.n)) (p := ⟨w.heap.size + 1, 3, none⟩) (show w.heap.size ≤ w.heap.size + 1 by omega) (.string b.nm)) (p := ⟨w.heap.size + 1, 4, none⟩) (show w.heap.size ≤ w.heap.size + 1 by omega) (.slice D2 b.n b.n)) (p := ⟨w.heap.size + 1, 5, none⟩) (show w.heap.size ≤ w.heap.size + 1 by omega) (.slice (some ⟨g3, 0, none⟩) n n)) (p := ⟨w.heap.size + 1, 6, none⟩) (show w.heap.size ≤ w.heap.size + 1 by omega) (.slice (some ⟨g4, 0, none⟩) m m)) (p := ⟨w.heap.size + 1, 7, none⟩) (show w.heap.size ≤ w.heap.size + 1 by omega) (.int .i64 bd)) (p := ⟨w.heap.size + 1, 8, none⟩) (show w.heap.size ≤ w.heap.size + 1 by omega) (.bool st))⟩
end Go.Proofs.Ytanfljajafelgaa
