/- Atoms that are read; contracts of the laws' helpers over them: the size, the copy, the comparison. -/
import Derived.Test.YtcnlolocppbcjaaTsW
import Derived.Test.YtcnlolocppbcjaaEqI
namespace Go.Proofs.Ytcnlolocppbcjaa
set_option linter.unusedVariables false
set_option linter.unusedSimpArgs false
open Go.RowKit
/-- what an atom says -/
structure At where
  kd : Int
  a : Tm
  b : Tm
  n : Nat
  kid : Nat → Tm
  m : Nat
  Z : Nat → Int
  bd : Int
  st : Bool
/-- an atom with its slices -/
def At.cs (x : At) (A1 : Option Addr) (c1 : Nat) (A2 : Option Addr) (c2 : Nat) (A3 : Option Addr) (c3 : Nat) (A4 : Option Addr) (c4 : Nat) : Array Value :=
  #[.int .i64 x.kd, .string x.a.nm, .slice A1 x.a.n c1, .string x.b.nm, .slice A2 x.b.n c2, .slice A3 x.n c3, .slice A4 x.m c4, .int .i64 x.bd, .bool x.st]
/-- the slices of an atom are read -/
def AtK (w : World) (x : At) (A1 A2 A3 A4 : Option Addr) : Prop := Kids 0 w x.a A1 ∧ Kids 0 w x.b A2 ∧ Kids 0 w (.mk ⟨#[]⟩ x.n x.kid) A3 ∧ Ints w A4 x.m x.Z
theorem AtK.below {w w' : World} {x : At} {A1 A2 A3 A4 : Option Addr} (h : AtK w x A1 A2 A3 A4) (hb : Below w.heap.size w w') : AtK w' x A1 A2 A3 A4 :=
  ⟨h.1.below hb, h.2.1.below hb, h.2.2.1.below hb, h.2.2.2.below hb⟩
/-- .. in blocks of terms -/
def AtT (w : World) (x : At) (A1 A2 A3 A4 : Option Addr) : Prop := KidT 0 w x.a A1 ∧ KidT 0 w x.b A2 ∧ KidT 0 w (.mk ⟨#[]⟩ x.n x.kid) A3 ∧ (∃ g, A3 = some ⟨g, 0, none⟩) ∧ Ints w A4 x.m x.Z
theorem AtT.below {w w' : World} {x : At} {A1 A2 A3 A4 : Option Addr} (h : AtT w x A1 A2 A3 A4) (hb : Below w.heap.size w w') : AtT w' x A1 A2 A3 A4 :=
  ⟨h.1.keep (KpT.below hb), h.2.1.keep (KpT.below hb), h.2.2.1.keep (KpT.below hb), h.2.2.2.1, h.2.2.2.2.below hb⟩
theorem AtT.k {w : World} {x : At} {A1 A2 A3 A4 : Option Addr} (h : AtT w x A1 A2 A3 A4) : AtK w x A1 A2 A3 A4 := ⟨h.1.kids, h.2.1.kids, h.2.2.1.kids, h.2.2.2.2⟩
/-- no part of an atom is longer than m -/
def AtF (M : Nat) (x : At) : Prop := Fits M x.a ∧ Fits M x.b ∧ x.n ≤ M ∧ (∀ k, k < x.n → Fits M (x.kid k)) ∧ x.m ≤ M
theorem AtF.mono {M M' : Nat} {x : At} (h : M ≤ M') (hF : AtF M x) : AtF M' x :=
  ⟨hF.1.mono h, hF.2.1.mono h, Nat.le_trans hF.2.2.1 h, fun k hk => (hF.2.2.2.1 k hk).mono h, Nat.le_trans hF.2.2.2.2 h⟩
/-- how many terms there are in an atom -/
def atSz (x : At) : Nat := tSz x.a + tSz x.b + sumT x.n (fun k => tSz (x.kid k))
theorem szterms_any (n : Nat) (kid : Nat → Tm) (hn : n ≤ 9223372036854775807) (hF : ∀ k, k < n → Fits 9223372036854775807 (kid k)) (A : Option Addr) (c : Nat) (l : Int) (w : World) (hl : 0 ≤ l ∧ l ≤ 1048576) (hA : Kids 0 w (.mk ⟨#[]⟩ n kid) A) :
    Calls Try.prog 26 #[.slice A n c, .int .i64 l] w (SzUs w n kid l) :=
  sztermsU_of n kid hn (fun k hk a c l W hl hK => sztermU_any (kid k) (hF k hk) a c l W hl hK) ⟨#[]⟩ A c l w hl hA
theorem toterms_P (n : Nat) (kid : Nat → Tm) (hn : n ≤ 1048576) (hF : ∀ k, k < n → Fits 1048576 (kid k)) (A : Option Addr) (c : Nat) (w : World) (hA : Kids 0 w (.mk ⟨#[]⟩ n kid) A) :
    Calls Try.prog 28 #[.slice A n c] w (NewPs w n kid) :=
  totermsP_of n kid hn hF (fun k hk a c W h => totermP_any (kid k) (hF k hk) a c W h) ⟨#[]⟩ A c w hA
theorem eqterms_same (n : Nat) (kid : Nat → Tm) (hn : n ≤ 9223372036854775807) (hF : ∀ k, k < n → Fits 9223372036854775807 (kid k)) (A B : Option Addr) (c d : Nat) (w : World) (hA : Kids 0 w (.mk ⟨#[]⟩ n kid) A) (hB : Kids 0 w (.mk ⟨#[]⟩ n kid) B) :
    Calls Try.prog 30 #[.slice A n c, .slice B n d] w fun e w' => e = .returned (.bool true) ∧ Below w.heap.size w w' :=
  eqterms_of n kid hn (fun k hk a b c d W h1 h2 => eqterm_same (kid k) (hF k hk) a b c d W h1 h2) ⟨#[]⟩ A B c d w hA hB
/-- what the size of an atom answers -/
def SzA (w : World) (x : At) (l : Int) (e : Ending) (w' : World) : Prop :=
  ∃ r : Int, e = .returned (.int .i64 r) ∧ (r < 0 ∨ (0 ≤ r ∧ r + atSz x ≤ l + 2 ∧ AtF 1048576 x)) ∧ Below w.heap.size w w'
set_option maxRecDepth 100000 in
set_option maxHeartbeats 4000000 in
theorem szatom_any (x : At) (hF : AtF 9223372036854775807 x) (A1 : Option Addr) (c1 : Nat) (A2 : Option Addr) (c2 : Nat) (A3 : Option Addr) (c3 : Nat) (A4 : Option Addr) (c4 : Nat) (l : Int) (w : World) (hl : 0 ≤ l ∧ l ≤ 1048576) (hA : AtK w x A1 A2 A3 A4) :
    Calls Try.prog 46 #[.agg (x.cs A1 c1 A2 c2 A3 c3 A4 c4), .int .i64 l] w (SzA w x l) := by
  obtain ⟨kd, a, b, n, kid, m, Z, bd, st⟩ := x
  obtain ⟨f1, f2, f3, f4, f5⟩ := hF
  obtain ⟨k1, k2, k3, k4⟩ := hA
  simp only at f1 f2 f3 f4 f5 k1 k2 k3 k4
  simp only [At.cs]
  obtain ⟨l1, l2⟩ := hl
  have C1 := hid (fun W (h : Below w.heap.size w W) => sztermU_any a f1 A1 c1 l W ⟨l1, l2⟩ (k1.below h))
  have C2 := hid (fun W (r : Int) (hr : 0 ≤ r ∧ r ≤ 1048576) (h : Below w.heap.size w W) => sztermU_any b f2 A2 c2 r W hr (k2.below h))
  have C3 := hid (fun W (r : Int) (hr : 0 ≤ r ∧ r ≤ 1048576) (h : Below w.heap.size w W) => szterms_any n kid f3 f4 A3 c3 r W hr (k3.below h))
  have C4 := hid (fun W (r : Int) (hr : 0 ≤ r ∧ r ≤ 1048576) => szints_any A4 m c4 r W f5 hr)
  have pa := tSz_pos a; have pb := tSz_pos b
  clear f1 f2 f4 k1 k2 k3 k4
  have H : KcL [(w.heap.size, 1, .string a.nm), (w.heap.size, 2, .slice A1 a.n c1), (w.heap.size, 3, .string b.nm), (w.heap.size, 4, .slice A2 b.n c2), (w.heap.size, 5, .slice A3 n c3), (w.heap.size, 6, .slice A4 m c4)] (w.alloc (.cells #[.int .i64 kd, .string a.nm, .slice A1 a.n c1, .string b.nm, .slice A2 b.n c2, .slice A3 n c3, .slice A4 m c4, .int .i64 bd, .bool st] 66)) := ⟨by simp [go_sem], by simp [go_sem], by simp [go_sem], by simp [go_sem], by simp [go_sem], by simp [go_sem], trivial⟩
  have q0 := bal (Below.refl w.heap.size w) (.cells #[.int .i64 kd, .string a.nm, .slice A1 a.n c1, .string b.nm, .slice A2 b.n c2, .slice A3 n c3, .slice A4 m c4, .int .i64 bd, .bool st] 66)
  go_enter Try.func46, Try.ntmps46
  go_wp2_with fail
  refine (C1.out _ q0).mono ?_
  rintro e w1 ⟨r, rfl, hr, hq⟩
  replace H := H.below hq
  replace q0 := btr q0 hq
  clear hq C1
  rcases hr with hr | ⟨r1, r2, F1⟩
  · go_wp2
    go_ret
    exact ⟨-1, rfl, .inl (by omega), q0⟩
  have HF1 := hid F1; clear F1
  have HH_ := H; obtain ⟨c0, c1, c2, c3, c4, c5, _⟩ := HH_
  go_wp2_with fail
  refine (C2.out _ r ⟨r1, by omega⟩ q0).mono ?_
  rintro e w2 ⟨s, rfl, hs, hq⟩
  clear c0 c1 c2 c3 c4 c5
  replace H := H.below hq
  replace q0 := btr q0 hq
  clear hq C2
  rcases hs with hs | ⟨s1, s2, F2⟩
  · go_wp2
    go_ret
    exact ⟨-1, rfl, .inl (by omega), q0⟩
  have HF2 := hid F2; clear F2
  have HH_ := H; obtain ⟨c0, c1, c2, c3, c4, c5, _⟩ := HH_
  go_wp2_with fail
  refine (C3.out _ s ⟨s1, by omega⟩ q0).mono ?_
  rintro e w3 ⟨t, rfl, ht, hq⟩
  clear c0 c1 c2 c3 c4 c5
  replace H := H.below hq
  replace q0 := btr q0 hq
  clear hq C3
  rcases ht with ht | ⟨t1, t2, t3, F3⟩
  · go_wp2
    go_ret
    exact ⟨-1, rfl, .inl (by omega), q0⟩
  have HF3 := hid F3; clear F3
  have C := C4.out w3 t ⟨t1, by omega⟩
  have HH_ := H; obtain ⟨c0, c1, c2, c3, c4, c5, _⟩ := HH_
  by_cases hm : t < m
  · rw [if_pos hm] at C
    have HM := hid hm; clear hm
    go_wp2_with (go_at_call 109; refine C.mono ?_; rintro e w4 ⟨rfl, rfl⟩)
    go_ret
    exact ⟨-1, rfl, .inl (by omega), q0⟩
  · rw [if_neg hm] at C
    have ht0 : 0 ≤ t - (m : Int) := by omega
    have HM := hid hm; clear hm
    go_wp2_with (go_at_call 109; refine C.mono ?_; rintro e w4 ⟨rfl, rfl⟩)
    go_ret
    refine ⟨_, rfl, .inr ⟨ht0, ?_, ⟨HF1.out, HF2.out, t3, HF3.out, by have := HM.out; simp only; omega⟩⟩, q0⟩
    unfold atSz
    simp only
    omega
set_option maxRecDepth 100000 in
set_option maxHeartbeats 4000000 in
theorem eqatom_same (x : At) (hF : AtF 9223372036854775807 x) (A1 : Option Addr) (c1 : Nat) (A2 : Option Addr) (c2 : Nat) (A3 : Option Addr) (c3 : Nat) (A4 : Option Addr) (c4 : Nat) (B1 : Option Addr) (d1 : Nat) (B2 : Option Addr) (d2 : Nat) (B3 : Option Addr) (d3 : Nat) (B4 : Option Addr) (d4 : Nat) (w : World) (hA : AtK w x A1 A2 A3 A4) (hB : AtK w x B1 B2 B3 B4) :
    Calls Try.prog 50 #[.agg (x.cs A1 c1 A2 c2 A3 c3 A4 c4), .agg (x.cs B1 d1 B2 d2 B3 d3 B4 d4)] w fun e w' => e = .returned (.bool true) ∧ Below w.heap.size w w' := by
  obtain ⟨kd, a, b, n, kid, m, Z, bd, st⟩ := x
  obtain ⟨f1, f2, f3, f4, f5⟩ := hF
  obtain ⟨k1, k2, k3, k4⟩ := hA
  obtain ⟨j1, j2, j3, j4⟩ := hB
  simp only at f1 f2 f3 f4 f5 k1 k2 k3 k4 j1 j2 j3 j4
  simp only [At.cs]
  have C1 := hid (fun W (h : Below w.heap.size w W) => eqterm_same a f1 A1 B1 c1 d1 W (k1.below h) (j1.below h))
  have C2 := hid (fun W (h : Below w.heap.size w W) => eqterm_same b f2 A2 B2 c2 d2 W (k2.below h) (j2.below h))
  have C3 := hid (fun W (h : Below w.heap.size w W) => eqterms_same n kid f3 f4 A3 B3 c3 d3 W (k3.below h) (j3.below h))
  have C4 := hid (fun W (h : Below w.heap.size w W) => eqints_same A4 B4 m c4 d4 Z W f5 (k4.below h) (j4.below h))
  clear f1 f2 f4 k1 k2 k3 k4 j1 j2 j3 j4
  have e1 : (kd != kd) = false := by simp
  have e2 : (bd != bd) = false := by simp
  have e3 : (st != st) = false := by simp
  have H : KcL [(w.heap.size, 0, .int .i64 kd), (w.heap.size, 1, .string a.nm), (w.heap.size, 2, .slice A1 a.n c1), (w.heap.size, 3, .string b.nm), (w.heap.size, 4, .slice A2 b.n c2), (w.heap.size, 5, .slice A3 n c3), (w.heap.size, 6, .slice A4 m c4), (w.heap.size, 7, .int .i64 bd), (w.heap.size, 8, .bool st), (w.heap.size + 1, 0, .int .i64 kd), (w.heap.size + 1, 1, .string a.nm), (w.heap.size + 1, 2, .slice B1 a.n d1), (w.heap.size + 1, 3, .string b.nm), (w.heap.size + 1, 4, .slice B2 b.n d2), (w.heap.size + 1, 5, .slice B3 n d3), (w.heap.size + 1, 6, .slice B4 m d4), (w.heap.size + 1, 7, .int .i64 bd), (w.heap.size + 1, 8, .bool st)] ((w.alloc (.cells #[.int .i64 kd, .string a.nm, .slice A1 a.n c1, .string b.nm, .slice A2 b.n c2, .slice A3 n c3, .slice A4 m c4, .int .i64 bd, .bool st] 70)).alloc (.cells #[.int .i64 kd, .string a.nm, .slice B1 a.n d1, .string b.nm, .slice B2 b.n d2, .slice B3 n d3, .slice B4 m d4, .int .i64 bd, .bool st] 70)) := by
    refine ⟨?_, ?_, ?_, ?_, ?_, ?_, ?_, ?_, ?_, ?_, ?_, ?_, ?_, ?_, ?_, ?_, ?_, ?_, trivial⟩ <;> simp [go_sem]
  have q0 := bal (bal (Below.refl w.heap.size w) (.cells #[.int .i64 kd, .string a.nm, .slice A1 a.n c1, .string b.nm, .slice A2 b.n c2, .slice A3 n c3, .slice A4 m c4, .int .i64 bd, .bool st] 70)) (.cells #[.int .i64 kd, .string a.nm, .slice B1 a.n d1, .string b.nm, .slice B2 b.n d2, .slice B3 n d3, .slice B4 m d4, .int .i64 bd, .bool st] 70)
  go_enter Try.func50, Try.ntmps50
  have HH_ := H; obtain ⟨c0, c1, c2, c3, c4, c5, c6, c7, c8, c9, c10, c11, c12, c13, c14, c15, c16, c17, _⟩ := HH_
  go_wp2_with fail
  refine (C1.out _ q0).mono ?_
  rintro e w1 ⟨rfl, hq⟩
  clear c0 c1 c2 c3 c4 c5 c6 c7 c8 c9 c10 c11 c12 c13 c14 c15 c16 c17
  replace H := H.below hq
  replace q0 := btr q0 hq
  clear hq C1
  have HH_ := H; obtain ⟨c0, c1, c2, c3, c4, c5, c6, c7, c8, c9, c10, c11, c12, c13, c14, c15, c16, c17, _⟩ := HH_
  go_wp2_with fail
  refine (C2.out _ q0).mono ?_
  rintro e w2 ⟨rfl, hq⟩
  clear c0 c1 c2 c3 c4 c5 c6 c7 c8 c9 c10 c11 c12 c13 c14 c15 c16 c17
  replace H := H.below hq
  replace q0 := btr q0 hq
  clear hq C2
  have HH_ := H; obtain ⟨c0, c1, c2, c3, c4, c5, c6, c7, c8, c9, c10, c11, c12, c13, c14, c15, c16, c17, _⟩ := HH_
  go_wp2_with fail
  refine (C3.out _ q0).mono ?_
  rintro e w3 ⟨rfl, hq⟩
  clear c0 c1 c2 c3 c4 c5 c6 c7 c8 c9 c10 c11 c12 c13 c14 c15 c16 c17
  replace H := H.below hq
  replace q0 := btr q0 hq
  clear hq C3
  have HH_ := H; obtain ⟨c0, c1, c2, c3, c4, c5, c6, c7, c8, c9, c10, c11, c12, c13, c14, c15, c16, c17, _⟩ := HH_
  go_wp2_with fail
  refine (C4.out _ q0).mono ?_
  rintro e w4 ⟨rfl, hq⟩
  clear c0 c1 c2 c3 c4 c5 c6 c7 c8 c9 c10 c11 c12 c13 c14 c15 c16 c17
  replace H := H.below hq
  replace q0 := btr q0 hq
  clear hq C4
  have HH_ := H; obtain ⟨c0, c1, c2, c3, c4, c5, c6, c7, c8, c9, c10, c11, c12, c13, c14, c15, c16, c17, _⟩ := HH_
  go_wp2
  go_ret
  exact ⟨rfl, q0⟩
end Go.Proofs.Ytcnlolocppbcjaa
