/- Several texts in one: EqA, EqB, EqC, EqE, EqF, EqG, EqD, EqX. -/
import Derived.Test.YtmeglflbjedndaaBA
import Derived.Test.YtmeglflbjedndaaBP
import Derived.Test.YtmeglflbjedndaaBoo
import Derived.Test.YtmeglflbjedndaaBF
import Derived.Test.YtmeglflbjedndaaPlanB
namespace Go.Proofs.Ytmeglflbjedndaa
set_option linter.unusedVariables false
set_option linter.unusedSimpArgs false
open Go.RowKit
/-- the slice of n equations at A holds the terms kid 0 and kid 1, kid 2 and kid 3, .. -/
def EqK (w : World) (A : Option Addr) (n : Nat) (kid : Nat → Tm) : Prop := Kids 0 w (.mk ⟨#[]⟩ (n * 2) kid) A
theorem EqK.below {w w' : World} {A : Option Addr} {n : Nat} {kid : Nat → Tm} (h : EqK w A n kid) (hb : Below w.heap.size w w') : EqK w' A n kid := Kids.below hb h
theorem EqK.at {w : World} {A : Option Addr} {n : Nat} {kid : Nat → Tm} (h : EqK w A n kid) {k : Nat} (hk : k < n) : ∃ g off a c b d, A = some ⟨g, off, none⟩ ∧ g < w.heap.size ∧
    w.cell? ⟨g, off + k * 4, none⟩ = some (.string (kid (k * 2)).nm) ∧ w.cell? ⟨g, off + k * 4 + 1, none⟩ = some (.slice a (kid (k * 2)).n c) ∧ w.cell? ⟨g, off + k * 4 + 2, none⟩ = some (.string (kid (k * 2 + 1)).nm) ∧ w.cell? ⟨g, off + k * 4 + 3, none⟩ = some (.slice b (kid (k * 2 + 1)).n d) ∧ Kids 0 w (kid (k * 2)) a ∧ Kids 0 w (kid (k * 2 + 1)) b := by
  rcases h with h | ⟨g, off, rfl, _, hg, hc⟩
  · omega
  · obtain ⟨a, c, h0, h1, h2⟩ := hc (k * 2) (by omega)
    obtain ⟨b, d, h3, h4, h5⟩ := hc (k * 2 + 1) (by omega)
    refine ⟨g, off, a, c, b, d, rfl, hg, ?_, ?_, ?_, ?_, h2, h5⟩
    · rw [show off + k * 4 = off + k * 2 * 2 by omega]; exact h0
    · rw [show off + k * 4 + 1 = off + k * 2 * 2 + 1 by omega]; exact h1
    · rw [show off + k * 4 + 2 = off + (k * 2 + 1) * 2 by omega]; exact h3
    · rw [show off + k * 4 + 3 = off + (k * 2 + 1) * 2 + 1 by omega]; exact h4
/-- .. in blocks of terms, each list with its room -/
def EqT (w : World) (A : Option Addr) (n : Nat) (kid : Nat → Tm) : Prop :=
  n = 0 ∨ ∃ g off, A = some ⟨g, off, none⟩ ∧ g < w.heap.size ∧ ∀ k, k < n → ∃ a c b d, w.cell? ⟨g, off + k * 4, none⟩ = some (.string (kid (k * 2)).nm) ∧ w.cell? ⟨g, off + k * 4 + 1, none⟩ = some (.slice a (kid (k * 2)).n c) ∧ w.cell? ⟨g, off + k * 4 + 2, none⟩ = some (.string (kid (k * 2 + 1)).nm) ∧ w.cell? ⟨g, off + k * 4 + 3, none⟩ = some (.slice b (kid (k * 2 + 1)).n d) ∧
    (kid (k * 2)).n ≤ c ∧ c ≤ 9223372036854775807 ∧ (kid (k * 2 + 1)).n ≤ d ∧ d ≤ 9223372036854775807 ∧ KidT 0 w (kid (k * 2)) a ∧ KidT 0 w (kid (k * 2 + 1)) b
theorem EqT.below {w w' : World} {A : Option Addr} {n : Nat} {kid : Nat → Tm} (h : EqT w A n kid) (hb : Below w.heap.size w w') : EqT w' A n kid := by
  rcases h with h | ⟨g, off, ha, hg, hc⟩
  · exact .inl h
  · refine .inr ⟨g, off, ha, Nat.lt_of_lt_of_le hg hb.size, fun k hk => ?_⟩
    obtain ⟨a, c, b, d, h0, h1, h2, h3, m1, m2, m3, m4, h4, h5⟩ := hc k hk
    exact ⟨a, c, b, d, carry hb h0, carry hb h1, carry hb h2, carry hb h3, m1, m2, m3, m4, h4.keep (KpT.below hb), h5.keep (KpT.below hb)⟩
theorem EqT.k {w : World} {A : Option Addr} {n : Nat} {kid : Nat → Tm} (h : EqT w A n kid) : EqK w A n kid := by
  rcases h with h | ⟨g, off, ha, hg, hc⟩
  · exact .inl (by omega)
  · refine .inr ⟨g, off, ha, Nat.zero_le _, hg, fun j hj => ?_⟩
    obtain ⟨a, c, b, d, h0, h1, h2, h3, m1, m2, m3, m4, h4, h5⟩ := hc (j / 2) (by omega)
    rcases Nat.mod_two_eq_zero_or_one j with e | e
    · have ej : j = j / 2 * 2 := by omega
      have e1 : off + j / 2 * 4 = off + j * 2 := by omega
      rw [← ej] at h0 h1 h4
      rw [e1] at h0 h1
      exact ⟨a, c, h0, h1, h4.kids⟩
    · have ej : j = j / 2 * 2 + 1 := by omega
      have e1 : off + j / 2 * 4 + 2 = off + j * 2 := by omega
      have e2 : off + j / 2 * 4 + 3 = off + j * 2 + 1 := by omega
      rw [← ej] at h2 h3 h5
      rw [e1] at h2
      rw [e2] at h3
      exact ⟨b, d, h2, h3, h5.kids⟩
/-- what the size of an equation answers -/
def SzE (w : World) (t u : Tm) (l : Int) (e : Ending) (w' : World) : Prop :=
  ∃ r : Int, e = .returned (.int .i64 r) ∧ (r < 0 ∨ (0 ≤ r ∧ r + tSz t + tSz u ≤ l + 2 ∧ Fits 1048576 t ∧ Fits 1048576 u)) ∧ Below w.heap.size w w'
set_option maxRecDepth 100000 in
set_option maxHeartbeats 4000000 in
theorem szeq_any (t u : Tm) (hF : Fits 9223372036854775807 t) (hG : Fits 9223372036854775807 u) (A : Option Addr) (c : Nat) (B : Option Addr) (d : Nat) (l : Int) (w : World) (hl : 0 ≤ l ∧ l ≤ 1048576) (hA : Kids 0 w t A) (hB : Kids 0 w u B) :
    Calls Try.prog 108 #[.agg #[.string t.nm, .slice A t.n c, .string u.nm, .slice B u.n d], .int .i64 l] w (SzE w t u l) := by
  have C1 := hid (fun W (h : Below w.heap.size w W) => sztermU_any t hF A c l W hl (hA.below h))
  have C2 := hid (fun W (r : Int) (hr : 0 ≤ r ∧ r ≤ 1048576) (h : Below w.heap.size w W) => sztermU_any u hG B d r W hr (hB.below h))
  obtain ⟨l1, l2⟩ := hl
  have pa := tSz_pos t; have pb := tSz_pos u
  clear hF hG hA hB
  have H : KcL [(w.heap.size, 0, .string t.nm), (w.heap.size, 1, .slice A t.n c), (w.heap.size, 2, .string u.nm), (w.heap.size, 3, .slice B u.n d)] (w.alloc (.cells #[.string t.nm, .slice A t.n c, .string u.nm, .slice B u.n d] 163)) := by
    refine ⟨?_, ?_, ?_, ?_, trivial⟩ <;> simp [go_sem]
  have q0 := bal (Below.refl w.heap.size w) (.cells #[.string t.nm, .slice A t.n c, .string u.nm, .slice B u.n d] 163)
  go_enter Try.func108, Try.ntmps108
  have HH_ := H; obtain ⟨c0, c1, c2, c3, _⟩ := HH_
  go_wp2_with fail
  refine (C1.out _ q0).mono ?_
  rintro e w1 ⟨r, rfl, hr, hq⟩
  clear c0 c1 c2 c3
  replace H := H.below hq
  replace q0 := btr q0 hq
  clear hq C1
  rcases hr with hr | ⟨r1, r2, F1⟩
  · go_wp2
    go_ret
    exact ⟨-1, rfl, .inl (by omega), q0⟩
  have HF1 := hid F1; clear F1
  have HH_ := H; obtain ⟨c0, c1, c2, c3, _⟩ := HH_
  go_wp2_with fail
  refine (C2.out _ r ⟨r1, by omega⟩ q0).mono ?_
  rintro e w2 ⟨s, rfl, hs, hq⟩
  clear c0 c1 c2 c3
  replace q0 := btr q0 hq
  clear hq C2
  rcases hs with hs | ⟨s1, s2, F2⟩
  · go_wp2
    go_ret
    exact ⟨-1, rfl, .inl (by omega), q0⟩
  have HF2 := hid F2; clear F2
  go_wp2
  go_ret
  exact ⟨_, rfl, .inr ⟨s1, by omega, HF1.out, HF2.out⟩, q0⟩
/-- what the size of a list of equations answers -/
def SzEs (w : World) (n : Nat) (kid : Nat → Tm) (l : Int) (e : Ending) (w' : World) : Prop :=
  ∃ r : Int, e = .returned (.int .i64 r) ∧ (r < 0 ∨ (0 ≤ r ∧ r ≤ l ∧ r + sumT (n * 2) (fun k => tSz (kid k)) ≤ l + n ∧ (n : Int) ≤ l ∧ ∀ k, k < n * 2 → Fits 1048576 (kid k))) ∧ Below w.heap.size w w'
set_option maxRecDepth 100000 in
set_option maxHeartbeats 4000000 in
theorem szeqs_any (n : Nat) (kid : Nat → Tm) (hn : n ≤ 9223372036854775807) (hF : ∀ k, k < n * 2 → Fits 9223372036854775807 (kid k)) (A : Option Addr) (c : Nat) (l : Int) (w : World) (hl : 0 ≤ l ∧ l ≤ 1048576) (hA : EqK w A n kid) :
    Calls Try.prog 48 #[.slice A n c, .int .i64 l] w (SzEs w n kid l) := by
  obtain ⟨l1, l2⟩ := hl
  have HF := hid hF; clear hF
  by_cases h : l < n
  · go_enter Try.func48, Try.ntmps48
    go_wp2
    go_ret
    exact ⟨-1, rfl, .inl (by omega), Below.refl _ _⟩
  · have hsub : 0 ≤ l - (n : Int) := by omega
    have H := hid h; clear h
    go_enter Try.func48, Try.ntmps48
    go_wp2
    go_loopw [1, 5] (fun q i wr => ∃ (k : Nat) (r : Int), k ≤ n ∧ i = .int .i64 k ∧ q = .int .i64 r ∧ 0 ≤ r ∧ r + sumT (k * 2) (fun k => tSz (kid k)) + n ≤ l + k * 2 ∧ r ≤ l ∧ Below w.heap.size w wr ∧ ∀ j, j < k * 2 → Fits 1048576 (kid j)) (fun _ i _ => n - (intOf i).toNat)
    case atStart => exact ⟨0, l - n, Nat.zero_le _, rfl, rfl, by omega, by simp [sumT], by omega, Below.refl _ _, fun j hj => by omega⟩
    case round =>
      obtain ⟨k, r, hk, rfl, rfl, r1, r2, r3, hb, hN⟩ := hrel
      have HN := hid hN; clear hN
      by_cases hlt : k < n
      · obtain ⟨g, off, a, ca, b, cb, rfl, hg, a0, a1, a2, a3, hI, hJ⟩ := hA.at hlt
        have gg : g < wr.heap.size := Nat.lt_of_lt_of_le hg hb.size
        replace a0 := carry hb a0
        replace a1 := carry hb a1
        replace a2 := carry hb a2
        replace a3 := carry hb a3
        have hS := szeq_any (kid (k * 2)) (kid (k * 2 + 1)) (HF.out _ (by omega)) (HF.out _ (by omega)) a ca b cb r wr ⟨r1, by omega⟩ (hI.below hb) (hJ.below hb)
        clear hI hJ
        have hsm : sumT ((k + 1) * 2) (fun k => tSz (kid k)) = sumT (k * 2) (fun k => tSz (kid k)) + tSz (kid (k * 2)) + tSz (kid (k * 2 + 1)) := by
          rw [show (k + 1) * 2 = k * 2 + 1 + 1 by omega, sumT, sumT]
        have HSM := hid hsm; clear hsm
        go_wp2_with fail
        refine hS.mono ?_
        rintro e w1 ⟨r', rfl, hr', hq⟩
        clear hS
        rcases hr' with hr' | ⟨p1, p2, p3, p4⟩
        · go_wp2
          go_ret
          exact ⟨-1, rfl, .inl (by omega), btr hb hq⟩
        · have HP := hid p3; have HP4 := hid p4; clear p3 p4
          have pp1 := tSz_pos (kid (k * 2)); have pp2 := tSz_pos (kid (k * 2 + 1))
          go_wp2
          go_roundw
          case rel =>
            refine ⟨k + 1, r', by omega, by go_num, rfl, p1, by have := HSM.out; omega, by omega, btr hb hq, fun j hj => ?_⟩
            by_cases e : j = k * 2
            · rw [e]; exact HP.out
            · by_cases e2 : j = k * 2 + 1
              · rw [e2]; exact HP4.out
              · exact HN.out j (by omega)
          case measure => simp [intOf]; omega
      · have hke : k = n := by omega
        subst hke
        go_wp2
        go_ret
        exact ⟨r, rfl, .inr ⟨r1, r3, by omega, by have := H.out; omega, HN.out⟩, hb⟩
set_option maxRecDepth 100000 in
set_option maxHeartbeats 4000000 in
theorem eqeq_same (t u : Tm) (hF : Fits 9223372036854775807 t) (hG : Fits 9223372036854775807 u) (A : Option Addr) (c : Nat) (B : Option Addr) (d : Nat) (A' : Option Addr) (c' : Nat) (B' : Option Addr) (d' : Nat) (w : World) (hA : Kids 0 w t A) (hB : Kids 0 w u B) (hA' : Kids 0 w t A') (hB' : Kids 0 w u B') :
    Calls Try.prog 112 #[.agg #[.string t.nm, .slice A t.n c, .string u.nm, .slice B u.n d], .agg #[.string t.nm, .slice A' t.n c', .string u.nm, .slice B' u.n d']] w fun e w' => e = .returned (.bool true) ∧ Below w.heap.size w w' := by
  have C1 := hid (fun W (h : Below w.heap.size w W) => eqterm_same t hF A A' c c' W (hA.below h) (hA'.below h))
  have C2 := hid (fun W (h : Below w.heap.size w W) => eqterm_same u hG B B' d d' W (hB.below h) (hB'.below h))
  clear hF hG hA hB hA' hB'
  have H : KcL [(w.heap.size, 0, .string t.nm), (w.heap.size, 1, .slice A t.n c), (w.heap.size, 2, .string u.nm), (w.heap.size, 3, .slice B u.n d), (w.heap.size + 1, 0, .string t.nm), (w.heap.size + 1, 1, .slice A' t.n c'), (w.heap.size + 1, 2, .string u.nm), (w.heap.size + 1, 3, .slice B' u.n d')] ((w.alloc (.cells #[.string t.nm, .slice A t.n c, .string u.nm, .slice B u.n d] 165)).alloc (.cells #[.string t.nm, .slice A' t.n c', .string u.nm, .slice B' u.n d'] 165)) := by
    refine ⟨?_, ?_, ?_, ?_, ?_, ?_, ?_, ?_, trivial⟩ <;> simp [go_sem]
  have q0 := bal (bal (Below.refl w.heap.size w) (.cells #[.string t.nm, .slice A t.n c, .string u.nm, .slice B u.n d] 165)) (.cells #[.string t.nm, .slice A' t.n c', .string u.nm, .slice B' u.n d'] 165)
  go_enter Try.func112, Try.ntmps112
  have HH_ := H; obtain ⟨c0, c1, c2, c3, c4, c5, c6, c7, _⟩ := HH_
  go_wp2_with fail
  refine (C1.out _ q0).mono ?_
  rintro e w1 ⟨rfl, hq⟩
  clear c0 c1 c2 c3 c4 c5 c6 c7
  replace H := H.below hq
  replace q0 := btr q0 hq
  clear hq C1
  have HH_ := H; obtain ⟨c0, c1, c2, c3, c4, c5, c6, c7, _⟩ := HH_
  go_wp2_with fail
  refine (C2.out _ q0).mono ?_
  rintro e w2 ⟨rfl, hq⟩
  clear c0 c1 c2 c3 c4 c5 c6 c7
  replace q0 := btr q0 hq
  clear hq C2
  go_wp2
  go_ret
  exact ⟨rfl, q0⟩
set_option maxRecDepth 100000 in
set_option maxHeartbeats 4000000 in
theorem eqeqs_same (n : Nat) (kid : Nat → Tm) (hn : n ≤ 9223372036854775807) (hF : ∀ k, k < n * 2 → Fits 9223372036854775807 (kid k)) (A B : Option Addr) (c d : Nat) (w : World) (hA : EqK w A n kid) (hB : EqK w B n kid) :
    Calls Try.prog 52 #[.slice A n c, .slice B n d] w fun e w' => e = .returned (.bool true) ∧ Below w.heap.size w w' := by
  have HF := hid hF; clear hF
  go_enter Try.func52, Try.ntmps52
  go_wp2
  go_loopw [5] (fun i wr => ∃ k : Nat, k ≤ n ∧ i = .int .i64 k ∧ Below w.heap.size w wr) (fun i _ => n - (intOf i).toNat)
  case atStart => exact ⟨0, Nat.zero_le _, rfl, Below.refl _ _⟩
  case round =>
    obtain ⟨k, hk, rfl, hb⟩ := hrel
    by_cases hlt : k < n
    · obtain ⟨g, off, a, ca, b, cb, rfl, hg, a0, a1, a2, a3, hI, hJ⟩ := hA.at hlt
      obtain ⟨g2, off2, a', ca', b', cb', rfl, hg2, b0, b1, b2, b3, hI2, hJ2⟩ := hB.at hlt
      have gg : g < wr.heap.size := Nat.lt_of_lt_of_le hg hb.size
      have gg2 : g2 < wr.heap.size := Nat.lt_of_lt_of_le hg2 hb.size
      replace a0 := carry hb a0
      replace a1 := carry hb a1
      replace a2 := carry hb a2
      replace a3 := carry hb a3
      replace b0 := carry hb b0
      replace b1 := carry hb b1
      replace b2 := carry hb b2
      replace b3 := carry hb b3
      have hE := fun X : Gro wr => eqeq_same (kid (k * 2)) (kid (k * 2 + 1)) (HF.out _ (by omega)) (HF.out _ (by omega)) a ca b cb a' ca' b' cb' (gro wr X) ((hI.below hb).below X.h) ((hJ.below hb).below X.h) ((hI2.below hb).below X.h) ((hJ2.below hb).below X.h)
      clear hI hJ hI2 hJ2
      have gc := @gro_cell wr
      go_upto_region 6 with fail
      refine wp_region_grow_lit (by kernel_rfl) (by kernel_rfl) ?_
      repeat (go_big_quiet_step ((go_at_call 112; exact grow_call _ (hE _))))
      refine wpQuiet_nil ?_
      rintro _ ⟨X, rfl⟩
      clear gc
      go_wp2
      go_roundw
      case rel => exact ⟨k + 1, by omega, by go_num, btr hb X.h⟩
      case measure => simp [intOf]; omega
    · have hke : k = n := by omega
      subst hke
      go_wp2
      go_ret
      exact ⟨rfl, hb⟩
end Go.Proofs.Ytmeglflbjedndaa

namespace Go.Proofs.Ytmeglflbjedndaa
set_option linter.unusedVariables false
set_option linter.unusedSimpArgs false
open Go.RowKit
/-- an equation of new memory, handed back -/
def NewE (W : World) (t u : Tm) (e : Ending) (w' : World) : Prop :=
  ∃ A B, e = .returned (.agg #[.string t.nm, .slice A t.n t.n, .string u.nm, .slice B u.n u.n]) ∧ KidT W.heap.size w' t A ∧ KidT W.heap.size w' u B ∧ Below W.heap.size W w'
set_option maxRecDepth 100000 in
set_option maxHeartbeats 8000000 in
theorem toeq_any (t u : Tm) (hF : Fits 1048576 t) (hG : Fits 1048576 u) (A : Option Addr) (c : Nat) (B : Option Addr) (d : Nat) (w : World) (hA : Kids 0 w t A) (hB : Kids 0 w u B) :
    Calls Try.prog 110 #[.agg #[.string t.nm, .slice A t.n c, .string u.nm, .slice B u.n d]] w (NewE w t u) := by
  have C1 := hid (fun W (h : Below w.heap.size w W) => totermP_any t hF A c W (hA.below h))
  have C2 := hid (fun W (h : Below w.heap.size w W) => totermP_any u hG B d W (hB.below h))
  clear hF hG hA hB
  have H : KcL [(w.heap.size, 2, .string u.nm), (w.heap.size, 3, .slice B u.n d)] (((w.alloc (.cells #[.string t.nm, .slice A t.n c, .string u.nm, .slice B u.n d] 163)).alloc (.cells #[.string ⟨#[]⟩, .slice none 0 0, .string ⟨#[]⟩, .slice none 0 0] 165)).alloc (.cells #[.string ⟨#[]⟩, .slice none 0 0, .string ⟨#[]⟩, .slice none 0 0] 165)) := by
    refine ⟨?_, ?_, trivial⟩ <;> simp [go_sem]
  have q0 : Below w.heap.size w (((w.alloc (.cells #[.string t.nm, .slice A t.n c, .string u.nm, .slice B u.n d] 163)).alloc (.cells #[.string ⟨#[]⟩, .slice none 0 0, .string ⟨#[]⟩, .slice none 0 0] 165)).alloc (.cells #[.string ⟨#[]⟩, .slice none 0 0, .string ⟨#[]⟩, .slice none 0 0] 165)) := bal (bal (bal (Below.refl _ _) _) _) _
  have R2 : (((w.alloc (.cells #[.string t.nm, .slice A t.n c, .string u.nm, .slice B u.n d] 163)).alloc (.cells #[.string ⟨#[]⟩, .slice none 0 0, .string ⟨#[]⟩, .slice none 0 0] 165)).alloc (.cells #[.string ⟨#[]⟩, .slice none 0 0, .string ⟨#[]⟩, .slice none 0 0] 165)).rowIs (w.heap.size + 1) 165 4 (rowOf #[.string ⟨#[]⟩, .slice none 0 0, .string ⟨#[]⟩, .slice none 0 0]) := by
    have h := (row_newA (w.alloc (.cells #[.string t.nm, .slice A t.n c, .string u.nm, .slice B u.n d] 163)) #[.string ⟨#[]⟩, .slice none 0 0, .string ⟨#[]⟩, .slice none 0 0] 165).alloc (.cells #[.string ⟨#[]⟩, .slice none 0 0, .string ⟨#[]⟩, .slice none 0 0] 165)
    rw [World.size_alloc] at h
    exact h
  have R3 : (((w.alloc (.cells #[.string t.nm, .slice A t.n c, .string u.nm, .slice B u.n d] 163)).alloc (.cells #[.string ⟨#[]⟩, .slice none 0 0, .string ⟨#[]⟩, .slice none 0 0] 165)).alloc (.cells #[.string ⟨#[]⟩, .slice none 0 0, .string ⟨#[]⟩, .slice none 0 0] 165)).rowIs (w.heap.size + 1 + 1) 165 4 (rowOf #[.string ⟨#[]⟩, .slice none 0 0, .string ⟨#[]⟩, .slice none 0 0]) := by
    have h := row_newA ((w.alloc (.cells #[.string t.nm, .slice A t.n c, .string u.nm, .slice B u.n d] 163)).alloc (.cells #[.string ⟨#[]⟩, .slice none 0 0, .string ⟨#[]⟩, .slice none 0 0] 165)) #[.string ⟨#[]⟩, .slice none 0 0, .string ⟨#[]⟩, .slice none 0 0] 165
    rw [World.size_alloc, World.size_alloc] at h
    exact h
  have zz : w.heap.size + 3 ≤ (((w.alloc (.cells #[.string t.nm, .slice A t.n c, .string u.nm, .slice B u.n d] 163)).alloc (.cells #[.string ⟨#[]⟩, .slice none 0 0, .string ⟨#[]⟩, .slice none 0 0] 165)).alloc (.cells #[.string ⟨#[]⟩, .slice none 0 0, .string ⟨#[]⟩, .slice none 0 0] 165)).heap.size := by simp
  go_enter Try.func110, Try.ntmps110
  go_wp2_with fail
  generalize (((w.alloc (.cells #[.string t.nm, .slice A t.n c, .string u.nm, .slice B u.n d] 163)).alloc (.cells #[.string ⟨#[]⟩, .slice none 0 0, .string ⟨#[]⟩, .slice none 0 0] 165)).alloc (.cells #[.string ⟨#[]⟩, .slice none 0 0, .string ⟨#[]⟩, .slice none 0 0] 165)) = w0 at *
  refine (C1.out _ q0).mono ?_
  rintro e w1 ⟨D1, rfl, O1, hq⟩
  replace O1 := O1.mono zz
  replace H := H.below hq
  replace q0 := btr q0 hq
  replace R2 := row_below R2 hq
  replace R3 := row_below R3 hq
  replace zz := Nat.le_trans zz hq.size
  clear hq C1
  have HH_ := H; obtain ⟨c0, c1, _⟩ := HH_
  have l0 := cell_lt c0
  have g0 := R3.cell (i := 0) (by omega)
  have f0 : w1.frozen? ⟨w.heap.size + 1 + 1, 0, none⟩ = false := R3.frozen _
  have g1 := R3.cell (i := 1) (by omega)
  have f1 : w1.frozen? ⟨w.heap.size + 1 + 1, 1, none⟩ = false := R3.frozen _
  go_wp2_with fail
  replace H := H.keep (grow_set _ (w.heap.size + 1 + 1) 0 (.string t.nm)) (fun e he g hg => by cases hg; simp at he; rcases he with rfl | rfl <;> simp <;> omega)
  replace q0 := bst q0 (p := ⟨w.heap.size + 1 + 1, 0, none⟩) (show w.heap.size ≤ w.heap.size + 1 + 1 by omega) (.string t.nm)
  replace R2 := R2.setOther (a := ⟨w.heap.size + 1 + 1, 0, none⟩) (by simp) (.string t.nm)
  replace R3 := R3.set 0 (.string t.nm)
  replace O1 := O1.set (p := w.heap.size + 1 + 1) (o := 0) (.string t.nm) (by omega)
  replace H := H.keep (grow_set _ (w.heap.size + 1 + 1) 1 (.slice D1 t.n t.n)) (fun e he g hg => by cases hg; simp at he; rcases he with rfl | rfl <;> simp <;> omega)
  replace q0 := bst q0 (p := ⟨w.heap.size + 1 + 1, 1, none⟩) (show w.heap.size ≤ w.heap.size + 1 + 1 by omega) (.slice D1 t.n t.n)
  replace R2 := R2.setOther (a := ⟨w.heap.size + 1 + 1, 1, none⟩) (by simp) (.slice D1 t.n t.n)
  replace R3 := R3.set 1 (.slice D1 t.n t.n)
  replace O1 := O1.set (p := w.heap.size + 1 + 1) (o := 1) (.slice D1 t.n t.n) (by omega)
  replace zz : w.heap.size + 3 ≤ ((w1.setCell ⟨w.heap.size + 1 + 1, 0, none⟩ (.string t.nm)).setCell ⟨w.heap.size + 1 + 1, 1, none⟩ (.slice D1 t.n t.n)).heap.size := by simpa [World.setCell] using zz
  clear c0 c1 l0 g0 f0 g1 f1
  refine (C2.out _ q0).mono ?_
  rintro e w2 ⟨D2, rfl, O2, hq⟩
  replace O2 := O2.mono zz
  replace H := H.below hq
  replace q0 := btr q0 hq
  replace R2 := row_below R2 hq
  replace R3 := row_below R3 hq
  replace O1 := O1.keep (KpT.below hq)
  replace zz := Nat.le_trans zz hq.size
  clear hq C2
  have HH_ := H; obtain ⟨c0, c1, _⟩ := HH_
  have l0 := cell_lt c0
  have g2 := R3.cell (i := 2) (by omega)
  have f2 : w2.frozen? ⟨w.heap.size + 1 + 1, 2, none⟩ = false := R3.frozen _
  have g3 := R3.cell (i := 3) (by omega)
  have f3 : w2.frozen? ⟨w.heap.size + 1 + 1, 3, none⟩ = false := R3.frozen _
  have zb := hid zz
  go_upto_region 4 with fail
  clear c0 c1 l0 g2 f2 g3 f3
  replace q0 := bst q0 (p := ⟨w.heap.size + 1 + 1, 2, none⟩) (show w.heap.size ≤ w.heap.size + 1 + 1 by omega) (.string u.nm)
  replace R2 := R2.setOther (a := ⟨w.heap.size + 1 + 1, 2, none⟩) (by simp) (.string u.nm)
  replace R3 := R3.set 2 (.string u.nm)
  replace O1 := O1.set (p := w.heap.size + 1 + 1) (o := 2) (.string u.nm) (by omega)
  replace O2 := O2.set (p := w.heap.size + 1 + 1) (o := 2) (.string u.nm) (by omega)
  replace q0 := bst q0 (p := ⟨w.heap.size + 1 + 1, 3, none⟩) (show w.heap.size ≤ w.heap.size + 1 + 1 by omega) (.slice D2 u.n u.n)
  replace R2 := R2.setOther (a := ⟨w.heap.size + 1 + 1, 3, none⟩) (by simp) (.slice D2 u.n u.n)
  replace R3 := R3.set 3 (.slice D2 u.n u.n)
  replace O1 := O1.set (p := w.heap.size + 1 + 1) (o := 3) (.slice D2 u.n u.n) (by omega)
  replace O2 := O2.set (p := w.heap.size + 1 + 1) (o := 3) (.slice D2 u.n u.n) (by omega)
  generalize (w2.setCell ⟨w.heap.size + 1 + 1, 2, none⟩ (.string u.nm)).setCell ⟨w.heap.size + 1 + 1, 3, none⟩ (.slice D2 u.n u.n) = X at *
  have k0 : X.cell? ⟨w.heap.size + 1 + 1, 0, none⟩ = some (.string t.nm) := R3.cell (i := 0) (by omega)
  have k1 : X.cell? ⟨w.heap.size + 1 + 1, 1, none⟩ = some (.slice D1 t.n t.n) := R3.cell (i := 1) (by omega)
  have k2 : X.cell? ⟨w.heap.size + 1 + 1, 2, none⟩ = some (.string u.nm) := R3.cell (i := 2) (by omega)
  have k3 : X.cell? ⟨w.heap.size + 1 + 1, 3, none⟩ = some (.slice D2 u.n u.n) := R3.cell (i := 3) (by omega)
  have y0 : X.cell? ⟨w.heap.size + 1, 0, none⟩ = some (.string ⟨#[]⟩) := R2.cell (i := 0) (by omega)
  have f0 : X.frozen? ⟨w.heap.size + 1, 0, none⟩ = false := R2.frozen _
  have y1 : X.cell? ⟨w.heap.size + 1, 1, none⟩ = some (.slice none 0 0) := R2.cell (i := 1) (by omega)
  have f1 : X.frozen? ⟨w.heap.size + 1, 1, none⟩ = false := R2.frozen _
  have y2 : X.cell? ⟨w.heap.size + 1, 2, none⟩ = some (.string ⟨#[]⟩) := R2.cell (i := 2) (by omega)
  have f2 : X.frozen? ⟨w.heap.size + 1, 2, none⟩ = false := R2.frozen _
  have y3 : X.cell? ⟨w.heap.size + 1, 3, none⟩ = some (.slice none 0 0) := R2.cell (i := 3) (by omega)
  have f3 : X.frozen? ⟨w.heap.size + 1, 3, none⟩ = false := R2.frozen _
  have RF := hid ((((R2.set 0 (.string t.nm)).set 1 (.slice D1 t.n t.n)).set 2 (.string u.nm)).set 3 (.slice D2 u.n u.n))
  have t0 : ((((X.setCell ⟨w.heap.size + 1, 0, none⟩ (.string t.nm)).setCell ⟨w.heap.size + 1, 1, none⟩ (.slice D1 t.n t.n)).setCell ⟨w.heap.size + 1, 2, none⟩ (.string u.nm)).setCell ⟨w.heap.size + 1, 3, none⟩ (.slice D2 u.n u.n)).cell? ⟨w.heap.size + 1, 0, none⟩ = some (.string t.nm) := RF.out.cell (i := 0) (by omega)
  have t1 : ((((X.setCell ⟨w.heap.size + 1, 0, none⟩ (.string t.nm)).setCell ⟨w.heap.size + 1, 1, none⟩ (.slice D1 t.n t.n)).setCell ⟨w.heap.size + 1, 2, none⟩ (.string u.nm)).setCell ⟨w.heap.size + 1, 3, none⟩ (.slice D2 u.n u.n)).cell? ⟨w.heap.size + 1, 1, none⟩ = some (.slice D1 t.n t.n) := RF.out.cell (i := 1) (by omega)
  have t2 : ((((X.setCell ⟨w.heap.size + 1, 0, none⟩ (.string t.nm)).setCell ⟨w.heap.size + 1, 1, none⟩ (.slice D1 t.n t.n)).setCell ⟨w.heap.size + 1, 2, none⟩ (.string u.nm)).setCell ⟨w.heap.size + 1, 3, none⟩ (.slice D2 u.n u.n)).cell? ⟨w.heap.size + 1, 2, none⟩ = some (.string u.nm) := RF.out.cell (i := 2) (by omega)
  have t3 : ((((X.setCell ⟨w.heap.size + 1, 0, none⟩ (.string t.nm)).setCell ⟨w.heap.size + 1, 1, none⟩ (.slice D1 t.n t.n)).setCell ⟨w.heap.size + 1, 2, none⟩ (.string u.nm)).setCell ⟨w.heap.size + 1, 3, none⟩ (.slice D2 u.n u.n)).cell? ⟨w.heap.size + 1, 3, none⟩ = some (.slice D2 u.n u.n) := RF.out.cell (i := 3) (by omega)
  have Q := hid q0; have P1 := hid O1; have P2 := hid O2
  clear O1 O2 R2 R3 q0 H
  go_wp2
  refine bodyPost_ret (v := .agg #[.string t.nm, .slice D1 t.n t.n, .string u.nm, .slice D2 u.n u.n]) (by simp [results, Try.results110, go_sem, t0, t1, t2, t3]) rfl ?_
  clear t0 t1 t2 t3 k0 k1 k2 k3 y0 y1 y2 y3
  exact ⟨_, _, rfl, ((((P1.out.set (p := w.heap.size + 1) (o := 0) (.string t.nm) (by omega)).set (p := w.heap.size + 1) (o := 1) (.slice D1 t.n t.n) (by omega)).set (p := w.heap.size + 1) (o := 2) (.string u.nm) (by omega)).set (p := w.heap.size + 1) (o := 3) (.slice D2 u.n u.n) (by omega)).mono (by omega), ((((P2.out.set (p := w.heap.size + 1) (o := 0) (.string t.nm) (by omega)).set (p := w.heap.size + 1) (o := 1) (.slice D1 t.n t.n) (by omega)).set (p := w.heap.size + 1) (o := 2) (.string u.nm) (by omega)).set (p := w.heap.size + 1) (o := 3) (.slice D2 u.n u.n) (by omega)).mono (by omega), bst (bst (bst (bst Q.out (by simp) _) (by simp) _) (by simp) _) (by simp) _⟩
def eqV (f : Nat → (Option Addr × Nat) × Option Addr × Nat) (kid : Nat → Tm) (j : Nat) : Value :=
  if j % 4 = 0 then .string (kid (j / 4 * 2)).nm else if j % 4 = 1 then .slice (f (j / 4)).1.1 (kid (j / 4 * 2)).n (f (j / 4)).1.2 else if j % 4 = 2 then .string (kid (j / 4 * 2 + 1)).nm else .slice (f (j / 4)).2.1 (kid (j / 4 * 2 + 1)).n (f (j / 4)).2.2
theorem eqV_0 (f : Nat → (Option Addr × Nat) × Option Addr × Nat) (kid : Nat → Tm) (k : Nat) : eqV f kid (k * 4) = .string (kid (k * 2)).nm := by
  unfold eqV; rw [if_pos (by omega), show k * 4 / 4 = k by omega]
theorem eqV_1 (f : Nat → (Option Addr × Nat) × Option Addr × Nat) (kid : Nat → Tm) (k : Nat) : eqV f kid (k * 4 + 1) = .slice (f k).1.1 (kid (k * 2)).n (f k).1.2 := by
  unfold eqV; rw [if_neg (by omega), if_pos (by omega), show (k * 4 + 1) / 4 = k by omega]
theorem eqV_2 (f : Nat → (Option Addr × Nat) × Option Addr × Nat) (kid : Nat → Tm) (k : Nat) : eqV f kid (k * 4 + 2) = .string (kid (k * 2 + 1)).nm := by
  unfold eqV; rw [if_neg (by omega), if_neg (by omega), if_pos (by omega), show (k * 4 + 2) / 4 = k by omega]
theorem eqV_3 (f : Nat → (Option Addr × Nat) × Option Addr × Nat) (kid : Nat → Tm) (k : Nat) : eqV f kid (k * 4 + 3) = .slice (f k).2.1 (kid (k * 2 + 1)).n (f k).2.2 := by
  unfold eqV; rw [if_neg (by omega), if_neg (by omega), if_neg (by omega), show (k * 4 + 3) / 4 = k by omega]
theorem eqV_old {f : Nat → (Option Addr × Nat) × Option Addr × Nat} {kid : Nat → Tm} {x : (Option Addr × Nat) × Option Addr × Nat} {k j : Nat} (h : j / 4 ≠ k) : eqV (fun i => if i = k then x else f i) kid j = eqV f kid j := by
  unfold eqV; simp [h]
def zeroE (j : Nat) : Value := if j % 2 = 0 then .string ⟨#[]⟩ else .slice none 0 0
theorem infoE : (Try.prog.info? 165).map (fun i => (i.zero, i.size, i.bytes)) = some (some (.agg #[.string ⟨#[]⟩, .slice none 0 0, .string ⟨#[]⟩, .slice none 0 0]), 4, 80) := by kernel_rfl
theorem rowIs_madeE (w : World) (n : Nat) (t : TypeId) : (w.alloc (.cells (madeCells #[.string ⟨#[]⟩, .slice none 0 0, .string ⟨#[]⟩, .slice none 0 0] n) t)).rowIs w.heap.size t n zeroE :=
  ⟨_, Deep.blk_alloc_new _ _, size_madeCells _ _, fun i hi => by
    have h2 : i % 4 = 0 ∨ i % 4 = 1 ∨ i % 4 = 2 ∨ i % 4 = 3 := by omega
    have e2 : i % 2 = i % 4 % 2 := by omega
    rcases h2 with h2 | h2 | h2 | h2 <;> simp [madeCells, hi, h2, zeroE, e2]⟩
theorem run_make_eqs (n : Nat) (hn : n ≤ 1048576) (w : World) :
    (Instr.makeSlice 84 (.int .i64 (n : Int)) (.int .i64 (n : Int))).run Try.prog w = .ok (.slice (some ⟨w.heap.size, 0, none⟩) n n) (w.alloc (.cells (madeCells #[.string ⟨#[]⟩, .slice none 0 0, .string ⟨#[]⟩, .slice none 0 0] (n * 4)) 165)) := by
  obtain ⟨i, hi, hzz⟩ := Option.map_eq_some_iff.1 infoE
  simp only [Prod.mk.injEq] at hzz
  obtain ⟨hz, hs, hb⟩ := hzz
  have hr := run_make (P := Try.prog) w 84 165 i _ Try.underlying84 hi hz .i64 .i64 n n (by omega) (Int.le_refl _) (by rw [hb]; omega) (by omega)
  simp only [Int.toNat_natCast, hs] at hr
  exact hr
/-- a list of n equations of new memory, handed back -/
def NewEs (w : World) (n : Nat) (kid : Nat → Tm) (e : Ending) (w' : World) : Prop :=
  ∃ A, e = .returned (.slice A n n) ∧ EqT w' A n kid ∧ Below w.heap.size w w'
set_option maxRecDepth 100000 in
set_option maxHeartbeats 4000000 in
theorem toeqs_any (n : Nat) (kid : Nat → Tm) (hn : n ≤ 1048576) (hF : ∀ k, k < n * 2 → Fits 1048576 (kid k)) (A : Option Addr) (c : Nat) (w : World) (hA : EqK w A n kid) :
    Calls Try.prog 50 #[.slice A n c] w (NewEs w n kid) := by
  have hmk := run_make_eqs n hn
  have hrow := rowIs_madeE w (n * 4) 165
  have hb0 : Below w.heap.size w (w.alloc (.cells (madeCells #[.string ⟨#[]⟩, .slice none 0 0, .string ⟨#[]⟩, .slice none 0 0] (n * 4)) 165)) := bal (Below.refl _ _) _
  have HF := hid hF; clear hF
  go_enter Try.func50, Try.ntmps50
  go_wp2
  clear hmk
  go_loopw [4] (fun i wr => ∃ (k : Nat) (f : Nat → (Option Addr × Nat) × Option Addr × Nat), k ≤ n ∧ i = .int .i64 k ∧ Below w.heap.size w wr ∧ wr.rowIs w.heap.size 165 (n * 4) (fun j => if j < k * 4 then eqV f kid j else zeroE j) ∧ ∀ i, i < k → ((f i).1.2 = (kid (i * 2)).n ∧ (f i).2.2 = (kid (i * 2 + 1)).n) ∧ KidT (w.heap.size + 1) wr (kid (i * 2)) (f i).1.1 ∧ KidT (w.heap.size + 1) wr (kid (i * 2 + 1)) (f i).2.1) (fun i _ => n - (intOf i).toNat)
  case atStart => exact ⟨0, fun _ => ((none, 0), none, 0), Nat.zero_le _, rfl, hb0, hrow.congr fun i hi => by simp, fun i hi => by omega⟩
  case round =>
    obtain ⟨k, f, hk, rfl, hb, hr, ho⟩ := hrel
    have HO := hid ho; clear ho
    clear hrow hb0
    by_cases hlt : k < n
    · obtain ⟨g, off, a, ca, b, cb, rfl, hg, a0, a1, a2, a3, hI, hJ⟩ := hA.at hlt
      have gg : g < wr.heap.size := Nat.lt_of_lt_of_le hg hb.size
      replace a0 := carry hb a0
      replace a1 := carry hb a1
      replace a2 := carry hb a2
      replace a3 := carry hb a3
      have hS : w.heap.size < wr.heap.size := hr.lt
      have hC := toeq_any (kid (k * 2)) (kid (k * 2 + 1)) (HF.out _ (by omega)) (HF.out _ (by omega)) a ca b cb wr (hI.below hb) (hJ.below hb)
      clear hI hJ
      go_wp2_with (go_at_call 110; refine hC.mono ?_; rintro e w1 ⟨A3, B3, rfl, O3, O4, hq⟩; have hr1 := row_below hr hq; have d0 : w1.cell? ⟨w.heap.size, k * 4, none⟩ = some (.string ⟨#[]⟩) := ((hr1.cell (by omega)).trans (by rw [if_neg (by omega)]; unfold zeroE; rw [if_pos (by omega)])); have d1 : w1.cell? ⟨w.heap.size, k * 4 + 1, none⟩ = some (.slice none 0 0) := ((hr1.cell (by omega)).trans (by rw [if_neg (by omega)]; unfold zeroE; rw [if_neg (by omega)])); have d2 : w1.cell? ⟨w.heap.size, k * 4 + 2, none⟩ = some (.string ⟨#[]⟩) := ((hr1.cell (by omega)).trans (by rw [if_neg (by omega)]; unfold zeroE; rw [if_pos (by omega)])); have d3 : w1.cell? ⟨w.heap.size, k * 4 + 3, none⟩ = some (.slice none 0 0) := ((hr1.cell (by omega)).trans (by rw [if_neg (by omega)]; unfold zeroE; rw [if_neg (by omega)])); have e0 : w1.frozen? ⟨w.heap.size, k * 4, none⟩ = false := hr1.frozen _; have e1 : w1.frozen? ⟨w.heap.size, k * 4 + 1, none⟩ = false := hr1.frozen _; have e2 : w1.frozen? ⟨w.heap.size, k * 4 + 2, none⟩ = false := hr1.frozen _; have e3 : w1.frozen? ⟨w.heap.size, k * 4 + 3, none⟩ = false := hr1.frozen _)
      go_roundw
      case rel =>
        refine ⟨k + 1, fun i => if i = k then ((A3, (kid (k * 2)).n), B3, (kid (k * 2 + 1)).n) else f i, by omega, by go_num, bst (bst (bst (bst (btr hb hq) (Nat.le_refl _) _) (Nat.le_refl _) _) (Nat.le_refl _) _) (Nat.le_refl _) _, ((((hr1.set (k * 4) _).set (k * 4 + 1) _).set (k * 4 + 2) _).set (k * 4 + 3) _).congr fun j hj => ?_, fun i hi => ?_⟩
        · by_cases ed : j = k * 4 + 3
          · subst ed; rw [if_pos rfl, if_pos (by omega), eqV_3]; simp
          · rw [if_neg ed]
            by_cases ec : j = k * 4 + 2
            · subst ec; rw [if_pos rfl, if_pos (by omega), eqV_2]
            · rw [if_neg ec]
              by_cases eb : j = k * 4 + 1
              · subst eb; rw [if_pos rfl, if_pos (by omega), eqV_1]; simp
              · rw [if_neg eb]
                by_cases ea : j = k * 4
                · subst ea; rw [if_pos rfl, if_pos (by omega), eqV_0]
                · rw [if_neg ea]
                  by_cases e2 : j < k * 4
                  · rw [if_pos e2, if_pos (by omega), eqV_old (by omega)]
                  · rw [if_neg e2, if_neg (by omega)]
        · have hlt2 : w.heap.size < w.heap.size + 1 := by omega
          by_cases e : i = k
          · subst e
            simp only [if_true]
            exact ⟨⟨trivial, trivial⟩, (((((O3.mono (by omega)).set _ hlt2).set _ hlt2).set _ hlt2).set _ hlt2), (((((O4.mono (by omega)).set _ hlt2).set _ hlt2).set _ hlt2).set _ hlt2)⟩
          · simp only [if_neg e]
            obtain ⟨h1, h2, h3⟩ := HO.out i (by omega)
            exact ⟨h1, (((((h2.keep (KpT.below hq)).set _ hlt2).set _ hlt2).set _ hlt2).set _ hlt2), (((((h3.keep (KpT.below hq)).set _ hlt2).set _ hlt2).set _ hlt2).set _ hlt2)⟩
      case measure => simp [intOf]; omega
    · have hke : k = n := by omega
      subst hke
      go_wp2
      go_ret
      refine ⟨_, rfl, .inr ⟨w.heap.size, 0, rfl, hr.lt, fun i hi => ?_⟩, hb⟩
      obtain ⟨⟨h1, h2⟩, h3, h4⟩ := HO.out i hi
      have m1 := (HF.out (i * 2) (by omega)).n
      have m2 := (HF.out (i * 2 + 1) (by omega)).n
      refine ⟨(f i).1.1, (f i).1.2, (f i).2.1, (f i).2.2, ?_, ?_, ?_, ?_, by omega, by omega, by omega, by omega, h3.mono (Nat.zero_le _), h4.mono (Nat.zero_le _)⟩
      · rw [Nat.zero_add]; exact (hr.cell (by omega)).trans (by rw [if_pos (by omega), eqV_0])
      · rw [Nat.zero_add]; exact (hr.cell (by omega)).trans (by rw [if_pos (by omega), eqV_1])
      · rw [Nat.zero_add]; exact (hr.cell (by omega)).trans (by rw [if_pos (by omega), eqV_2])
      · rw [Nat.zero_add]; exact (hr.cell (by omega)).trans (by rw [if_pos (by omega), eqV_3])
end Go.Proofs.Ytmeglflbjedndaa

namespace Go.Proofs.Ytmeglflbjedndaa
set_option linter.unusedVariables false
set_option linter.unusedSimpArgs false
open Go.RowKit
/-- the parts of equations and of further terms, each once -/
def EParts (n : Nat) (kid : Nat → Tm) (q : Nat) (mk : Nat → Tm) (Q : List Tm) : Prop :=
  ∃ Q1, AddK (fun k => AddT (kid k)) (n * 2) [] Q1 ∧ AddK (fun k => AddT (mk k)) q Q1 Q
theorem eparts_fun {n : Nat} {kid : Nat → Tm} {q : Nat} {mk : Nat → Tm} {Q Q' : List Tm} (h : EParts n kid q mk Q) (h' : EParts n kid q mk Q') : Q = Q' := by
  obtain ⟨Q1, a1, a2⟩ := h
  obtain ⟨Q2, b1, b2⟩ := h'
  have e : Q1 = Q2 := addK_fun (R := fun k => AddT (kid k)) (fun k _ P Q Q' h h' => addT_fun h h') a1 b1
  subst e
  exact addK_fun (R := fun k => AddT (mk k)) (fun k _ P Q Q' h h' => addT_fun h h') a2 b2
/-- worlds that hold four cells -/
structure Kp4 (g o : Nat) (x0 x1 x2 x3 : Value) where
  w : World
  h0 : w.cell? ⟨g, o, none⟩ = some x0
  h1 : w.cell? ⟨g, o + 1, none⟩ = some x1
  h2 : w.cell? ⟨g, o + 2, none⟩ = some x2
  h3 : w.cell? ⟨g, o + 3, none⟩ = some x3
def kp4 {g o : Nat} {x0 x1 x2 x3 : Value} (X : Kp4 g o x0 x1 x2 x3) : World := X.w
theorem kp4_of {g o : Nat} {x0 x1 x2 x3 : Value} {w : World} (h0 : w.cell? ⟨g, o, none⟩ = some x0) (h1 : w.cell? ⟨g, o + 1, none⟩ = some x1) (h2 : w.cell? ⟨g, o + 2, none⟩ = some x2) (h3 : w.cell? ⟨g, o + 3, none⟩ = some x3) : ∃ X : Kp4 g o x0 x1 x2 x3, w = kp4 X := ⟨⟨w, h0, h1, h2, h3⟩, rfl⟩
/-- what l5Parts answers -/
def EPartsP (n : Nat) (kid : Nat → Tm) (q : Nat) (mk : Nat → Tm) (w : World) (e : Ending) (w' : World) : Prop :=
  ∃ (X : List TX) (v : Value), e = .returned v ∧ TRow w' w.heap.size X v ∧ FX X ∧ EParts n kid q mk (X.map TX.t) ∧ X.length ≤ sumT (n * 2) (fun k => tSz (kid k)) + sumT q (fun k => tSz (mk k)) ∧ Below w.heap.size w w'
set_option maxRecDepth 100000 in
set_option maxHeartbeats 8000000 in
theorem l5parts_any (n : Nat) (kid : Nat → Tm) (q : Nat) (mk : Nat → Tm) (A : Option Addr) (c : Nat) (B : Option Addr) (d : Nat) (w : World) (hn : n ≤ 1048576) (hq : q ≤ 1048576) (hF : ∀ k, k < n * 2 → Fits 1048576 (kid k)) (hG : ∀ k, k < q → Fits 1048576 (mk k)) (hsz : sumT (n * 2) (fun k => tSz (kid k)) + sumT q (fun k => tSz (mk k)) ≤ 1073741824) (hA : EqK w A n kid) (hB : Kids 0 w (.mk ⟨#[]⟩ q mk) B) :
    Calls Try.prog 109 #[.slice A n c, .slice B q d] w (EPartsP n kid q mk w) := by
  have HF := hid hF; have HG := hid hG; have HSZ := hid hsz; clear hF hG hsz
  have hr0 := Below.refl w.heap.size w
  have hE := hid (TRow.empty w w.heap.size (Nat.le_refl _))
  go_enter Try.func109, Try.ntmps109
  go_upto_region 2 with fail
  have hq0 := bal hr0 (.cells #[] 53)
  have hst0 := hid (show ∃ (X1 : List TX) (v1 : Value), (Value.slice (some ⟨w.heap.size, 0, none⟩) 0 0) = v1 ∧ AddK (fun k => AddT (kid k)) (0 * 2) [] (X1.map TX.t) ∧ X1.length ≤ sumT (0 * 2) (fun k => tSz (kid k)) ∧ TRow (w.alloc (.cells #[] 53)) w.heap.size X1 v1 ∧ FX X1 from ⟨[], _, rfl, rfl, Nat.zero_le _, hE.out, fun i h => absurd h (Nat.not_lt_zero _)⟩)
  clear hE hr0
  go_wp2
  go_loopw [5, 6] (fun vv i wr => ∃ k : Nat, k ≤ n ∧ i = .int .i64 k ∧ Below w.heap.size w wr ∧ ∃ (X1 : List TX) (v1 : Value), vv = v1 ∧ AddK (fun k => AddT (kid k)) (k * 2) [] (X1.map TX.t) ∧ X1.length ≤ sumT (k * 2) (fun k => tSz (kid k)) ∧ TRow wr w.heap.size X1 v1 ∧ FX X1) (fun _ i _ => n - (intOf i).toNat)
  case atStart => exact ⟨0, Nat.zero_le _, rfl, hq0, hst0.out⟩
  case round =>
    obtain ⟨k, hk, rfl, hbr, X1, v1, rfl, hK, hXl, hT, hFX⟩ := hrel
    have HK := hid hK; have HXl := hid hXl; have HT := hid hT; have HFX := hid hFX
    clear hK hXl hT hFX hst0 hq0
    have hsm : sumT (k * 2) (fun k => tSz (kid k)) ≤ sumT (n * 2) (fun k => tSz (kid k)) := sumT_mono (by omega)
    have hX1 := HXl.out
    have hZ := HSZ.out
    obtain ⟨v1a, v1c, hv1e, hv1c⟩ := HT.out.slice
    subst hv1e
    by_cases hlt : k < n
    · obtain ⟨g, off, a, ca, b, cb, rfl, hg, a0, a1, a2, a3, hI, hJ⟩ := hA.at hlt
      have b0 := a0; have b1 := a1; have b2 := a2; have b3 := a3
      replace a0 := carry hbr a0
      replace a1 := carry hbr a1
      replace a2 := carry hbr a2
      replace a3 := carry hbr a3
      have gg : g < wr.heap.size := Nat.lt_of_lt_of_le hg hbr.size
      have hs1 : sumT (k * 2 + 1) (fun k => tSz (kid k)) = sumT (k * 2) (fun k => tSz (kid k)) + tSz (kid (k * 2)) := rfl
      have hs2 : sumT (k * 2 + 1 + 1) (fun k => tSz (kid k)) = sumT (k * 2 + 1) (fun k => tSz (kid k)) + tSz (kid (k * 2 + 1)) := rfl
      have hsm2 : sumT (k * 2 + 1 + 1) (fun k => tSz (kid k)) ≤ sumT (n * 2) (fun k => tSz (kid k)) := sumT_mono (by omega)
      have hbd : X1.length + tSz (kid (k * 2)) ≤ 1073741824 := by omega
      have hbd2 : X1.length + tSz (kid (k * 2)) + tSz (kid (k * 2 + 1)) ≤ 1073741824 := by omega
      have HBD2 := hid hbd2
      have HS := hid (show sumT ((k + 1) * 2) (fun k => tSz (kid k)) = sumT (k * 2) (fun k => tSz (kid k)) + tSz (kid (k * 2)) + tSz (kid (k * 2 + 1)) by rw [show (k + 1) * 2 = k * 2 + 1 + 1 by omega, hs2, hs1])
      have hlo : w.heap.size ≤ wr.heap.size := hbr.size
      have hTd := HT.out.below (Below.refl wr.heap.size wr).drew
      have hS := sparts_any (kid (k * 2)) (HF.out _ (by omega)) a ca w.heap.size X1 _ w wr.drew hI (Nat.le_refl _) hbr.drew hTd HFX.out hlo hbd
      have hS2 := hid (fun X2 v2 w' hb hT hFX hl hlen => sparts_any (kid (k * 2 + 1)) (HF.out _ (by omega)) b cb w.heap.size X2 v2 w w' hJ (Nat.le_refl _) hb hT hFX hl hlen)
      have KL : ∃ X : Kp4 g (off + k * 4) (.string (kid (k * 2)).nm) (.slice a (kid (k * 2)).n ca) (.string (kid (k * 2 + 1)).nm) (.slice b (kid (k * 2 + 1)).n cb), wr.drew = kp4 X := kp4_of a0 a1 a2 a3
      have : Nonempty (Kp4 g (off + k * 4) (.string (kid (k * 2)).nm) (.slice a (kid (k * 2)).n ca) (.string (kid (k * 2 + 1)).nm) (.slice b (kid (k * 2 + 1)).n cb)) := ⟨KL.choose⟩
      have KA := hid (show ∀ w' : World, Below w.heap.size w w' → ∃ X : Kp4 g (off + k * 4) (.string (kid (k * 2)).nm) (.slice a (kid (k * 2)).n ca) (.string (kid (k * 2 + 1)).nm) (.slice b (kid (k * 2 + 1)).n cb), w' = kp4 X from fun w' h => kp4_of (carry h b0) (carry h b1) (carry h b2) (carry h b3))
      have HGg := hid hg
      clear hI hJ hs1 hs2 hsm2 hsm hZ hbd2 a0 a1 a2 a3 b0 b1 b2 b3
      have z0 := fun X : Kp4 g (off + k * 4) (.string (kid (k * 2)).nm) (.slice a (kid (k * 2)).n ca) (.string (kid (k * 2 + 1)).nm) (.slice b (kid (k * 2 + 1)).n cb) => (show (kp4 X).cell? _ = _ from X.h0)
      have z1 := fun X : Kp4 g (off + k * 4) (.string (kid (k * 2)).nm) (.slice a (kid (k * 2)).n ca) (.string (kid (k * 2 + 1)).nm) (.slice b (kid (k * 2 + 1)).n cb) => (show (kp4 X).cell? _ = _ from X.h1)
      have z2 := fun X : Kp4 g (off + k * 4) (.string (kid (k * 2)).nm) (.slice a (kid (k * 2)).n ca) (.string (kid (k * 2 + 1)).nm) (.slice b (kid (k * 2 + 1)).n cb) => (show (kp4 X).cell? _ = _ from X.h2)
      have z3 := fun X : Kp4 g (off + k * 4) (.string (kid (k * 2)).nm) (.slice a (kid (k * 2)).n ca) (.string (kid (k * 2 + 1)).nm) (.slice b (kid (k * 2 + 1)).n cb) => (show (kp4 X).cell? _ = _ from X.h3)
      go_upto_region 5 with fail
      refine region_planC (fun w' => ∃ X : Kp4 g (off + k * 4) (.string (kid (k * 2)).nm) (.slice a (kid (k * 2)).n ca) (.string (kid (k * 2 + 1)).nm) (.slice b (kid (k * 2 + 1)).n cb), w' = kp4 X) (.takes [0, 1, 2, 3, 4, 5, 7, 8, 9, 10, 11] (.make 6 (.make 12 .fin))) 13 rfl (by kernel_rfl) KL ?_
      refine plan_takes ?_; simp only [pickOps, List.getElem?_cons_zero, List.getElem?_cons_succ]; (repeat (go_big_quiet_step (fail))); refine wpQuiet_nil ?_
      clear z0 z1 z2 z3
      refine planC_call rfl rfl 169 #[.slice v1a X1.length v1c, .agg #[.string (kid (k * 2)).nm, .slice a (kid (k * 2)).n ca]] (by kernel_rfl) ?_
      refine hS.mono ?_
      rintro e w3 ⟨X2, v2, rfl, hT2, hA2, hl2, hF2, hR2⟩
      have hb3 := hR2.low hTd (Nat.le_refl _) hbr.drew
      refine ⟨_, rfl, KA.out _ hb3, ?_⟩
      have hlen2 := hT2.slice
      refine planC_call rfl rfl 169 #[v2, .agg #[.string (kid (k * 2 + 1)).nm, .slice b (kid (k * 2 + 1)).n cb]] (by kernel_rfl) ?_
      refine (hS2.out X2 v2 w3 hb3 hT2 hF2 hb3.size (by have := HBD2.out; omega)).mono ?_
      rintro e w4 ⟨X3, v3, rfl, hT3, hA3, hl3, hF3, hR3⟩
      have hb4 := hR3.low hT2 (Nat.le_refl _) hb3
      refine ⟨_, rfl, KA.out _ hb4, ?_⟩
      refine plan_fin ?_
      simp only [List.drop_succ_cons, List.drop_zero, Act.put, List.setIfInBounds_toArray, List.set_cons_succ, List.set_cons_zero]
      have HA := hid hA2; have HA3 := hid hA3; have HL2 := hid hl2; have HL3 := hid hl3; have HT3 := hid hT3; have HF3 := hid hF3; have HB4 := hid hb4
      clear hS hS2 KL KA hA2 hA3 hl2 hl3 hT3 hF3 hb4 hb3 hT2 hF2 hR2 hR3 hTd hlen2
      go_wp2
      go_roundw
      case rel => exact ⟨k + 1, by omega, by go_num, HB4.out, X3, v3, rfl, by
          rw [show (k + 1) * 2 = k * 2 + 1 + 1 by omega]
          exact ⟨_, ⟨_, HK.out, HA.out⟩, HA3.out⟩, by rw [HS.out]; have := HL2.out; have := HL3.out; omega, HT3.out, HF3.out⟩
      case measure => simp [intOf]; omega
    · have hke : k = n := by omega
      subst hke
      have HB0 := hid hbr
      have hB2 := hB.below hbr
      have hst1 := hid (show ∃ (X2 : List TX) (v2 : Value), (Value.slice v1a X1.length v1c) = v2 ∧ AddK (fun k => AddT (mk k)) 0 (X1.map TX.t) (X2.map TX.t) ∧ X2.length ≤ X1.length + sumT 0 (fun k => tSz (mk k)) ∧ TRow wr w.heap.size X2 v2 ∧ FX X2 from ⟨X1, _, rfl, rfl, Nat.le_add_right _ _, HT.out, HFX.out⟩)
      clear hsm hZ hlt
      go_wp2
      generalize wr = wm at *
      go_loopw [5, 7] (fun vv i wr => ∃ j : Nat, j ≤ q ∧ i = .int .i64 j ∧ Below w.heap.size w wr ∧ ∃ (X2 : List TX) (v2 : Value), vv = v2 ∧ AddK (fun k => AddT (mk k)) j (X1.map TX.t) (X2.map TX.t) ∧ X2.length ≤ X1.length + sumT j (fun k => tSz (mk k)) ∧ TRow wr w.heap.size X2 v2 ∧ FX X2) (fun _ i _ => q - (intOf i).toNat)
      case atStart => exact ⟨0, Nat.zero_le _, rfl, HB0.out, hst1.out⟩
      case round =>
        obtain ⟨j, hj, rfl, hbx, X2, v2, rfl, hK2, hXl2, hT2, hFX2⟩ := hrel
        have HK2 := hid hK2; have HXl2 := hid hXl2; have HT2 := hid hT2; have HFX2 := hid hFX2
        clear hK2 hXl2 hT2 hFX2 hst1
        have hbw := hbx
        have hsm : sumT j (fun k => tSz (mk k)) ≤ sumT q (fun k => tSz (mk k)) := sumT_mono hj
        have hX2 := HXl2.out
        have hX1 := HXl.out
        have hZ := HSZ.out
        obtain ⟨v2a, v2c, hv2e, hv2c⟩ := HT2.out.slice
        subst hv2e
        by_cases hlt2 : j < q
        · rcases hB with h00 | ⟨g, off, rfl, _, hg, hcA⟩
          · omega
          obtain ⟨a, ca, a0, a1, hI⟩ := hcA j hlt2
          replace a0 := carry hbw a0
          replace a1 := carry hbw a1
          have gg : g < wr.heap.size := Nat.lt_of_lt_of_le hg hbw.size
          have hs2 : sumT (j + 1) (fun k => tSz (mk k)) = sumT j (fun k => tSz (mk k)) + tSz (mk j) := rfl
          have hsm2 : sumT (j + 1) (fun k => tSz (mk k)) ≤ sumT q (fun k => tSz (mk k)) := sumT_mono hlt2
          have hbd : X2.length + tSz (mk j) ≤ 1073741824 := by omega
          have HS2 := hid hs2
          have hT3 := hid (HT2.out)
          have hS := sparts_any (mk j) (HG.out j hlt2) a ca w.heap.size X2 _ w wr hI (Nat.le_refl _) hbw HT2.out HFX2.out hbw.size hbd
          clear hcA hI hs2 hsm2 hsm hZ hB2
          go_wp2_with (go_at_call 169; refine hS.mono ?_; rintro e w4 ⟨X3, v3, rfl, hT4, hA4, hl4, hF4, hR4⟩)
          go_roundw
          case rel => exact ⟨j + 1, by omega, by go_num, hR4.low hT3.out (Nat.le_refl _) hbw, X3, v3, rfl, ⟨_, HK2.out, hA4⟩, by rw [HS2.out]; omega, hT4, hF4⟩
          case measure => simp [intOf]; omega
        · have hje : j = q := by omega
          subst hje
          go_wp2
          go_ret
          exact ⟨X2, _, rfl, HT2.out, HFX2.out, ⟨_, HK.out, HK2.out⟩, by omega, hbw⟩
end Go.Proofs.Ytmeglflbjedndaa

namespace Go.Proofs.Ytmeglflbjedndaa
set_option linter.unusedVariables false
set_option linter.unusedSimpArgs false
open Go.RowKit
/-- a term has a sort -/
def SOk (n : Nat) (L : Sy) (t : Tm) : Prop := wellB t = true ∧ 0 ≤ sortT n L t
/-- a term's sort, as TermSort tells it, of a valid vocabulary -/
def TsV (n : Nat) (L : Sy) (t : Tm) (s : Int) (b : Bool) : Prop := tsE n L t = .returned (.tuple #[.int .i64 s, .bool b]) ∧ (b = true ↔ SOk n L t) ∧ (b = true → s = sortT n L t)
theorem tsv_of {n : Nat} {L : Sy} (hs : sigB n L = true) (t : Tm) : ∃ s b, TsV n L t s b := by
  by_cases hw : wellB t = true
  · by_cases hp : 0 ≤ sortT n L t
    · exact ⟨sortT n L t, true, by rw [tsE_yes hs hw, SrtE.yes hp], ⟨fun _ => ⟨hw, hp⟩, fun _ => rfl⟩, fun _ => rfl⟩
    · exact ⟨0, false, by rw [tsE_yes hs hw, SrtE.no hp], ⟨(fun h => by cases h), fun h => absurd h.2 hp⟩, (fun h => by cases h)⟩
  · exact ⟨0, false, tsE_no (fun h => hw h.2), ⟨(fun h => by cases h), fun h => absurd h.1 hw⟩, (fun h => by cases h)⟩
theorem stermsort_at {n : Nat} {L : Sy} (hn : n ≤ 1048576) (hN : SmY n L) {t : Tm} (hF : Fits 1048576 t) {A B : Option Addr} {c d : Nat} {w : World} (hA : Syms w A n L) (hB : Kids 0 w t B) {s : Int} {b : Bool} (hv : TsV n L t s b) (W : World) (hb : Below w.heap.size w W) :
    Calls Try.prog 91 #[.agg #[.slice A n c], .agg #[.string t.nm, .slice B t.n d]] W fun e w' => e = .returned (.tuple #[.int .i64 s, .bool b]) ∧ Below W.heap.size W w' := by
  have h := stermsort_any n L hn hN t hF A B c d W (hA.below hb) (hB.below hb)
  rw [hv.1] at h
  exact h
theorem termsort_at {n : Nat} {L : Sy} (hn : n ≤ 1048576) {t : Tm} (hF : Fits 1048576 t) {A B : Option Addr} {c d : Nat} {w : World} (hA : Syms w A n L) (hB : Kids 0 w t B) {s : Int} {b : Bool} (hv : TsV n L t s b) (W : World) (hb : Below w.heap.size w W) :
    Calls Try.prog 94 #[.agg #[.slice A n c], .agg #[.string t.nm, .slice B t.n d]] W fun e w' => e = .returned (.tuple #[.int .i64 s, .bool b]) ∧ Below W.heap.size W w' := by
  have h := termsort_any n L hn t hF A B c d W (hA.below hb) (hB.below hb)
  rw [hv.1] at h
  exact h
/-- two sides have one sort -/
def EOk (n : Nat) (L : Sy) (t u : Tm) : Prop := SOk n L t ∧ SOk n L u ∧ sortT n L t = sortT n L u
/-- equations and further terms are right -/
def CgP (n : Nat) (L : Sy) (m : Nat) (kid : Nat → Tm) (q : Nat) (mk : Nat → Tm) : Prop :=
  sigB n L = true ∧ m ≤ 12 ∧ (∀ k, k < m → EOk n L (kid (k * 2)) (kid (k * 2 + 1))) ∧ (∀ k, k < q → SOk n L (mk k)) ∧ ∃ Q, EParts m kid q mk Q ∧ Q.length ≤ 24
def noT : Nat → Tm := fun _ => .bad
def EqsP (n : Nat) (L : Sy) (m : Nat) (kid : Nat → Tm) : Prop := CgP n L m kid 0 noT
set_option maxRecDepth 100000 in
set_option maxHeartbeats 8000000 in
theorem seqsok_any (b : Bool) (n : Nat) (L : Sy) (hn : n ≤ 1048576) (hN : SmY n L) (m : Nat) (kid : Nat → Tm) (hF : ∀ k, k < m * 2 → Fits 1048576 (kid k)) (hz : sumT (m * 2) (fun k => tSz (kid k)) ≤ 2097152) (hb : b = true ↔ EqsP n L m kid) (A : Option Addr) (c : Nat) (B : Option Addr) (d : Nat) (w : World) (hm : m ≤ 1048576) (hA : Syms w A n L) (hB : EqK w B m kid) :
    Calls Try.prog 49 #[.agg #[.slice A n c], .slice B m d] w fun e w' => e = .returned (.bool b) ∧ Below w.heap.size w w' := by
  have HB := hid hb; have HF := hid hF; have HZ := hid hz; have HN := hid hN; clear hb hF hz hN
  have q0 := bal (Below.refl w.heap.size w) (.cells #[.slice A n c] 39)
  have b0 : (w.alloc (.cells #[.slice A n c] 39)).cell? ⟨w.heap.size, 0, none⟩ = some (.slice A n c) := by simp [go_sem]
  have hA2 := hA.below q0
  have hB2 := hB.below q0
  clear hA hB
  go_enter Try.func49, Try.ntmps49
  go_wp2
  generalize w.alloc (.cells #[.slice A n c] 39) = W0 at *
  go_loopw [5] (fun i wr => ∃ k : Nat, k ≤ m ∧ i = .int .i64 k ∧ Below W0.heap.size W0 wr ∧ (0 < k → sigB n L = true) ∧ ∀ j, j < k → EOk n L (kid (j * 2)) (kid (j * 2 + 1))) (fun i _ => m - (intOf i).toNat)
  case atStart => exact ⟨0, Nat.zero_le _, rfl, Below.refl _ _, fun h => absurd h (Nat.lt_irrefl _), fun j hj => absurd hj (Nat.not_lt_zero _)⟩
  case round =>
    obtain ⟨k, hk, rfl, hb, hsg, he⟩ := hrel
    have HE := hid he; have HSG := hid hsg; clear he hsg
    have g0 := carry hb b0
    have l0 := cell_lt g0
    by_cases hlt : k < m
    · obtain ⟨g, off, a, ca, e, ce, rfl, hg, a0, a1, a2, a3, hI, hJ⟩ := hB2.at hlt
      have gg : g < wr.heap.size := Nat.lt_of_lt_of_le hg hb.size
      replace a0 := carry hb a0
      replace a1 := carry hb a1
      replace a2 := carry hb a2
      replace a3 := carry hb a3
      have hA3 := hA2.below hb
      replace hI := hI.below hb
      replace hJ := hJ.below hb
      have F1 := HF.out (k * 2) (by omega)
      have F2 := HF.out (k * 2 + 1) (by omega)
      have hts : ∃ s1 b1 s2 b2, tsE n L (kid (k * 2)) = .returned (.tuple #[.int .i64 s1, .bool b1]) ∧ tsE n L (kid (k * 2 + 1)) = .returned (.tuple #[.int .i64 s2, .bool b2]) ∧ ((b1 = true ∧ b2 = true ∧ s1 = s2) ↔ (sigB n L = true ∧ EOk n L (kid (k * 2)) (kid (k * 2 + 1)))) := by
        by_cases hs : sigB n L = true
        · obtain ⟨s1, b1, h1, h2, h3⟩ := tsv_of hs (kid (k * 2))
          obtain ⟨s2, b2, h4, h5, h6⟩ := tsv_of hs (kid (k * 2 + 1))
          refine ⟨s1, b1, s2, b2, h1, h4, ⟨fun ⟨x, y, z⟩ => ⟨hs, h2.1 x, h5.1 y, by rw [← h3 x, ← h6 y, z]⟩, fun ⟨_, x, y, z⟩ => ?_⟩⟩
          exact ⟨h2.2 x, h5.2 y, by rw [h3 (h2.2 x), h6 (h5.2 y), z]⟩
        · exact ⟨0, false, 0, false, tsE_no (fun h => hs h.1), tsE_no (fun h => hs h.1), ⟨(fun h => by cases h.1), fun h => absurd h.1 hs⟩⟩
      obtain ⟨s1, b1, s2, b2, hv1, hv2, hvv⟩ := hts
      have HVV := hid hvv; clear hvv
      have hC1 := fun X : Gro wr => (show Calls Try.prog 91 #[.agg #[.slice A n c], .agg #[.string (kid (k * 2)).nm, .slice a (kid (k * 2)).n ca]] (gro wr X) _ from stermsort_any n L hn HN.out (kid (k * 2)) F1 A a c ca (gro wr X) (hA3.below X.h) (hI.below X.h))
      rw [hv1] at hC1
      have gc := @gro_cell wr
      go_upto_region 4 with fail
      refine wp_region_grow_lit (by kernel_rfl) (by kernel_rfl) ?_
      repeat (go_big_quiet_step ((go_at_call 91; exact grow_call _ (hC1 _))))
      refine wpQuiet_nil ?_
      rintro _ ⟨X, rfl⟩
      clear gc hC1 l0 hv1
      have hX : Below wr.heap.size wr (gro wr X) := X.h
      replace a2 := carry hX a2
      replace a3 := carry hX a3
      replace g0 := carry hX g0
      replace hA3 := hA3.below hX
      replace hJ := hJ.below hX
      have gg5 : g < (gro wr X).heap.size := Nat.lt_of_lt_of_le gg hX.size
      have hb5 := btr hb hX
      clear hX gg a0 a1
      generalize gro wr X = w5 at *
      have l0 := cell_lt g0
      have hC2 := fun X : Gro w5 => (show Calls Try.prog 91 #[.agg #[.slice A n c], .agg #[.string (kid (k * 2 + 1)).nm, .slice e (kid (k * 2 + 1)).n ce]] (gro w5 X) _ from stermsort_any n L hn HN.out (kid (k * 2 + 1)) F2 A e c ce (gro w5 X) (hA3.below X.h) (hJ.below X.h))
      rw [hv2] at hC2
      have gc := @gro_cell w5
      go_upto_region 5 with fail
      refine wp_region_grow_lit (by kernel_rfl) (by kernel_rfl) ?_
      repeat (go_big_quiet_step ((go_at_call 91; exact grow_call _ (hC2 _))))
      refine wpQuiet_nil ?_
      rintro _ ⟨X, rfl⟩
      clear gc hC2 l0 hv2 hA3 hJ hI
      have hb6 : Below W0.heap.size W0 (gro w5 X) := btr hb5 X.h
      generalize gro w5 X = w6 at *
      clear g0 a2 a3 gg5
      cases b1
      · have HFf := hid (b_no HB.out (fun h => by have := HVV.out.2 ⟨h.1, h.2.2.1 k hlt⟩; cases this.1))
        go_wp2
        go_ret
        exact ⟨ret_bool HFf.out.symm, btr q0 hb6⟩
      cases b2
      · have HFf := hid (b_no HB.out (fun h => by have := HVV.out.2 ⟨h.1, h.2.2.1 k hlt⟩; cases this.2.1))
        go_wp2
        go_ret
        exact ⟨ret_bool HFf.out.symm, btr q0 hb6⟩
      by_cases hss : s1 = s2
      · have d1 : (s1 != s2) = false := by simpa using hss
        have HT := hid (HVV.out.1 ⟨rfl, rfl, hss⟩)
        clear hss
        go_wp2
        go_roundw
        case rel =>
          refine ⟨k + 1, by omega, by go_num, hb6, fun _ => HT.out.1, fun j hj => ?_⟩
          by_cases ej : j = k
          · subst ej; exact HT.out.2
          · exact HE.out j (by omega)
        case measure => simp [intOf]; omega
      · have d1 : (s1 != s2) = true := by simpa using hss
        have HFf := hid (b_no HB.out (fun h => hss (HVV.out.2 ⟨h.1, h.2.2.1 k hlt⟩).2.2))
        clear hss
        go_wp2
        go_ret
        exact ⟨ret_bool HFf.out.symm, btr q0 hb6⟩
    · have hke : k = m := by omega
      subst hke
      have hS := ssigok_any A n c L wr (by omega) (hA2.below hb) HN.out
      have H0 := hid (fun (hs : sigB n L = false) => b_no HB.out (fun h => by have h1 := h.1; rw [hs] at h1; cases h1))
      cases hs : sigB n L
      · rw [hs] at hS
        have HFf := hid (H0.out hs)
        clear hs H0
        go_wp2_with fail
        refine hS.mono ?_
        rintro e w1 ⟨rfl, hq⟩
        go_wp2
        go_ret
        exact ⟨ret_bool HFf.out.symm, btr q0 (btr hb hq)⟩
      rw [hs] at hS
      have HS := hid hs; clear hs H0
      by_cases h12 : k ≤ 12
      · have d1 : decide ((k : Int) ≤ 12) = true := by simp; omega
        have hP := hid (fun W (h : Below W0.heap.size W0 W) => l5parts_any k kid 0 noT B d none 0 W hm (by omega) HF.out (fun j hj => absurd hj (Nat.not_lt_zero _)) (by have := HZ.out; simp only [sumT]; omega) (hB2.below h) (.inl rfl))
        have H12 := hid h12; clear h12
        go_wp2_with fail
        refine hS.mono ?_
        rintro e w1 ⟨rfl, hq⟩
        have hb1 := btr hb hq
        clear hS hq g0 l0
        go_wp2_with fail
        refine (hP.out _ hb1).mono ?_
        rintro e w2 ⟨X, v, rfl, hT, hFX, hE, hl, hq2⟩
        obtain ⟨va, vc, hve, _⟩ := hT.slice
        subst hve
        have HFf := hid (show decide ((X.length : Int) ≤ 24) = b by
          by_cases hx : X.length ≤ 24
          · rw [b_yes HB.out ⟨HS.out, H12.out, HE.out, fun j hj => absurd hj (Nat.not_lt_zero _), _, hE, by simpa using hx⟩]
            simp; omega
          · rw [b_no HB.out (fun h => by
              obtain ⟨Q, hQ, hQl⟩ := h.2.2.2.2
              rw [eparts_fun hQ hE, List.length_map] at hQl
              exact hx hQl)]
            simp; omega)
        have HQ := hid hq2
        clear hP hT hFX hE hl hq2
        go_wp2
        go_ret
        exact ⟨ret_bool (by rw [← HFf.out]), btr q0 (btr hb1 HQ.out)⟩
      · have d1 : decide ((k : Int) ≤ 12) = false := by simp; omega
        have HFf := hid (b_no HB.out (fun h => h12 h.2.1))
        clear h12
        go_wp2_with fail
        refine hS.mono ?_
        rintro e w1 ⟨rfl, hq⟩
        clear hS g0 l0
        go_wp2
        go_ret
        exact ⟨ret_bool HFf.out.symm, btr q0 (btr hb hq)⟩
end Go.Proofs.Ytmeglflbjedndaa

namespace Go.Proofs.Ytmeglflbjedndaa
set_option linter.unusedVariables false
set_option linter.unusedSimpArgs false
open Go.RowKit
theorem own_keepB {w w' : World} {base n size : Nat} {e : TypeId} {v : Value} {xs : List Value} (hv : ∀ g, v.ownBlock = some g → w'.heap[g]? = w.heap[g]?) (h : w.ownsRow base e size v n xs) : w'.ownsRow base e size v n xs := by
  obtain ⟨h1, h | ⟨g, cap, cur, rfl, h2, hh, h3⟩⟩ := h
  · exact ⟨h1, .inl h⟩
  · exact ⟨h1, .inr ⟨g, cap, cur, rfl, h2, (hv g rfl).trans hh, h3⟩⟩
theorem own_slice {w : World} {base n size : Nat} {e : TypeId} {v : Value} {xs : List Value} (h : w.ownsRow base e size v n xs) : ∃ a c, v = .slice a n c := by
  obtain ⟨_, ⟨rfl, h0⟩ | ⟨g', cap, cur, rfl, h2, hh, _⟩⟩ := h
  · exact ⟨none, 0, by rw [h0]⟩
  · exact ⟨_, _, rfl⟩
theorem own_lt {w : World} {base n size : Nat} {e : TypeId} {v : Value} {xs : List Value} (h : w.ownsRow base e size v n xs) {g : Nat} (hg : v.ownBlock = some g) : base ≤ g ∧ g < w.heap.size := by
  obtain ⟨_, ⟨rfl, _⟩ | ⟨g', cap, cur, rfl, h2, hh, _⟩⟩ := h
  · simp [Value.ownBlock] at hg
  · simp only [Value.ownBlock, Option.some.injEq] at hg
    subst hg
    exact ⟨h2, (Array.getElem?_eq_some_iff.1 hh).1⟩
theorem Tab.keepB {w w' : World} {b M lo : Nat} {P : List Tm} {S : List Sh} {v : Value} (h : Tab w b M lo P S v) (hb : w'.heap[b]? = w.heap[b]?) (hM : w'.heap[M]? = w.heap[M]?) (hv : ∀ g, v.ownBlock = some g → w'.heap[g]? = w.heap[g]?) : Tab w' b M lo P S v := by
  obtain ⟨F, hm, hr⟩ := h.mp
  exact ⟨hb.trans h.blk, own_keepB hv h.own, ⟨F, hm.of_block hM, hr⟩, h.ok⟩
theorem below_fr {w0 w w' : World} {b M : Nat} {v v' : Value} (hb : Below w0.heap.size w0 w) (hF : Fr b M v w v' w') (h1 : w0.heap.size ≤ b) (h2 : w0.heap.size ≤ M) (h3 : ∀ g, v.ownBlock = some g → w0.heap.size ≤ g) : Below w0.heap.size w0 w' :=
  ⟨hF.os.trans hb.os, hF.tape.trans hb.tape, hF.output.trans hb.output, Nat.le_trans hb.size hF.size, fun j hj => (hF.block j (Nat.lt_of_lt_of_le hj hb.size) (by omega) (by omega) (fun e => by have := h3 j e; omega)).trans (hb.block j hj)⟩
/-- a congruence in block cb: its table, and k pairs of numbers in the row gv -/
structure CSt (w : World) (lo cb b M : Nat) (P : List Tm) (S : List Sh) (v gv : Value) (k : Nat) (G : Nat → Nat × Nat) : Prop where
  tab : Tab w b M lo P S v
  box : w.rowIs cb 171 2 (fun j => if j = 0 then .pointer (some ⟨b, 0, none⟩) else gv)
  row : ∃ xs, w.ownsRow lo 264 2 gv k xs ∧ ∀ j, j < k → xs[j * 2]? = some (.int .i64 ((G j).1 : Nat)) ∧ xs[j * 2 + 1]? = some (.int .i64 ((G j).2 : Nat))
  low : lo ≤ cb ∧ lo ≤ b ∧ lo ≤ M
  ap1 : cb ≠ b ∧ cb ≠ M ∧ v.ownBlock ≠ some cb
  ap2 : gv.ownBlock ≠ some cb ∧ gv.ownBlock ≠ some b ∧ gv.ownBlock ≠ some M
  ap3 : ∀ g, v.ownBlock = some g → gv.ownBlock ≠ some g
theorem CSt.below {w w' : World} {lo cb b M k : Nat} {P : List Tm} {S : List Sh} {v gv : Value} {G : Nat → Nat × Nat} (h : CSt w lo cb b M P S v gv k G) (hb : Below w.heap.size w w') : CSt w' lo cb b M P S v gv k G := by
  obtain ⟨xs, hx, hg⟩ := h.row
  exact ⟨h.tab.below hb, row_below h.box hb, ⟨xs, own_belowT hb hx, hg⟩, h.low, h.ap1, h.ap2, h.ap3⟩
theorem CSt.lt {w : World} {lo cb b M k : Nat} {P : List Tm} {S : List Sh} {v gv : Value} {G : Nat → Nat × Nat} (h : CSt w lo cb b M P S v gv k G) : cb < w.heap.size ∧ b < w.heap.size ∧ M < w.heap.size := ⟨h.box.lt, h.tab.lt.1, h.tab.lt.2⟩
theorem CSt.add {w w' : World} {lo cb b M k : Nat} {P P' : List Tm} {S S' : List Sh} {v v' gv : Value} {G : Nat → Nat × Nat} (h : CSt w lo cb b M P S v gv k G) (hT : Tab w' b M lo P' S' v') (hF : Fr b M v w v' w') : CSt w' lo cb b M P' S' v' gv k G := by
  obtain ⟨xs, hx, hg⟩ := h.row
  have hgl := fun g (e : gv.ownBlock = some g) => own_lt hx e
  refine ⟨hT, h.box.of_block (hF.block cb h.box.lt h.ap1.1 h.ap1.2.1 h.ap1.2.2), ⟨xs, own_keepB (fun g e => hF.block g (hgl g e).2 (fun x => h.ap2.2.1 (x ▸ e)) (fun x => h.ap2.2.2 (x ▸ e)) (fun x => h.ap3 g x e)) hx, hg⟩, h.low, ⟨h.ap1.1, h.ap1.2.1, fun e => ?_⟩, h.ap2, fun g e e2 => ?_⟩
  · rcases hF.own cb e with x | x
    · exact h.ap1.2.2 x
    · exact absurd h.box.lt (by omega)
  · rcases hF.own g e with x | x
    · exact h.ap3 g x e2
    · exact absurd (hgl g e2).2 (by omega)
theorem CSt.setL {w : World} {lo cb b M k x o : Nat} {P : List Tm} {S : List Sh} {v gv : Value} {G : Nat → Nat × Nat} (u : Value) (hx : x < lo) (h : CSt w lo cb b M P S v gv k G) : CSt (w.setCell ⟨x, o, none⟩ u) lo cb b M P S v gv k G := by
  obtain ⟨xs, hxs, hg⟩ := h.row
  have hl := h.low
  exact ⟨h.tab.setN (by omega) (by omega) (fun e => by have := (own_lt h.tab.own e).1; omega), h.box.setOther (by simp; omega) _, ⟨xs, own_setT2 (fun e => by have := (own_lt hxs e).1; omega) hxs, hg⟩, h.low, h.ap1, h.ap2, h.ap3⟩
/-- a pair more -/
theorem CSt.push {w w6 : World} {lo cb b M k i j : Nat} {P : List Tm} {S : List Sh} {v gv gv' : Value} {G : Nat → Nat × Nat} {xs : List Value} (h : CSt w lo cb b M P S v gv k G) (hxs : ∀ j, j < k → xs[j * 2]? = some (.int .i64 ((G j).1 : Nat)) ∧ xs[j * 2 + 1]? = some (.int .i64 ((G j).2 : Nat))) (hlen : xs.length = k * 2)
    (hlo : lo ≤ w.heap.size) (hown : w6.ownsRow lo 264 2 gv' (k + 1) (xs ++ [.int .i64 (i : Nat), .int .i64 (j : Nat)])) (hgrow : w.grownBy w6 gv.ownBlock) (hf : gv'.ownBlock = gv.ownBlock ∨ gv'.ownBlock = some w.heap.size) :
    CSt (w6.setCell ⟨cb, 1, none⟩ gv') lo cb b M P S v gv' (k + 1) (fun t => if t = k then (i, j) else G t) := by
  have hne : ∀ g, g < w.heap.size → gv.ownBlock ≠ some g → gv'.ownBlock ≠ some g := fun g hg hn e => by
    rcases hf with x | x
    · exact hn (x ▸ e)
    · rw [x] at e; injection e with e; omega
  have hl := h.lt
  have a1 := hne cb hl.1 h.ap2.1
  have a2 := hne b hl.2.1 h.ap2.2.1
  have a3 := hne M hl.2.2 h.ap2.2.2
  have hvl := fun g (e : v.ownBlock = some g) => own_lt h.tab.own e
  have kb : ∀ g, g < w.heap.size → gv.ownBlock ≠ some g → w6.heap[g]? = w.heap[g]? := fun g hg hn => hgrow.block g hg (fun e => hn e.symm)
  have hT6 : Tab w6 b M lo P S v := h.tab.keepB (kb b hl.2.1 h.ap2.2.1) (kb M hl.2.2 h.ap2.2.2) (fun g e => kb g (hvl g e).2 (h.ap3 g e))
  have hB6 := h.box.of_block (kb cb hl.1 h.ap2.1)
  refine ⟨hT6.setN h.ap1.1 h.ap1.2.1 h.ap1.2.2, (hB6.set 1 gv').congr fun t ht => ?_, ⟨_, own_setT2 a1 hown, fun t ht => ?_⟩, h.low, h.ap1, ⟨a1, a2, a3⟩, fun g e => hne g (hvl g e).2 (h.ap3 g e)⟩
  · by_cases e : t = 1
    · subst e; simp
    · have : t = 0 := by omega
      subst this; simp
  · by_cases e : t = k
    · subst e
      rw [if_pos rfl, List.getElem?_append_right (by omega), List.getElem?_append_right (by omega)]
      constructor
      · rw [show t * 2 - xs.length = 0 by omega]; rfl
      · rw [show t * 2 + 1 - xs.length = 1 by omega]; rfl
    · rw [if_neg e, List.getElem?_append_left (by omega), List.getElem?_append_left (by omega)]
      exact hxs t (by omega)
theorem infoTwo : (Try.prog.info? 264).map (fun i => (i.zero, i.size, i.bytes)) = some (some (.agg #[.int .i64 0, .int .i64 0]), 2, 16) := by kernel_rfl
end Go.Proofs.Ytmeglflbjedndaa

namespace Go.Proofs.Ytmeglflbjedndaa
set_option linter.unusedVariables false
set_option linter.unusedSimpArgs false
open Go.RowKit
/-- the pairs of a congruence are the places of the sides of its equations -/
def Sides (m : Nat) (kid : Nat → Tm) (P : List Tm) (G : Nat → Nat × Nat) : Prop :=
  ∀ j, j < m → ((G j).1 < P.length ∧ TEq (P.getD (G j).1 default) (kid (j * 2))) ∧ ((G j).2 < P.length ∧ TEq (P.getD (G j).2 default) (kid (j * 2 + 1)))
theorem Sides.app {m : Nat} {kid : Nat → Tm} {P X : List Tm} {G : Nat → Nat × Nat} (h : Sides m kid P G) : Sides m kid (P ++ X) G := fun j hj => by
  obtain ⟨⟨a1, a2⟩, a3, a4⟩ := h j hj
  refine ⟨⟨by rw [List.length_append]; omega, by rw [getD_app_left a1]; exact a2⟩, by rw [List.length_append]; omega, by rw [getD_app_left a3]; exact a4⟩
/-- what congruenceOf answers -/
def CongP (n : Nat) (L : Sy) (m : Nat) (kid : Nat → Tm) (q : Nat) (mk : Nat → Tm) (w : World) (e : Ending) (w' : World) : Prop :=
  ∃ (p0 ga : Option Addr) (gk gc : Nat) (ok : Bool), e = .returned (.tuple #[.agg #[.pointer p0, .slice ga gk gc], .bool ok]) ∧ Below w.heap.size w w' ∧ (ok = true ↔ CgP n L m kid q mk) ∧
    (ok = true → ∃ (lo cb b M : Nat) (P : List Tm) (S : List Sh) (v : Value) (G : Nat → Nat × Nat), w.heap.size ≤ lo ∧ lo ≤ w'.heap.size ∧ p0 = some ⟨b, 0, none⟩ ∧ CSt w' lo cb b M P S v (.slice ga gk gc) m G ∧ EParts m kid q mk P ∧ Sides m kid P G ∧ (∀ u ∈ P, Fits 1048576 u))
theorem CongP.no {n : Nat} {L : Sy} {m : Nat} {kid : Nat → Tm} {q : Nat} {mk : Nat → Tm} {w w' : World} {p0 ga : Option Addr} {gk gc : Nat} (hb : Below w.heap.size w w') (h : ¬ CgP n L m kid q mk) : CongP n L m kid q mk w (.returned (.tuple #[.agg #[.pointer p0, .slice ga gk gc], .bool false])) w' :=
  ⟨p0, ga, gk, gc, false, rfl, hb, ⟨(fun h => by cases h), fun x => absurd x h⟩, (fun h => by cases h)⟩
theorem zeroCg (w : World) : (zeroValue 171).run Try.prog w = .ok (.agg #[.pointer none, .slice none 0 0]) w := by
  obtain ⟨i, hi, hzz⟩ := Option.map_eq_some_iff.1 (show (Try.prog.info? 171).map (fun i => i.zero) = some (some (.agg #[.pointer none, .slice none 0 0])) by kernel_rfl)
  simp [zeroValue, typeInfo, hi, hzz, Result.andThen]
set_option maxRecDepth 100000 in
set_option maxHeartbeats 8000000 in
theorem congof_any (n : Nat) (L : Sy) (hn : n ≤ 1048576) (m : Nat) (kid : Nat → Tm) (hm : m ≤ 1048576) (hF : ∀ k, k < m * 2 → Fits 1048576 (kid k)) (q : Nat) (mk : Nat → Tm) (hq : q ≤ 1048576) (hG : ∀ k, k < q → Fits 1048576 (mk k)) (hz : sumT (m * 2) (fun k => tSz (kid k)) + sumT q (fun k => tSz (mk k)) ≤ 1073741824)
    (A : Option Addr) (c : Nat) (B : Option Addr) (d : Nat) (D : Option Addr) (f : Nat) (w : World) (hA : Syms w A n L) (hB : EqT w B m kid) (hD : KidT 0 w (.mk ⟨#[]⟩ q mk) D) :
    Calls Try.prog 111 #[.agg #[.slice A n c], .slice B m d, .slice D q f] w (CongP n L m kid q mk w) := by
  have HF := hid hF; have HG := hid hG; have HZ := hid hz; clear hF hG hz
  have hzz := zeroCg
  have H : KcL [(w.heap.size, 0, .slice A n c)] ((w.alloc (.cells #[.slice A n c] 39)).alloc (.cells #[.pointer none, .slice none 0 0] 171)) := by
    refine ⟨?_, trivial⟩ <;> simp [go_sem]
  have R0 : ((w.alloc (.cells #[.slice A n c] 39)).alloc (.cells #[.pointer none, .slice none 0 0] 171)).rowIs (w.heap.size + 1) 171 2 (fun j => if j = 0 then .pointer none else .slice none 0 0) := by
    have h := row2_new (w.alloc (.cells #[.slice A n c] 39)) (.pointer none) (.slice none 0 0) 171
    rw [World.size_alloc] at h
    exact h
  have q0 := bal (bal (Below.refl w.heap.size w) (.cells #[.slice A n c] 39)) (.cells #[.pointer none, .slice none 0 0] 171)
  have hA1 := hA.below q0
  have hB1 := hB.below q0
  have hD1 := KidT.keep (KpT.below q0) hD
  have hS := hid (fun W (h : Below w.heap.size w W) => sigok_any A n c L W (by omega) (hA.below h))
  have hsz : ((w.alloc (.cells #[.slice A n c] 39)).alloc (.cells #[.pointer none, .slice none 0 0] 171)).heap.size = w.heap.size + 2 := by simp [go_sem]
  clear hA hB hD
  have HN := hid (fun (hs : ¬ CgP n L m kid q mk) W (h : Below w.heap.size w W) => CongP.no (p0 := none) (ga := none) (gk := 0) (gc := 0) h hs)
  cases hs : sigB n L
  · have HC := hid (show ¬ CgP n L m kid q mk from fun h => by have h1 := h.1; rw [hs] at h1; cases h1)
    rw [hs] at hS
    clear hs
    go_enter Try.func111, Try.ntmps111
    go_wp2_with fail
    refine (hS.out _ q0).mono ?_
    rintro e w1 ⟨rfl, hq1⟩
    replace R0 := row_below R0 hq1
    replace q0 := btr q0 hq1
    clear hq1
    have RN := hid (((R0.set 0 (.pointer none)).set 1 (.slice none 0 0)))
    have x0 := R0.cell (i := 0) (by omega)
    have x1 := R0.cell (i := 1) (by omega)
    have f0 := R0.frozen 0
    have f1 := R0.frozen 1
    simp only [if_true, Nat.one_ne_zero, if_false] at x0 x1
    go_wp2
    have t0 : ((w1.setCell ⟨w.heap.size + 1, 0, none⟩ (.pointer none)).setCell ⟨w.heap.size + 1, 1, none⟩ (.slice none 0 0)).cell? ⟨w.heap.size + 1, 0, none⟩ = some (.pointer none) := RN.out.cell (i := 0) (by omega)
    have t1 : ((w1.setCell ⟨w.heap.size + 1, 0, none⟩ (.pointer none)).setCell ⟨w.heap.size + 1, 1, none⟩ (.slice none 0 0)).cell? ⟨w.heap.size + 1, 1, none⟩ = some (.slice none 0 0) := RN.out.cell (i := 1) (by omega)
    refine bodyPost_ret (v := .tuple #[.agg #[.pointer none, .slice none 0 0], .bool false]) (by simp [results, Try.results111, go_sem, t0, t1]) rfl ?_
    exact HN.out HC.out _ (bst (bst q0 (p := ⟨w.heap.size + 1, 0, none⟩) (show w.heap.size ≤ w.heap.size + 1 by omega) _) (p := ⟨w.heap.size + 1, 1, none⟩) (show w.heap.size ≤ w.heap.size + 1 by omega) _)
  rw [hs] at hS
  have HS := hid hs; clear hs
  by_cases h12 : m ≤ 12
  rotate_left
  · have HC := hid (show ¬ CgP n L m kid q mk from fun h => h12 h.2.1)
    have d1 : decide (12 < (m : Int)) = true := by simp; omega
    clear h12
    go_enter Try.func111, Try.ntmps111
    go_wp2_with fail
    refine (hS.out _ q0).mono ?_
    rintro e w1 ⟨rfl, hq1⟩
    replace R0 := row_below R0 hq1
    replace q0 := btr q0 hq1
    clear hq1
    have RN := hid (((R0.set 0 (.pointer none)).set 1 (.slice none 0 0)))
    have x0 := R0.cell (i := 0) (by omega)
    have x1 := R0.cell (i := 1) (by omega)
    have f0 := R0.frozen 0
    have f1 := R0.frozen 1
    simp only [if_true, Nat.one_ne_zero, if_false] at x0 x1
    go_wp2
    have t0 : ((w1.setCell ⟨w.heap.size + 1, 0, none⟩ (.pointer none)).setCell ⟨w.heap.size + 1, 1, none⟩ (.slice none 0 0)).cell? ⟨w.heap.size + 1, 0, none⟩ = some (.pointer none) := RN.out.cell (i := 0) (by omega)
    have t1 : ((w1.setCell ⟨w.heap.size + 1, 0, none⟩ (.pointer none)).setCell ⟨w.heap.size + 1, 1, none⟩ (.slice none 0 0)).cell? ⟨w.heap.size + 1, 1, none⟩ = some (.slice none 0 0) := RN.out.cell (i := 1) (by omega)
    refine bodyPost_ret (v := .tuple #[.agg #[.pointer none, .slice none 0 0], .bool false]) (by simp [results, Try.results111, go_sem, t0, t1]) rfl ?_
    exact HN.out HC.out _ (bst (bst q0 (p := ⟨w.heap.size + 1, 0, none⟩) (show w.heap.size ≤ w.heap.size + 1 by omega) _) (p := ⟨w.heap.size + 1, 1, none⟩) (show w.heap.size ≤ w.heap.size + 1 by omega) _)
  have d1 : decide (12 < (m : Int)) = false := by simp; omega
  have H12 := hid h12; clear h12
  go_enter Try.func111, Try.ntmps111
  go_wp2_with fail
  refine (hS.out _ q0).mono ?_
  rintro e w1 ⟨rfl, hq1⟩
  replace hA1 := hA1.below hq1
  replace hB1 := hB1.below hq1
  replace hD1 := KidT.keep (KpT.below hq1) hD1
  replace H := H.below hq1
  replace R0 := row_below R0 hq1
  replace q0 := btr q0 hq1
  have hs1 := hq1.size
  rw [hsz] at hs1
  clear hS hq1 hsz
  go_wp2_with fail
  refine (newtable_any w1).mono ?_
  rintro e w2 ⟨b, M, rfl, hb1, hM1, hT, hq2⟩
  have al := bal (Below.refl w2.heap.size w2) (.cells #[.pointer (some ⟨b, 0, none⟩), .slice none 0 0] 171)
  have hx := row2_new w2 (.pointer (some ⟨b, 0, none⟩)) (.slice none 0 0) 171
  have hTl := (hT w1.heap.size).lt
  have hst0 := hid (show CSt (w2.alloc (.cells #[.pointer (some ⟨b, 0, none⟩), .slice none 0 0] 171)) w1.heap.size w2.heap.size b M [] [] (.slice none 0 0) (.slice none 0 0) 0 (fun _ => (0, 0)) from
    ⟨(hT w1.heap.size).below al, hx, ⟨[], World.ownsRow_nil _ _ _ _, fun j hj => absurd hj (Nat.not_lt_zero _)⟩, ⟨hq2.size, hb1, hM1⟩, ⟨by omega, by omega, by simp [Value.ownBlock]⟩, ⟨by simp [Value.ownBlock], by simp [Value.ownBlock], by simp [Value.ownBlock]⟩, fun g e => by simp [Value.ownBlock] at e⟩)
  have hb2 := hid (btr hq2 al)
  clear hT hTl hx al hq2
  go_upto_region 4 with fail
  generalize w2.alloc (.cells #[.pointer (some ⟨b, 0, none⟩), .slice none 0 0] 171) = w3 at *
  generalize w2.heap.size = cb at *
  go_wp2
  go_loopw [34] (fun i wr => ∃ k : Nat, k ≤ m ∧ i = .int .i64 k ∧ Below w1.heap.size w1 wr ∧ ∃ (P : List Tm) (S : List Sh) (v gv : Value) (G : Nat → Nat × Nat), CSt wr w1.heap.size cb b M P S v gv k G ∧ AddK (fun k => AddT (kid k)) (k * 2) [] P ∧ P.length ≤ sumT (k * 2) (fun k => tSz (kid k)) ∧ (∀ u ∈ P, Fits 1048576 u) ∧ Sides k kid P G ∧ ∀ j, j < k → EOk n L (kid (j * 2)) (kid (j * 2 + 1))) (fun i _ => m - (intOf i).toNat)
  case atStart => exact ⟨0, Nat.zero_le _, rfl, hb2.out, [], [], _, _, _, hst0.out, rfl, Nat.zero_le _, (fun u h => by cases h), fun j hj => absurd hj (Nat.not_lt_zero _), fun j hj => absurd hj (Nat.not_lt_zero _)⟩
  case round =>
    obtain ⟨k, hk, rfl, hb, P, S, v, gv, G, hC, hK, hPl, hFP, hSd, hE⟩ := hrel
    have HCS := hid hC; have HK := hid hK; have HPl := hid hPl; have HFP := hid hFP; have HSd := hid hSd; have HE := hid hE
    clear hC hK hPl hFP hSd hE hst0 hb2
    have HLT := hid HCS.out.lt
    have HTAB := hid HCS.out.tab
    have H2 := H.below hb
    have R1 := row_below R0 hb
    have q1 := btr q0 hb
    have hsm : sumT (k * 2) (fun k => tSz (kid k)) ≤ sumT (m * 2) (fun k => tSz (kid k)) := sumT_mono (by omega)
    have hP1 := HPl.out
    have hZ := HZ.out
    have HH_ := H2; obtain ⟨c0, _⟩ := HH_
    have l0 := cell_lt c0
    by_cases hlt : k < m
    · rcases hB1 with h0 | ⟨g, off, rfl, hg, hcA⟩
      · omega
      obtain ⟨a, ca, e, ce, a0, a1, a2, a3, m1, m2, m3, m4, hI, hJ⟩ := hcA k hlt
      have gg : g < wr.heap.size := Nat.lt_of_lt_of_le hg hb.size
      replace a0 := carry hb a0
      replace a1 := carry hb a1
      replace a2 := carry hb a2
      replace a3 := carry hb a3
      have F1 := HF.out (k * 2) (by omega)
      have F2 := HF.out (k * 2 + 1) (by omega)
      obtain ⟨s1, b1, hv1, hv1b, hv1s⟩ := tsv_of HS.out (kid (k * 2))
      obtain ⟨s2, b2, hv2, hv2b, hv2s⟩ := tsv_of HS.out (kid (k * 2 + 1))
      have al := bal (Below.refl wr.heap.size wr) (.cells #[.string (kid (k * 2)).nm, .slice a (kid (k * 2)).n ca, .string (kid (k * 2 + 1)).nm, .slice e (kid (k * 2 + 1)).n ce] 165)
      have R4 := row_newA wr #[.string (kid (k * 2)).nm, .slice a (kid (k * 2)).n ca, .string (kid (k * 2 + 1)).nm, .slice e (kid (k * 2 + 1)).n ce] 165
      have T1 := hid (fun W (h : Below w1.heap.size w1 W) => termsort_at (c := c) (d := ca) hn F1 hA1 hI.kids ⟨hv1, hv1b, hv1s⟩ W h)
      have T2 := hid (fun W (h : Below w1.heap.size w1 W) => termsort_at (c := c) (d := ce) hn F2 hA1 hJ.kids ⟨hv2, hv2b, hv2s⟩ W h)
      have I1 := hid hI; have J1 := hid hJ
      have V1 := hid hv1b; have V2 := hid hv2b; have V1s := hid hv1s; have V2s := hid hv2s
      clear hcA hI hJ hv1 hv2 hv1b hv2b hv1s hv2s
      go_upto_region 7 with fail
      clear a0 a1 a2 a3 gg l0
      replace c0 := carry al c0
      replace R1 := row_below R1 al
      have hb3 := btr hb al
      replace q1 := btr q1 al
      replace HCS := hid (HCS.out.below al)
      generalize wr.alloc (.cells #[.string (kid (k * 2)).nm, .slice a (kid (k * 2)).n ca, .string (kid (k * 2 + 1)).nm, .slice e (kid (k * 2 + 1)).n ce] 165) = w4 at *
      clear al
      have hEb := hid (show b < wr.heap.size ∧ M < wr.heap.size ∧ cb < wr.heap.size ∧ (∀ g, v.ownBlock = some g → g < wr.heap.size) from ⟨HLT.out.2.1, HLT.out.2.2, HLT.out.1, fun g eg => (own_lt HTAB.out.own eg).2⟩)
      clear HLT HTAB
      generalize wr.heap.size = eb at *
      have e0 : w4.cell? ⟨eb, 0, none⟩ = some (.string (kid (k * 2)).nm) := R4.cell (i := 0) (by simp)
      have e1 : w4.cell? ⟨eb, 1, none⟩ = some (.slice a (kid (k * 2)).n ca) := R4.cell (i := 1) (by simp)
      have l0 := cell_lt c0
      have l1 := cell_lt e0
      go_wp2_with fail
      refine (T1.out _ hb3).mono ?_
      rintro e5 w5 ⟨rfl, hq5⟩
      clear e0 e1 l0 l1 T1
      replace c0 := carry hq5 c0
      replace R1 := row_below R1 hq5
      replace R4 := row_below R4 hq5
      replace q1 := btr q1 hq5
      replace HCS := hid (HCS.out.below hq5)
      replace hb3 := btr hb3 hq5
      clear hq5
      have e2 : w5.cell? ⟨eb, 2, none⟩ = some (.string (kid (k * 2 + 1)).nm) := R4.cell (i := 2) (by simp)
      have e3 : w5.cell? ⟨eb, 3, none⟩ = some (.slice e (kid (k * 2 + 1)).n ce) := R4.cell (i := 3) (by simp)
      have l0 := cell_lt c0
      have l1 := cell_lt e2
      go_wp2_with fail
      refine (T2.out _ hb3).mono ?_
      rintro e6 w6 ⟨rfl, hq6⟩
      clear e2 e3 l0 l1 T2
      replace c0 := carry hq6 c0
      replace R1 := row_below R1 hq6
      replace R4 := row_below R4 hq6
      replace q1 := btr q1 hq6
      replace HCS := hid (HCS.out.below hq6)
      replace hb3 := btr hb3 hq6
      clear hq6
      cases b1
      · have HC := hid (show ¬ CgP n L m kid q mk from fun h => by have := V1.out.2 (h.2.2.1 k hlt).1; cases this)
        have RN := hid (((R1.set 0 (.pointer none)).set 1 (.slice none 0 0)))
        have x0 := R1.cell (i := 0) (by omega)
        have x1 := R1.cell (i := 1) (by omega)
        have f0 := R1.frozen 0
        have f1 := R1.frozen 1
        simp only [if_true, Nat.one_ne_zero, if_false] at x0 x1
        go_wp2
        have t0 : ((w6.setCell ⟨w.heap.size + 1, 0, none⟩ (.pointer none)).setCell ⟨w.heap.size + 1, 1, none⟩ (.slice none 0 0)).cell? ⟨w.heap.size + 1, 0, none⟩ = some (.pointer none) := RN.out.cell (i := 0) (by omega)
        have t1 : ((w6.setCell ⟨w.heap.size + 1, 0, none⟩ (.pointer none)).setCell ⟨w.heap.size + 1, 1, none⟩ (.slice none 0 0)).cell? ⟨w.heap.size + 1, 1, none⟩ = some (.slice none 0 0) := RN.out.cell (i := 1) (by omega)
        refine bodyPost_ret (v := .tuple #[.agg #[.pointer none, .slice none 0 0], .bool false]) (by simp [results, Try.results111, go_sem, t0, t1]) rfl ?_
        exact HN.out HC.out _ (bst (bst q1 (p := ⟨w.heap.size + 1, 0, none⟩) (show w.heap.size ≤ w.heap.size + 1 by omega) _) (p := ⟨w.heap.size + 1, 1, none⟩) (show w.heap.size ≤ w.heap.size + 1 by omega) _)
      cases b2
      · have HC := hid (show ¬ CgP n L m kid q mk from fun h => by have := V2.out.2 (h.2.2.1 k hlt).2.1; cases this)
        have RN := hid (((R1.set 0 (.pointer none)).set 1 (.slice none 0 0)))
        have x0 := R1.cell (i := 0) (by omega)
        have x1 := R1.cell (i := 1) (by omega)
        have f0 := R1.frozen 0
        have f1 := R1.frozen 1
        simp only [if_true, Nat.one_ne_zero, if_false] at x0 x1
        go_wp2
        have t0 : ((w6.setCell ⟨w.heap.size + 1, 0, none⟩ (.pointer none)).setCell ⟨w.heap.size + 1, 1, none⟩ (.slice none 0 0)).cell? ⟨w.heap.size + 1, 0, none⟩ = some (.pointer none) := RN.out.cell (i := 0) (by omega)
        have t1 : ((w6.setCell ⟨w.heap.size + 1, 0, none⟩ (.pointer none)).setCell ⟨w.heap.size + 1, 1, none⟩ (.slice none 0 0)).cell? ⟨w.heap.size + 1, 1, none⟩ = some (.slice none 0 0) := RN.out.cell (i := 1) (by omega)
        refine bodyPost_ret (v := .tuple #[.agg #[.pointer none, .slice none 0 0], .bool false]) (by simp [results, Try.results111, go_sem, t0, t1]) rfl ?_
        exact HN.out HC.out _ (bst (bst q1 (p := ⟨w.heap.size + 1, 0, none⟩) (show w.heap.size ≤ w.heap.size + 1 by omega) _) (p := ⟨w.heap.size + 1, 1, none⟩) (show w.heap.size ≤ w.heap.size + 1 by omega) _)
      by_cases hss : s1 = s2
      rotate_left
      · have HC := hid (show ¬ CgP n L m kid q mk from fun h => hss (by rw [V1s.out rfl, V2s.out rfl]; exact (h.2.2.1 k hlt).2.2))
        have d2 : (s1 != s2) = true := by simpa using hss
        clear hss
        have RN := hid (((R1.set 0 (.pointer none)).set 1 (.slice none 0 0)))
        have x0 := R1.cell (i := 0) (by omega)
        have x1 := R1.cell (i := 1) (by omega)
        have f0 := R1.frozen 0
        have f1 := R1.frozen 1
        simp only [if_true, Nat.one_ne_zero, if_false] at x0 x1
        go_wp2
        have t0 : ((w6.setCell ⟨w.heap.size + 1, 0, none⟩ (.pointer none)).setCell ⟨w.heap.size + 1, 1, none⟩ (.slice none 0 0)).cell? ⟨w.heap.size + 1, 0, none⟩ = some (.pointer none) := RN.out.cell (i := 0) (by omega)
        have t1 : ((w6.setCell ⟨w.heap.size + 1, 0, none⟩ (.pointer none)).setCell ⟨w.heap.size + 1, 1, none⟩ (.slice none 0 0)).cell? ⟨w.heap.size + 1, 1, none⟩ = some (.slice none 0 0) := RN.out.cell (i := 1) (by omega)
        refine bodyPost_ret (v := .tuple #[.agg #[.pointer none, .slice none 0 0], .bool false]) (by simp [results, Try.results111, go_sem, t0, t1]) rfl ?_
        exact HN.out HC.out _ (bst (bst q1 (p := ⟨w.heap.size + 1, 0, none⟩) (show w.heap.size ≤ w.heap.size + 1 by omega) _) (p := ⟨w.heap.size + 1, 1, none⟩) (show w.heap.size ≤ w.heap.size + 1 by omega) _)
      have d2 : (s1 != s2) = false := by simpa using hss
      have HEO := hid (show EOk n L (kid (k * 2)) (kid (k * 2 + 1)) from ⟨V1.out.1 rfl, V2.out.1 rfl, by rw [← V1s.out rfl, ← V2s.out rfl, hss]⟩)
      clear hss
      have hs1' : sumT (k * 2 + 1) (fun k => tSz (kid k)) = sumT (k * 2) (fun k => tSz (kid k)) + tSz (kid (k * 2)) := rfl
      have hs2' : sumT (k * 2 + 1 + 1) (fun k => tSz (kid k)) = sumT (k * 2 + 1) (fun k => tSz (kid k)) + tSz (kid (k * 2 + 1)) := rfl
      have hsm2 : sumT (k * 2 + 1 + 1) (fun k => tSz (kid k)) ≤ sumT (m * 2) (fun k => tSz (kid k)) := sumT_mono (by omega)
      have HSZ := hid (show sumT ((k + 1) * 2) (fun k => tSz (kid k)) = sumT (k * 2) (fun k => tSz (kid k)) + tSz (kid (k * 2)) + tSz (kid (k * 2 + 1)) by rw [show (k + 1) * 2 = k * 2 + 1 + 1 by omega, hs2', hs1'])
      have hS1 := add_any (kid (k * 2)) (sm2_well HEO.out.1.1) a ca b M w1.heap.size P S v w6 (KidT.keep (KpT.below hb3) I1.out) HCS.out.tab hb3.size (by omega)
      have HBD := hid (show P.length + tSz (kid (k * 2)) + tSz (kid (k * 2 + 1)) ≤ 1073741824 by omega)
      clear hs1' hs2' hsm2 hsm hZ hP1
      have e0 : w6.cell? ⟨eb, 0, none⟩ = some (.string (kid (k * 2)).nm) := R4.cell (i := 0) (by simp)
      have e1 : w6.cell? ⟨eb, 1, none⟩ = some (.slice a (kid (k * 2)).n ca) := R4.cell (i := 1) (by simp)
      have y0 := HCS.out.box.cell (i := 0) (by omega)
      simp only [if_true] at y0
      go_upto_region 12 with (go_at_call 171; refine hS1.mono ?_; rintro e7 w7 ⟨i1, P1, X1, S1, u1, rfl, hA7, hP7, hX7, hi7, ht7, hT7, hF7⟩)
      have hvl := fun t (et : v.ownBlock = some t) => own_lt HCS.out.tab.own et
      have hE := hEb.out
      have hC7 := hid (HCS.out.add hT7 hF7)
      have hb7 := below_fr hb3 hF7 hb1 hM1 (fun t et => (hvl t et).1)
      have R47 := R4.of_block (hF7.block eb R4.lt (by omega) (by omega) (fun et => by have := hE.2.2.2 eb et; omega))
      have hFP7 := hid (fits_addT F1 hA7 HFP.out)
      have hl7 := hid (show P1.length ≤ P.length + tSz (kid (k * 2)) by rw [hP7, List.length_append]; omega)
      have HA7 := hid hA7; have HP7 := hid hP7; have HI7 := hid hi7; have HT7 := hid ht7
      clear hT7 hF7 hA7 hP7 hX7 hi7 ht7 e0 e1 y0 hvl hE hS1 R1 q1 c0 R4 hb3
      have hS2 := add_any (kid (k * 2 + 1)) (sm2_well HEO.out.2.1.1) e ce b M w1.heap.size P1 S1 u1 w7 (KidT.keep (KpT.below hb7) J1.out) hC7.out.tab hb7.size (by have := HBD.out; have := hl7.out; omega)
      have e2 : w7.cell? ⟨eb, 2, none⟩ = some (.string (kid (k * 2 + 1)).nm) := R47.cell (i := 2) (by simp)
      have e3 : w7.cell? ⟨eb, 3, none⟩ = some (.slice e (kid (k * 2 + 1)).n ce) := R47.cell (i := 3) (by simp)
      have y0 := hC7.out.box.cell (i := 0) (by omega)
      simp only [if_true] at y0
      have l0 := cell_lt e2
      have l1 := cell_lt y0
      go_upto_region 13 with (go_at_call 171; refine hS2.mono ?_; rintro e8 w8 ⟨i2, P2, X2, S2, u2, rfl, hA8, hP8, hX8, hi8, ht8, hT8, hF8⟩)
      have hvl := fun t (et : u1.ownBlock = some t) => own_lt hC7.out.tab.own et
      have hC8 := hid (hC7.out.add hT8 hF8)
      have hb8 := below_fr hb7 hF8 hb1 hM1 (fun t et => (hvl t et).1)
      have hFP8 := hid (fits_addT F2 hA8 hFP7.out)
      have hl8 := hid (show P2.length ≤ P1.length + tSz (kid (k * 2 + 1)) by rw [hP8, List.length_append]; omega)
      have HA8 := hid hA8; have HP8 := hid hP8; have HI8 := hid hi8; have HT8 := hid ht8
      clear hT8 hF8 hA8 hP8 hX8 hi8 ht8 e2 e3 y0 l0 l1 hvl hS2 R47 hb7
      have y1 := hC8.out.box.cell (i := 1) (by omega)
      simp only [Nat.one_ne_zero, if_false] at y1
      obtain ⟨xs, hxo, hxs⟩ := hC8.out.row
      obtain ⟨j0, hj0, hz0, hz1, hz2⟩ := info_parts infoTwo
      have CX := bal (Below.refl w8.heap.size w8) (.cells #[.int .i64 (i1 : Nat), .int .i64 (i2 : Nat)] 264)
      have hC9 := hid (hC8.out.below CX)
      have hxo9 := own_belowT CX hxo
      have hb9 := hid (btr hb8 CX)
      have hnews : ∀ (j : Nat) (u : Value), ([.int .i64 (i1 : Nat), .int .i64 (i2 : Nat)] : List Value)[j]? = some u → (w8.alloc (.cells #[.int .i64 (i1 : Nat), .int .i64 (i2 : Nat)] 264)).cell? ((⟨w8.heap.size, 0, none⟩ : Addr).add j) = some u := by
        intro j u h
        match j with
        | 0 => simp at h; subst h; simp [go_sem, Addr.add]
        | 1 => simp at h; subst h; simp [go_sem, Addr.add]
        | j + 2 => simp at h
      have hone : ∀ u ∈ ([.int .i64 (i1 : Nat), .int .i64 (i2 : Nat)] : List Value), u.oneCell' = true := fun u hu => by simp at hu; rcases hu with rfl | rfl <;> rfl
      have hlx := hxo.1
      have hk12 := H12.out
      have hl9 : w1.heap.size ≤ (w8.alloc (.cells #[.int .i64 (i1 : Nat), .int .i64 (i2 : Nat)] 264)).heap.size := hb9.out.size
      have l1 := cell_lt y1
      have hcl := hC8.out.lt.1
      have hcc : cb ≠ w8.heap.size := by omega
      go_upto_region 14 with (at_builtin; go_loud (refine wpList_append_own_at _ rfl _ _ 169 rfl w1.heap.size 264 j0 _ 2 16 Try.underlying169 hj0 hz0 hz1 hz2 rfl (by decide) gv k xs rfl hxo9 ⟨w8.heap.size, 0, none⟩ 1 1 [.int .i64 (i1 : Nat), .int .i64 (i2 : Nat)] rfl rfl hnews hone (by unfold maxLen; omega) (by omega) hl9 ?_); intro gv' w9 hown9 hgrow9 _ hfresh9; obtain ⟨ga9, gc9, hge9⟩ := own_slice hown9; subst hge9; have y9 : w9.cell? ⟨cb, 1, none⟩ = some gv := (World.cell?_of_block (w := w8.alloc (.cells #[.int .i64 (i1 : Nat), .int .i64 (i2 : Nat)] 264)) (a := ⟨cb, 1, none⟩) (hgrow9.block cb hC9.out.lt.1 (fun h => hC9.out.ap2.1 h.symm))).trans (carry CX y1); have z9 : w9.frozen? ⟨cb, 1, none⟩ = false := (World.frozen?_of_block (w := w8.alloc (.cells #[.int .i64 (i1 : Nat), .int .i64 (i2 : Nat)] 264)) (a := ⟨cb, 1, none⟩) (hgrow9.block cb hC9.out.lt.1 (fun h => hC9.out.ap2.1 h.symm))).trans (hC9.out.box.frozen 1))
      have hC10 := hC9.out.push (i := i1) (j := i2) hxs hlx hl9 hown9 hgrow9 hfresh9
      have hbg := hb9.out.grown hgrow9 hl9 (fun r hr => (own_lt hxo9 hr).1)
      have hb10 := bst hbg (p := ⟨cb, 1, none⟩) (show w1.heap.size ≤ cb from hC9.out.low.1) (.slice ga9 (k + 1) gc9)
      have HC10 := hid hC10; have HB10 := hid hb10
      clear hC10 hb10 hbg hgrow9 hown9 y9 z9 hnews hone hxo9 CX hxo hxs hlx hl9 l1 hcl hcc y1 hfresh9 hb8 hC7 hC8 hC9 hb9
      go_wp2
      go_roundw
      case rel =>
        refine ⟨k + 1, by omega, by go_num, HB10.out, P2, S2, u2, _, _, HC10.out, ?_, by rw [HSZ.out]; have := hl7.out; have := hl8.out; have := HPl.out; omega, hFP8.out, fun j hj => ?_, fun j hj => ?_⟩
        · rw [show (k + 1) * 2 = k * 2 + 1 + 1 by omega]
          exact ⟨_, ⟨_, HK.out, HA7.out⟩, HA8.out⟩
        · have hi7 := HI7.out; have hi8 := HI8.out; have hp8 := HP8.out
          by_cases ej : j = k
          · subst ej
            simp only [if_true]
            refine ⟨⟨by rw [hp8, List.length_append]; omega, by rw [hp8, getD_app_left hi7]; exact HT7.out⟩, hi8, HT8.out⟩
          · simp only [if_neg ej]
            have h1 := HSd.out.app (X := X1) j (by omega)
            rw [← HP7.out] at h1
            have h2 : Sides k kid (P1 ++ X2) G := by
              rw [HP7.out]; exact HSd.out.app.app
            rw [← hp8] at h2
            exact h2 j (by omega)
        · by_cases ej : j = k
          · subst ej; exact HEO.out
          · exact HE.out j (by omega)
      case measure => simp [intOf]; omega
    · have hke : k = m := by omega
      subst hke
      have HB1 := hid hb
      have hst1 := hid (show ∃ (P2 : List Tm) (S2 : List Sh) (v2 : Value), CSt wr w1.heap.size cb b M P2 S2 v2 gv k G ∧ AddK (fun k => AddT (mk k)) 0 P P2 ∧ P2.length ≤ P.length + sumT 0 (fun k => tSz (mk k)) ∧ (∀ u ∈ P2, Fits 1048576 u) ∧ Sides k kid P2 G from ⟨P, S, v, HCS.out, rfl, Nat.le_add_right _ _, HFP.out, HSd.out⟩)
      clear hB1 HCS HFP HSd R1 q1 H2 c0 l0 hsm hP1 hZ hlt
      go_wp2
      clear hb
      go_loopw [85] (fun i wr => ∃ j : Nat, j ≤ q ∧ i = .int .i64 j ∧ Below w1.heap.size w1 wr ∧ (∃ (P2 : List Tm) (S2 : List Sh) (v2 : Value), CSt wr w1.heap.size cb b M P2 S2 v2 gv k G ∧ AddK (fun k => AddT (mk k)) j P P2 ∧ P2.length ≤ P.length + sumT j (fun k => tSz (mk k)) ∧ (∀ u ∈ P2, Fits 1048576 u) ∧ Sides k kid P2 G) ∧ ∀ t, t < j → SOk n L (mk t)) (fun i _ => q - (intOf i).toNat)
      case atStart => exact ⟨0, Nat.zero_le _, rfl, HB1.out, hst1.out, fun t ht => absurd ht (Nat.not_lt_zero _)⟩
      case round =>
        obtain ⟨j, hj, rfl, hb, ⟨P2, S2, v2, hC, hK2, hPl2, hFP2, hSd2⟩, hE2⟩ := hrel
        have HCS := hid hC; have HK2 := hid hK2; have HPl2 := hid hPl2; have HFP2 := hid hFP2; have HSd2 := hid hSd2; have HE2 := hid hE2
        clear hC hK2 hPl2 hFP2 hSd2 hE2 hst1 HB1
        have H2 := H.below hb
        have R1 := row_below R0 hb
        have q1 := btr q0 hb
        have hsm : sumT j (fun k => tSz (mk k)) ≤ sumT q (fun k => tSz (mk k)) := sumT_mono hj
        have hP1 := HPl.out
        have hP2 := HPl2.out
        have hZ := HZ.out
        have HH_ := H2; obtain ⟨c0, _⟩ := HH_
        have l0 := cell_lt c0
        by_cases hlt : j < q
        · rcases hD1 with h0 | ⟨g, off, cs, rfl, _, hg, hcA⟩
          · omega
          obtain ⟨a, ca, e0, e1, m1, m2, hI⟩ := hcA j hlt
          have a0 : wr.cell? ⟨g, off + j * 2, none⟩ = some (.string (mk j).nm) := carry hb (by simp [World.cell?, hg, e0])
          have a1 : wr.cell? ⟨g, off + j * 2 + 1, none⟩ = some (.slice a (mk j).n ca) := carry hb (by simp [World.cell?, hg, e1])
          have gg : g < wr.heap.size := cell_lt a0
          have F1 := HG.out j hlt
          obtain ⟨s1, b1, hv1, hv1b, hv1s⟩ := tsv_of HS.out (mk j)
          have al := bal (Below.refl wr.heap.size wr) (.cells #[.string (mk j).nm, .slice a (mk j).n ca] 53)
          have R4 := row_newA wr #[.string (mk j).nm, .slice a (mk j).n ca] 53
          have T1 := hid (fun W (h : Below w1.heap.size w1 W) => termsort_at (c := c) (d := ca) hn F1 hA1 hI.kids ⟨hv1, hv1b, hv1s⟩ W h)
          have I1 := hid hI
          have V1 := hid hv1b
          have HLT := HCS.out.lt
          have hvl := fun t (et : v2.ownBlock = some t) => own_lt HCS.out.tab.own et
          have hEb := hid (show b < wr.heap.size ∧ M < wr.heap.size ∧ cb < wr.heap.size ∧ (∀ g, v2.ownBlock = some g → g < wr.heap.size) from ⟨HLT.2.1, HLT.2.2, HLT.1, fun g eg => (hvl g eg).2⟩)
          clear hcA hI hv1 hv1b hv1s hg e0 e1 HLT hvl
          go_upto_region 18 with fail
          clear a0 a1 gg l0
          replace c0 := carry al c0
          replace R1 := row_below R1 al
          have hb3 := btr hb al
          replace q1 := btr q1 al
          replace HCS := hid (HCS.out.below al)
          generalize wr.alloc (.cells #[.string (mk j).nm, .slice a (mk j).n ca] 53) = w4 at *
          clear al
          generalize wr.heap.size = eb at *
          have e0 : w4.cell? ⟨eb, 0, none⟩ = some (.string (mk j).nm) := R4.cell (i := 0) (by simp)
          have e1 : w4.cell? ⟨eb, 1, none⟩ = some (.slice a (mk j).n ca) := R4.cell (i := 1) (by simp)
          have l0 := cell_lt c0
          have l1 := cell_lt e0
          go_wp2_with fail
          refine (T1.out _ hb3).mono ?_
          rintro e5 w6 ⟨rfl, hq5⟩
          clear e0 e1 l0 l1 T1
          replace R1 := row_below R1 hq5
          replace R4 := row_below R4 hq5
          replace q1 := btr q1 hq5
          replace HCS := hid (HCS.out.below hq5)
          replace hb3 := btr hb3 hq5
          clear hq5
          cases b1
          · have HC := hid (show ¬ CgP n L k kid q mk from fun h => by have := V1.out.2 (h.2.2.2.1 j hlt); cases this)
            have RN := hid (((R1.set 0 (.pointer none)).set 1 (.slice none 0 0)))
            have x0 := R1.cell (i := 0) (by omega)
            have x1 := R1.cell (i := 1) (by omega)
            have f0 := R1.frozen 0
            have f1 := R1.frozen 1
            simp only [if_true, Nat.one_ne_zero, if_false] at x0 x1
            go_wp2
            have t0 : ((w6.setCell ⟨w.heap.size + 1, 0, none⟩ (.pointer none)).setCell ⟨w.heap.size + 1, 1, none⟩ (.slice none 0 0)).cell? ⟨w.heap.size + 1, 0, none⟩ = some (.pointer none) := RN.out.cell (i := 0) (by omega)
            have t1 : ((w6.setCell ⟨w.heap.size + 1, 0, none⟩ (.pointer none)).setCell ⟨w.heap.size + 1, 1, none⟩ (.slice none 0 0)).cell? ⟨w.heap.size + 1, 1, none⟩ = some (.slice none 0 0) := RN.out.cell (i := 1) (by omega)
            refine bodyPost_ret (v := .tuple #[.agg #[.pointer none, .slice none 0 0], .bool false]) (by simp [results, Try.results111, go_sem, t0, t1]) rfl ?_
            exact HN.out HC.out _ (bst (bst q1 (p := ⟨w.heap.size + 1, 0, none⟩) (show w.heap.size ≤ w.heap.size + 1 by omega) _) (p := ⟨w.heap.size + 1, 1, none⟩) (show w.heap.size ≤ w.heap.size + 1 by omega) _)
          have HSO := hid (V1.out.1 rfl)
          have hs2 : sumT (j + 1) (fun k => tSz (mk k)) = sumT j (fun k => tSz (mk k)) + tSz (mk j) := rfl
          have hsm2 : sumT (j + 1) (fun k => tSz (mk k)) ≤ sumT q (fun k => tSz (mk k)) := sumT_mono hlt
          have HS2 := hid hs2
          have hS1 := add_any (mk j) (sm2_well HSO.out.1) a ca b M w1.heap.size P2 S2 v2 w6 (KidT.keep (KpT.below hb3) I1.out) HCS.out.tab hb3.size (by omega)
          clear hs2 hsm2 hsm hZ hP1 hP2
          have e0 : w6.cell? ⟨eb, 0, none⟩ = some (.string (mk j).nm) := R4.cell (i := 0) (by simp)
          have e1 : w6.cell? ⟨eb, 1, none⟩ = some (.slice a (mk j).n ca) := R4.cell (i := 1) (by simp)
          have y0 := HCS.out.box.cell (i := 0) (by omega)
          simp only [if_true] at y0
          have l0 := cell_lt e0
          have l1 := cell_lt y0
          go_upto_region 22 with (go_at_call 171; refine hS1.mono ?_; rintro e7 w7 ⟨i1, P3, X3, S3, u3, rfl, hA7, hP7, hX7, hi7, ht7, hT7, hF7⟩)
          have hvl := fun t (et : v2.ownBlock = some t) => own_lt HCS.out.tab.own et
          have hC7 := hid (HCS.out.add hT7 hF7)
          have hb7 := hid (below_fr hb3 hF7 hb1 hM1 (fun t et => (hvl t et).1))
          have hFP7 := hid (fits_addT F1 hA7 HFP2.out)
          have HA7 := hid hA7; have HP7 := hid hP7; have HX7 := hid hX7
          clear hT7 hF7 hA7 hP7 hX7 hi7 ht7 e0 e1 y0 l0 l1 hvl hS1 R1 q1 R4 hb3
          go_wp2
          go_roundw
          case rel => exact ⟨j + 1, by omega, by go_num, hb7.out, ⟨P3, S3, u3, hC7.out, ⟨_, HK2.out, HA7.out⟩, by rw [HP7.out, List.length_append, HS2.out]; have := HPl2.out; have := HX7.out; omega, hFP7.out, by rw [HP7.out]; exact HSd2.out.app⟩, fun t ht => by
            by_cases et : t = j
            · rw [et]; exact HSO.out
            · exact HE2.out t (by omega)⟩
          case measure => simp [intOf]; omega
        · have hje : j = q := by omega
          subst hje
          have hSl := HCS.out.tab.ok.len
          obtain ⟨va, vc, hve⟩ := own_slice HCS.out.tab.own
          rw [hSl] at hve
          subst hve
          obtain ⟨xs, hxo, hxs⟩ := HCS.out.row
          obtain ⟨ga, gc, hge⟩ := own_slice hxo
          subst hge
          clear hxo hxs
          have hTB := HCS.out.tab.blk
          have p0 : wr.cell? ⟨b, 0, none⟩ = some (.slice va P2.length vc) := by simp [World.cell?, hTB]
          have y0 := HCS.out.box.cell (i := 0) (by omega)
          have y1 := HCS.out.box.cell (i := 1) (by omega)
          simp only [if_true, Nat.one_ne_zero, if_false] at y0 y1
          have x0 := R1.cell (i := 0) (by omega)
          have x1 := R1.cell (i := 1) (by omega)
          have f0 := R1.frozen 0
          have f1 := R1.frozen 1
          simp only [if_true, Nat.one_ne_zero, if_false] at x0 x1
          have l1 := cell_lt y0
          have l2 := cell_lt p0
          have l3 := cell_lt x0
          have n1 : cb ≠ w.heap.size + 1 := by have := HCS.out.low.1; omega
          have n2 : b ≠ w.heap.size + 1 := by have := HCS.out.low.2.1; omega
          have n3 := n1.symm
          have n4 := n2.symm
          clear hTB hSl c0 H2 hsm hP1 hP2 hZ
          go_upto_region 23 with fail
          go_region
          have HCN := hid HCS.out
          have RN0 := (R1.set 0 (.pointer (some ⟨b, 0, none⟩))).set 1 (.slice ga k gc)
          have hbN := bst (bst q1 (p := ⟨w.heap.size + 1, 0, none⟩) (show w.heap.size ≤ w.heap.size + 1 by omega) (.pointer (some ⟨b, 0, none⟩))) (p := ⟨w.heap.size + 1, 1, none⟩) (show w.heap.size ≤ w.heap.size + 1 by omega) (.slice ga k gc)
          have hwl := hid hb.size
          have RN := hid RN0; have HBN := hid hbN
          clear x0 x1 f0 f1 l1 l2 l3 y0 y1 p0 RN0 hbN
          have t0 : (((wr.setCell ⟨w.heap.size + 1, 0, none⟩ (.pointer (some ⟨b, 0, none⟩))).setCell ⟨w.heap.size + 1, 1, none⟩ (.slice ga k gc)).drew).cell? ⟨w.heap.size + 1, 0, none⟩ = some (.pointer (some ⟨b, 0, none⟩)) := (row_below RN.out (Below.refl _ _).drew).cell (i := 0) (by omega)
          have t1 : (((wr.setCell ⟨w.heap.size + 1, 0, none⟩ (.pointer (some ⟨b, 0, none⟩))).setCell ⟨w.heap.size + 1, 1, none⟩ (.slice ga k gc)).drew).cell? ⟨w.heap.size + 1, 1, none⟩ = some (.slice ga k gc) := (row_below RN.out (Below.refl _ _).drew).cell (i := 1) (by omega)
          go_wp2
          refine bodyPost_ret (v := .tuple #[.agg #[.pointer (some ⟨b, 0, none⟩), .slice ga k gc], .bool (decide ((P2.length : Int) ≤ 24))]) (by simp [results, Try.results111, go_sem, t0, t1]) rfl ?_
          clear t0 t1
          have hlo : w.heap.size + 1 < w1.heap.size := by omega
          have hbD := HBN.out.drew
          have hsd : w1.heap.size ≤ (((wr.setCell ⟨w.heap.size + 1, 0, none⟩ (.pointer (some ⟨b, 0, none⟩))).setCell ⟨w.heap.size + 1, 1, none⟩ (.slice ga k gc)).drew).heap.size := by
            have := hwl.out
            show w1.heap.size ≤ ((wr.setCell ⟨w.heap.size + 1, 0, none⟩ (.pointer (some ⟨b, 0, none⟩))).setCell ⟨w.heap.size + 1, 1, none⟩ (.slice ga k gc)).heap.size
            simpa [World.setCell] using this
          have hEP : EParts k kid j mk P2 := ⟨P, HK.out, HK2.out⟩
          refine ⟨_, _, _, _, _, rfl, hbD, ⟨fun h => ⟨HS.out, H12.out, HE.out, HE2.out, P2, hEP, by have := of_decide_eq_true h; omega⟩, fun h => decide_eq_true ?_⟩, fun _ => ⟨w1.heap.size, cb, b, M, P2, S2, _, G, by omega, hsd, rfl, ((HCN.out.setL _ hlo).setL _ hlo).below (Below.refl _ _).drew, hEP, HSd2.out, HFP2.out⟩⟩
          obtain ⟨Q, hQ, hQl⟩ := h.2.2.2.2
          rw [eparts_fun hQ hEP] at hQl
          omega
end Go.Proofs.Ytmeglflbjedndaa

namespace Go.Proofs.Ytmeglflbjedndaa
set_option linter.unusedVariables false
set_option linter.unusedSimpArgs false
open Go.RowKit
set_option maxRecDepth 100000 in
set_option maxHeartbeats 4000000 in
theorem eqsok_any (b : Bool) (n : Nat) (L : Sy) (hn : n ≤ 1048576) (m : Nat) (kid : Nat → Tm) (hF : ∀ k, k < m * 2 → Fits 1048576 (kid k)) (hz : sumT (m * 2) (fun k => tSz (kid k)) ≤ 2097152) (hb : b = true ↔ EqsP n L m kid) (A : Option Addr) (c : Nat) (B : Option Addr) (d : Nat) (w : World) (hm : m ≤ 1048576) (hA : Syms w A n L) (hB : EqT w B m kid) :
    Calls Try.prog 51 #[.agg #[.slice A n c], .slice B m d] w fun e w' => e = .returned (.bool b) ∧ Below w.heap.size w w' := by
  have q0 := bal (Below.refl w.heap.size w) (.cells #[.slice A n c] 39)
  have hC := congof_any n L hn m kid hm hF 0 noT (by omega) (fun k hk => absurd hk (Nat.not_lt_zero _)) (by simp only [sumT]; omega) A c B d none 0 (w.alloc (.cells #[.slice A n c] 39)) (hA.below q0) (hB.below q0) (.inl rfl)
  have HB := hid hb
  clear hA hB hF hz hb
  go_enter Try.func51, Try.ntmps51
  go_wp2_with fail
  refine hC.mono ?_
  rintro e w1 ⟨p0, ga, gk, gc, ok, rfl, hq, hok, _⟩
  have HQ := hid hq
  have HO := hid (show ok = b by
    cases ok
    · exact (b_no HB.out (fun h => by have := hok.2 h; cases this)).symm
    · exact (b_yes HB.out (hok.1 rfl)).symm)
  clear hC hok hq
  go_wp2
  go_ret
  exact ⟨ret_bool HO.out, bal (btr q0 HQ.out) _⟩
end Go.Proofs.Ytmeglflbjedndaa

namespace Go.Proofs.Ytmeglflbjedndaa
set_option linter.unusedVariables false
set_option linter.unusedSimpArgs false
open Go.RowKit
set_option maxRecDepth 100000 in
set_option maxHeartbeats 8000000 in
theorem walk_ExactEqsOk (A0 : Option Addr) (n0 c0 : Nat) (L0 : Sy) (A1 : Option Addr) (n1 c1 : Nat) (kid1 : Nat → Tm) (w : World) (hn0 : n0 ≤ 9223372036854775807) (hA0 : Syms w A0 n0 L0) (hn1 : n1 ≤ 9223372036854775807) (hF1 : ∀ k, k < n1 * 2 → Fits 9223372036854775807 (kid1 k)) (hA1 : EqK w A1 n1 kid1) :
    Calls Try.prog 9 #[.agg #[.slice A0 n0 c0], .slice A1 n1 c1] w fun e w' => e = .returned (.bool true) ∧ Below w.heap.size w w' := by
  have H : KcL [(w.heap.size, 0, .slice A0 n0 c0)] (w.alloc (.cells #[.slice A0 n0 c0] 34)) := by
    refine ⟨?_, trivial⟩ <;> simp [go_sem]
  have q0 := (bal (Below.refl w.heap.size w) (.cells #[.slice A0 n0 c0] 34))
  have hS := hid (fun W (h : Below w.heap.size w W) => (show Calls Try.prog 20 #[.agg #[.slice A0 n0 c0], .int .i64 1048576] W (SzYs W n0 L0 1048576) from szsig_any A0 n0 c0 L0 1048576 W hn0 (by omega) (hA0.below h)))
  go_enter Try.func9, Try.ntmps9
  have HH_ := H; obtain ⟨s0, _⟩ := HH_
  go_wp2_with fail
  refine (hS.out _ q0).mono ?_
  rintro e w1 ⟨r0, rfl, hr, hq⟩
  clear s0
  replace H := H.below hq
  replace q0 := btr q0 hq
  clear hS hq
  rcases hr with hr | ⟨p0, v0, hx0, hN0⟩
  · go_wp2
    go_ret
    exact ⟨rfl, q0⟩
  have u0 : r0 ≤ 1048576 := by omega
  have hb0 : n0 ≤ 1048576 := by omega
  have hN0b : SmY n0 L0 := fun k hk => by have := hN0 k hk; omega
  clear hN0 hx0
  have hS := hid (fun W (h : Below w.heap.size w W) => (show Calls Try.prog 48 #[.slice A1 n1 c1, .int .i64 r0] W (SzEs W n1 kid1 r0) from szeqs_any n1 kid1 hn1 hF1 A1 c1 r0 W ⟨p0, u0⟩ (hA1.below h)))
  have HH_ := H; obtain ⟨s0, _⟩ := HH_
  go_wp2_with fail
  refine (hS.out _ q0).mono ?_
  rintro e w2 ⟨r1, rfl, hr, hq⟩
  clear s0
  replace H := H.below hq
  replace q0 := btr q0 hq
  clear hS hq
  rcases hr with hr | ⟨p1, v1, hs1, hx1, hN1⟩
  · go_wp2
    go_ret
    exact ⟨rfl, q0⟩
  have u1 : r1 ≤ 1048576 := by omega
  have HF1 := hid hN1
  clear hN1
  have hb1 : n1 ≤ 1048576 := by omega
  have hS1b : sumT (n1 * 2) (fun k => tSz (kid1 k)) ≤ 2097152 := by omega
  have HS1b := hid hS1b
  clear hS1b hs1 hx1
  clear v0 v1
  have hT0 := hid (fun W (h : Below w.heap.size w W) => (show Calls Try.prog 22 #[.agg #[.slice A0 n0 c0]] W (NewSg W n0 L0) from tosig_any A0 n0 c0 L0 W hb0 (hA0.below h) hN0b))
  have hT1 := hid (fun W (h : Below w.heap.size w W) => (show Calls Try.prog 50 #[.slice A1 n1 c1] W (NewEs W n1 kid1) from toeqs_any n1 kid1 hb1 HF1.out A1 c1 W (hA1.below h)))
  obtain ⟨ra, hra⟩ := bool_of (EqsP n0 L0 n1 kid1)
  have hP := hid (fun (P0 : Option Addr) (P1 : Option Addr) W (h0 : Syms W P0 n0 L0) (h1 : EqT W P1 n1 kid1) => (show Calls Try.prog 49 #[.agg #[.slice P0 n0 n0], .slice P1 n1 n1] W _ from seqsok_any ra n0 L0 hb0 hN0b n1 kid1 HF1.out HS1b.out hra P0 n0 P1 n1 W hb1 h0 h1.k))
  have hI := hid (fun (P0 : Option Addr) (P1 : Option Addr) W (h0 : Syms W P0 n0 L0) (h1 : EqT W P1 n1 kid1) => (show Calls Try.prog 51 #[.agg #[.slice P0 n0 n0], .slice P1 n1 n1] W _ from eqsok_any ra n0 L0 hb0 n1 kid1 HF1.out HS1b.out hra P0 n0 P1 n1 W hb1 h0 h1))
  have dk : (ra != ra) = false := by simp
  clear hra
  have HN0 := hid hN0b
  clear hA0 hN0b hA1 hF1
  have HH_ := H; obtain ⟨s0, _⟩ := HH_
  go_wp2_with fail
  refine (hT0.out _ q0).mono ?_
  rintro e w3 ⟨P0, rfl, O0, hq⟩
  clear s0
  replace H := H.below hq
  replace q0 := btr q0 hq
  clear hq
  have HH_ := H; obtain ⟨s0, _⟩ := HH_
  go_wp2_with fail
  refine (hT1.out _ q0).mono ?_
  rintro e w4 ⟨P1, rfl, O1, hq⟩
  clear s0
  replace H := H.below hq
  replace q0 := btr q0 hq
  replace O0 := O0.below hq
  clear hq
  have HH_ := H; obtain ⟨s0, _⟩ := HH_
  go_wp2_with fail
  refine (hP.out P0 P1 _ (O0.syms HN0.out) O1).mono ?_
  rintro e w5 ⟨rfl, hq⟩
  clear s0
  replace H := H.below hq
  replace q0 := btr q0 hq
  clear hq hP O0 O1
  have HH_ := H; obtain ⟨s0, _⟩ := HH_
  go_wp2_with fail
  refine (hT0.out _ q0).mono ?_
  rintro e w6 ⟨P0, rfl, O0, hq⟩
  clear s0
  replace H := H.below hq
  replace q0 := btr q0 hq
  clear hq
  have N : KcL [(w6.heap.size, 0, .slice P0 n0 n0)] (w6.alloc (.cells #[.slice P0 n0 n0] 39)) := by
    refine ⟨?_, trivial⟩ <;> simp [go_sem]
  have al := bal (Below.refl w6.heap.size w6) (.cells #[.slice P0 n0 n0] 39)
  replace H := (H.below al).app N
  replace q0 := btr q0 al
  replace O0 := O0.below al
  clear N al
  have HH_ := H; obtain ⟨s0, s1, _⟩ := HH_
  go_wp2_with fail
  refine (hT1.out _ q0).mono ?_
  rintro e w7 ⟨P1, rfl, O1, hq⟩
  clear s0 s1
  replace H := H.below hq
  replace q0 := btr q0 hq
  replace O0 := O0.below hq
  clear hq
  have HH_ := H; obtain ⟨s0, s1, _⟩ := HH_
  go_wp2_with fail
  refine (hI.out P0 P1 _ (O0.syms HN0.out) O1).mono ?_
  rintro e w8 ⟨rfl, hq⟩
  clear s0 s1
  replace H := H.below hq
  replace q0 := btr q0 hq
  replace O0 := O0.below hq
  replace O1 := O1.below hq
  clear hq hI
  have HH_ := H; obtain ⟨s0, s1, _⟩ := HH_
  have l0 := cell_lt s0
  have l1 := cell_lt s1
  have gc := @gro_cell w8
  go_wp2_with fail
  refine region_grow_call 2 rfl (by kernel_rfl) (by kernel_rfl) rfl ?_; simp only [List.take_succ_cons, List.take_zero]; (repeat (go_big_quiet_step (fail))); refine wpQuiet_nil ?_
  intro w9 hq
  clear gc l0 l1
  clear s0 s1
  refine ⟨22, #[.agg #[.slice A0 n0 c0]], by kernel_rfl, ?_⟩
  refine (hT0.out _ (btr q0 hq)).mono ?_
  rintro e w10 ⟨R0, rfl, O8, hq8⟩
  refine ⟨_, rfl, btr hq hq8, ?_⟩
  replace H := H.below (btr hq hq8)
  replace q0 := btr q0 (btr hq hq8)
  replace O0 := O0.below (btr hq hq8)
  replace O1 := O1.below (btr hq hq8)
  clear hq hq8
  have HH_ := H; obtain ⟨s0, s1, _⟩ := HH_
  go_wp2_with fail
  refine (eqsig_same (c := n0) (d := n0) (by omega) (O0.syms HN0.out) (O8.syms HN0.out)).mono ?_
  rintro e w11 ⟨rfl, hq⟩
  clear s0 s1
  replace H := H.below hq
  replace q0 := btr q0 hq
  replace O0 := O0.below hq
  replace O1 := O1.below hq
  clear hq O8
  have HH_ := H; obtain ⟨s0, s1, _⟩ := HH_
  go_wp2_with fail
  refine (hT1.out _ q0).mono ?_
  rintro e w13 ⟨R1, rfl, O8, hq⟩
  clear s0 s1
  replace H := H.below hq
  replace q0 := btr q0 hq
  replace O0 := O0.below hq
  replace O1 := O1.below hq
  clear hq
  have HH_ := H; obtain ⟨s0, s1, _⟩ := HH_
  go_wp2_with fail
  refine (eqeqs_same n1 kid1 (by omega) (fun k hk => (HF1.out k hk).mono (by omega)) P1 R1 n1 n1 _ O1.k O8.k).mono ?_
  rintro e w14 ⟨rfl, hq⟩
  clear s0 s1
  replace H := H.below hq
  replace q0 := btr q0 hq
  replace O0 := O0.below hq
  replace O1 := O1.below hq
  clear hq O8
  go_wp2_with fail
  go_ret
  exact ⟨rfl, q0⟩
end Go.Proofs.Ytmeglflbjedndaa
