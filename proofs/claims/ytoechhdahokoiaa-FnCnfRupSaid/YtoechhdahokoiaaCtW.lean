/- Walk of FnCnfTwice. -/
import Derived.Test.YtoechhdahokoiaaDfA
import Derived.Test.YtoechhdahokoiaaC2
namespace Go.Proofs.Ytoechhdahokoiaa
set_option linter.unusedVariables false
set_option linter.unusedSimpArgs false
open Go.RowKit
set_option maxHeartbeats 1000000 in
theorem wpnums_same {A B : Option Addr} {n c d : Nat} {Z : Nat → Int} {w : World} (hn : n ≤ 9223372036854775807) (hA : Ints w A n Z) (hB : Ints w B n Z) :
    Calls Try.prog 21 #[.slice A n c, .slice B n d] w fun e w' => e = .returned (.bool true) ∧ Below w.heap.size w w' := by
  go_enter Try.func21, Try.ntmps21
  go_wp2
  go_loopw [5] (fun i wr => ∃ k : Nat, k ≤ n ∧ i = .int .i64 k ∧ Below w.heap.size w wr) (fun i _ => n - (intOf i).toNat)
  case atStart => exact ⟨0, Nat.zero_le _, rfl, Below.refl _ _⟩
  case round =>
    obtain ⟨k, hk, rfl, hb⟩ := hrel
    by_cases hlt : k < n
    · rcases hA with h0 | ⟨g, off, rfl, hg, hcA⟩
      · omega
      rcases hB with h0 | ⟨g2, off2, rfl, hg2, hcB⟩
      · omega
      have a0 := carry hb (hcA k hlt)
      have b0 := carry hb (hcB k hlt)
      have gg := cell_lt a0
      have gg2 := cell_lt b0
      have gc := @gro_cell wr
      clear hcA hcB
      go_upto_region 6 with fail
      refine wp_region_grow_lit (by kernel_rfl) (by kernel_rfl) ?_
      repeat (go_big_quiet_step (fail))
      refine wpQuiet_nil ?_
      rintro _ ⟨X, rfl⟩
      clear gc
      go_wp2
      go_roundw
      case rel => exact ⟨k + 1, by omega, by go_num, btr hb X.h⟩
      case measure => simp [intOf]; omega
    · have hke : k = n := by omega
      subst hke
      go_wp2
      go_ret
      exact ⟨rfl, hb⟩
theorem Ur.ends {n : Nat} {L : Lls} {T l : List Int} (h : Ur n L T l false) : ∀ i, i < n → Idle (L.N i) (L.Z i) l := by
  generalize hr : false = r at h
  induction h with
  | stop T h => exact h
  | bad T i hi hf h => cases hr
  | step T i x T' r hi hu h hr' ih => exact ih hr
theorem Ur.goodm {n : Nat} {L : Lls} {m : Int} {T T' : List Int} {r : Bool} (hL : ∀ i, i < n → ∀ x, MemC (L.N i) (L.Z i) x → ofC x m = true) (h : Ur n L T T' r) (hg : GoU m T) : GoU m T' := by
  induction h with
  | stop T h => exact hg
  | bad T i hi hf h => exact hg
  | step T i x T' r hi hu h hr ih => exact ih (.push T x hg (hL i hi x hu.1) hu.2.1)
theorem un_twice {n : Nat} {L : Lls} {m : Int} {T l l2 : List Int} {r2 : Bool} (h : UnR n L m T l false) (hl : ¬ l.length < T.length) (h2 : UnR n L m l l2 r2) : l2 = l ∧ r2 = false := by
  rcases h with ⟨a, b, c⟩ | ⟨a, rfl, _⟩
  · have h3 : UnR n L m l l false := .inl ⟨a, c.goodm (fun i hi x hx => ((okC_facts (okC_iff.1 ((cnB_iff.1 a).2.2.2 i hi))).2.2 x hx).1) b, .stop l c.ends⟩
    obtain ⟨e1, e2⟩ := h2.det h3
    exact ⟨e1, e2⟩
  · obtain rfl : T = [] := List.eq_nil_of_length_eq_zero (by simp at hl; simpa using hl)
    rcases h2 with ⟨a', b', _⟩ | ⟨_, e1, e2⟩
    · exact absurd ⟨a', b'⟩ a
    · exact ⟨e1, e2⟩
set_option maxRecDepth 100000 in
set_option maxHeartbeats 8000000 in
theorem walk_CnfTwice (a0 : Option Addr) (len0 cap0 : Nat) (w : World) (hby : Bytes w.heap.size w a0 len0) (hlc : len0 ≤ cap0) (hc0 : cap0 ≤ 9223372036854775807) :
    Calls Try.prog 7 #[.slice a0 len0 cap0] w fun e w' => e = .returned (.bool true) ∧ Below w.heap.size w w' := by
  by_cases hbig : 1048576 < len0
  · go_enter Try.func7, Try.ntmps7
    go_wp2
    go_ret
    exact ⟨rfl, Below.refl _ _⟩
  have hb0 : decide (1048576 < (len0 : Int)) = false := decide_eq_false (by omega)
  go_enter Try.func7, Try.ntmps7
  go_wp2_with fail
  refine (drawcnfunits_any w.heap.size w a0 len0 cap0 (Nat.le_refl _) hby hlc hc0).mono ?_
  rintro e w1 ⟨m, A, c, ds, D, d, pl, rfl, hm1, hm2, hdl, hpl, hpd, hcap, hI, hN61, hB, q0⟩
  generalize llsC ds = L at *
  generalize ds.length = n at *
  clear hby hlc hc0 hbig hb0 hN61 hcap
  have bx := pair_new w1 (.int .i64 m) (.slice A n c) 25
  have al := bal (Below.refl w1.heap.size w1) (.cells #[.int .i64 m, .slice A n c] 25)
  replace hI := hI.below al
  replace hB := hB.below al
  replace q0 := btr q0 al
  have hC := fun W h1 h2 => cnfunits_any A n c L m D pl.length d (fun k => pl.getD k 0) W (by omega) h1 (by omega) h2
  have hS := fun W h1 h2 => scnfunits_any A n c L m D pl.length d (fun k => pl.getD k 0) W (by omega) h1 (by omega) hpd h2
  have hC2 := fun A' N' c' V W h0 h1 h2 => cnfunits_any A n c L m A' N' c' V W (by omega) h1 h0 h2
  have hK := fun W h1 => scnfok_any A n c L m W (by omega) h1
  rw [putL_getD] at hC hS
  go_upto_region 4 with fail
  obtain ⟨w2, hw2⟩ : ∃ w2, w2 = w1.alloc (.cells #[.int .i64 m, .slice A n c] 25) := ⟨_, rfl⟩
  rw [← hw2] at hI hB q0 bx ⊢
  obtain ⟨x0, x1⟩ := bx
  clear hw2 al
  go_wp2_with fail
  refine (hC _ hI hB).mono ?_
  rintro e w3 ⟨⟨l, r, A3, c3, hu3, rfl, hO3⟩, hq⟩
  have I3 := hO3.ints
  have hl60 := hu3.len
  replace hI := hI.below hq
  replace hB := hB.below hq
  replace q0 := btr q0 hq
  replace x0 := carry hq x0
  replace x1 := carry hq x1
  have HU3 := hid hu3
  clear hC hq hO3 hu3
  go_wp2_with fail
  refine (hS _ hI hB).mono ?_
  rintro e w4 ⟨⟨l', r', A4, c4, hu4, rfl, hO4⟩, hq⟩
  obtain ⟨rfl, rfl⟩ := HU3.out.det hu4
  have I4 := hO4.ints
  replace I3 := I3.below hq
  replace hI := hI.below hq
  replace q0 := btr q0 hq
  replace x0 := carry hq x0
  replace x1 := carry hq x1
  clear hS hq hO4 hu4 hB
  have dk : (r != r) = false := by simp
  have dk2 : (r == r) = true := by simp
  cases r
  · by_cases hll : l.length < pl.length
    · clear HU3 hC2
      have hln : l.length ≤ 60 := hl60
      obtain ⟨ln, hle⟩ : ∃ ln, ln = l.length := ⟨_, rfl⟩
      obtain ⟨lp, hlp⟩ : ∃ lp, lp = pl.length := ⟨_, rfl⟩
      rw [← hle, ← hlp] at hll
      rw [← hle] at I3 I4 hln ⊢
      rw [← hlp]
      have dl : decide (ln < lp) = true := decide_eq_true hll
      clear hle hlp hl60 hpl hpd hll
      go_wp2_with fail
      refine (wpnums_same (by omega) I3 I4).mono ?_
      rintro e w5 ⟨rfl, hq⟩
      replace I3 := I3.below hq
      replace I4 := I4.below hq
      replace q0 := btr q0 hq
      clear hq
      go_wp2_with fail
      refine (wpnums_same (by omega) I3 I4).mono ?_
      rintro e w6 ⟨rfl, hq⟩
      go_wp2
      go_ret
      exact ⟨rfl, btr q0 hq⟩
    · have dl : decide ((l.length : Int) < (pl.length : Int)) = false := decide_eq_false (by omega)
      have HT := hid (fun l2 r2 h2 => un_twice (l2 := l2) (r2 := r2) HU3.out hll h2)
      have hC3 := fun W h1 h2 => hC2 A3 l.length c3 (fun k => l.getD k 0) W (by omega) h1 h2
      rw [putL_getD] at hC3
      clear HU3 hC2
      have hln : l.length ≤ 60 := hl60
      obtain ⟨ln, hle⟩ : ∃ ln, ln = l.length := ⟨_, rfl⟩
      obtain ⟨lp, hlp⟩ : ∃ lp, lp = pl.length := ⟨_, rfl⟩
      have HLE := hid hle
      rw [← hle] at dl I3 I4 hC3 hln ⊢
      rw [← hlp] at dl ⊢
      have dl2 : decide (ln < lp) = false := decide_eq_false (by simp at dl; omega)
      clear hle hlp hl60 hpl hpd hll dl
      go_wp2_with fail
      refine (wpnums_same (by omega) I3 I4).mono ?_
      rintro e w5 ⟨rfl, hq⟩
      replace I3 := I3.below hq
      replace hI := hI.below hq
      replace q0 := btr q0 hq
      replace x0 := carry hq x0
      replace x1 := carry hq x1
      clear hq I4
      have hU := hC3 _ hI I3
      go_wp2_with fail
      refine hU.mono ?_
      rintro e w6 ⟨⟨l2, r2, A6, c6, hu6, rfl, hO6⟩, hq⟩
      obtain ⟨rfl, rfl⟩ := HT.out _ _ hu6
      have I6 := hO6.ints
      replace I3 := I3.below hq
      replace q0 := btr q0 hq
      clear hq hO6 hu6 hU hC3
      go_wp2_with fail
      rw [← HLE.out] at I6 ⊢
      refine (wpnums_same (by omega) I6 I3).mono ?_
      rintro e w7 ⟨rfl, hq⟩
      go_wp2
      go_ret
      exact ⟨rfl, btr q0 hq⟩
  · clear HU3 hC2
    go_wp2_with fail
    refine (wpnums_same (by omega) I3 I4).mono ?_
    rintro e w5 ⟨rfl, hq⟩
    replace I3 := I3.below hq
    replace I4 := I4.below hq
    replace q0 := btr q0 hq
    clear hq
    go_wp2_with fail
    refine (wpnums_same (by omega) I3 I4).mono ?_
    rintro e w6 ⟨rfl, hq⟩
    go_wp2
    go_ret
    exact ⟨rfl, btr q0 hq⟩
end Go.Proofs.Ytoechhdahokoiaa
