/- Walk of FnCnfUnits. -/
import Derived.Test.YtoechhdahokoiaaCtW
import Derived.Test.YtoechhdahokoiaaCdA
import Derived.Test.YtoechhdahokoiaaCbB
namespace Go.Proofs.Ytoechhdahokoiaa
set_option linter.unusedVariables false
set_option linter.unusedSimpArgs false
open Go.RowKit
theorem Bytes.belowU {B : Nat} {w w' : World} {a : Option Addr} {len : Nat} (h : Bytes B w a len) (hb : Below B w w') : Bytes B w' a len :=
  h.mono fun b o v hl hc => (hb.cell (p := ⟨b, o, none⟩) hl).trans hc
theorem clB_one {x : Int} {N : Nat} {V : Nat → Bool} : clB 1 (fun _ => x) N V = isC x N V := by
  cases h : isC x N V
  · exact clB_no fun k _ => h
  · exact clB_iff.2 ⟨0, by omega, h⟩
theorem atU_mem {T : List Int} {y : Int} (h : atU T y = -1) : -y ∈ T := by
  induction T with
  | nil => exact absurd (show (0 : Int) = -1 from h) (by decide)
  | cons z T ih =>
    rw [atU_cons] at h
    split at h
    · omega
    · split at h
      · rename_i e; subst e; exact List.mem_cons_self
      · exact List.mem_cons_of_mem _ (ih h)
theorem isC_neg' {x : Int} {N : Nat} {V : Nat → Bool} (h : ofC x N = true) : isC (-x) N V = !isC x N V := by
  obtain ⟨k, hk, rfl | rfl⟩ := ofC_cases h
  · rw [isC_neg hk, isC_pos hk]
  · rw [Int.neg_neg, isC_neg hk, isC_pos hk, Bool.not_not]
/-- what follows of what is so is so -/
theorem un_true {n : Nat} {L : Lls} {T l : List Int} {r : Bool} {N : Nat} {V : Nat → Bool} (hC : ∀ i, i < n → clB (L.N i) (L.Z i) N V = true) (hL : ∀ i, i < n → ∀ x, MemC (L.N i) (L.Z i) x → ofC x N = true)
    (h : Ur n L T l r) (hT : ∀ x ∈ T, isC x N V = true) : (∀ x ∈ l, isC x N V = true) ∧ r = false := by
  induction h with
  | stop T h => exact ⟨hT, rfl⟩
  | bad T i hi hf h =>
    obtain ⟨k, hk, hy⟩ := clB_iff.1 (hC i hi)
    have h1 := hT _ (atU_mem (hf _ ⟨k, hk, rfl⟩))
    rw [isC_neg' (hL i hi _ ⟨k, hk, rfl⟩), hy] at h1
    cases h1
  | step T i x T' r hi hu h hr ih =>
    refine ih fun y hy => ?_
    rcases List.mem_append.1 hy with hy | hy
    · exact hT y hy
    · obtain rfl := List.mem_singleton.1 hy
      obtain ⟨k, hk, hz⟩ := clB_iff.1 (hC i hi)
      by_cases e : L.Z i k = y
      · rw [← e]; exact hz
      · have h1 := hT _ (atU_mem (hu.2.2 _ ⟨k, hk, rfl⟩ e))
        rw [isC_neg' (hL i hi _ ⟨k, hk, rfl⟩), hz] at h1
        cases h1
theorem Ur.pre {n : Nat} {L : Lls} {T l : List Int} {r : Bool} (h : Ur n L T l r) : ∃ R, l = T ++ R := by
  induction h with
  | stop T h => exact ⟨[], by simp⟩
  | bad T i hi hf h => exact ⟨[], by simp⟩
  | step T i x T' r hi hu h hr ih => obtain ⟨R, e⟩ := ih; exact ⟨x :: R, by rw [e]; simp⟩
/-- all clauses are so, and the first k literals -/
def aU (ci : Bool) (T : List Int) (N : Nat) (V : Nat → Bool) (k : Nat) : Bool := ci && decide (∀ j, j < k → isC (T.getD j 0) N V = true)
theorem aU_zero {ci : Bool} {T : List Int} {N : Nat} {V : Nat → Bool} : aU ci T N V 0 = ci := by unfold aU; simp
theorem aU_succ {ci : Bool} {T : List Int} {N k : Nat} {V : Nat → Bool} : aU ci T N V (k + 1) = (aU ci T N V k && isC (T.getD k 0) N V) := by
  unfold aU
  rw [Bool.and_assoc]
  congr 1
  cases h : isC (T.getD k 0) N V
  · rw [Bool.and_false]; exact decide_eq_false fun h2 => by have := h2 k (by omega); rw [h] at this; cases this
  · rw [Bool.and_true]
    congr 1
    exact propext ⟨fun h2 j hj => h2 j (by omega), fun h2 j hj => by
      by_cases e : j = k
      · subst e; exact h
      · exact h2 j (by omega)⟩
/-- if all of them are so, all that follows is so -/
theorem un_all {n : Nat} {L : Lls} {m : Int} {T l : List Int} {r : Bool} {N : Nat} {V : Nat → Bool} (h : UnR n L m T l r) (hl : ¬ l.length < T.length) (ha : aU (ciB n L m N V) T N V T.length = true) : (∀ k, k < l.length → isC (l.getD k 0) N V = true) ∧ r = false := by
  unfold aU at ha
  rw [Bool.and_eq_true] at ha
  obtain ⟨h1, h2⟩ := ha
  have h2 := of_decide_eq_true h2
  obtain ⟨c1, c2, c3⟩ := ciB_iff.1 h1
  have hT : ∀ x ∈ T, isC x N V = true := fun x hx => by
    obtain ⟨j, hj, e⟩ := List.getElem_of_mem hx
    have := h2 j hj
    rw [List.getD_eq_getElem?_getD, List.getElem?_eq_getElem hj] at this
    simpa [e] using this
  rcases h with ⟨a, b, c⟩ | ⟨a, rfl, _⟩
  · obtain ⟨f1, f2⟩ := un_true c3 (fun i hi x hx => by rw [c2]; exact ((okC_facts (okC_iff.1 ((cnB_iff.1 a).2.2.2 i hi))).2.2 x hx).1) c hT
    refine ⟨fun k hk => ?_, f2⟩
    rw [List.getD_eq_getElem?_getD, List.getElem?_eq_getElem hk]
    exact f1 _ (List.getElem_mem hk)
  · obtain rfl : T = [] := List.eq_nil_of_length_eq_zero (by simp at hl; simpa using hl)
    exact absurd ⟨c1, .nil⟩ a
theorem un_short {n : Nat} {L : Lls} {m : Int} {T l : List Int} {r : Bool} (h : UnR n L m T l r) (hl : l.length < T.length) : l = [] ∧ r = false := by
  rcases h with ⟨a, b, c⟩ | ⟨a, b, c⟩
  · obtain ⟨R, rfl⟩ := c.pre; simp at hl
    omega
  · exact ⟨b, c⟩
theorem un_pre {n : Nat} {L : Lls} {m : Int} {T l : List Int} {r : Bool} (h : UnR n L m T l r) (hl : ¬ l.length < T.length) {k : Nat} (hk : k < T.length) : l.getD k 0 = T.getD k 0 := by
  rcases h with ⟨a, b, c⟩ | ⟨a, rfl, c⟩
  · obtain ⟨R, rfl⟩ := c.pre
    rw [List.getD_eq_getElem?_getD, List.getD_eq_getElem?_getD, List.getElem?_append_left hk]
  · have : 0 < T.length := by omega
    exact absurd (show ([] : List Int).length < T.length from this) hl
theorem one_ints (w : World) (x : Int) (t : TypeId) : Ints (w.alloc (.cells #[.int .i64 x] t)) (some ⟨w.heap.size, 0, none⟩) 1 (fun _ => x) :=
  .inr ⟨w.heap.size, 0, rfl, by simp, fun k hk => by obtain rfl : k = 0 := by omega
                                                     simp [go_sem]⟩
set_option maxRecDepth 100000 in
set_option maxHeartbeats 16000000 in
theorem walk_CnfUnits (a0 : Option Addr) (len0 cap0 : Nat) (w : World) (hby : Bytes w.heap.size w a0 len0) (hlc : len0 ≤ cap0) (hc0 : cap0 ≤ 9223372036854775807) :
    Calls Try.prog 5 #[.slice a0 len0 cap0] w fun e w' => e = .returned (.bool true) ∧ Below w.heap.size w w' := by
  by_cases hbig : 1048576 < len0
  · go_enter Try.func5, Try.ntmps5
    go_wp2
    go_ret
    exact ⟨rfl, Below.refl _ _⟩
  have hb0 : decide (1048576 < (len0 : Int)) = false := decide_eq_false (by omega)
  have hD2 := fun W (h : Below w.heap.size w W) => drawcnfis_any w.heap.size W a0 len0 cap0 h.size (hby.belowU h) hlc hc0
  go_enter Try.func5, Try.ntmps5
  go_wp2_with fail
  refine (drawcnfunits_any w.heap.size w a0 len0 cap0 (Nat.le_refl _) hby hlc hc0).mono ?_
  rintro e w1 ⟨m, A, c, ds, D, d, pl, rfl, hm1, hm2, hdl, hpl, hpd, hcap, hI, hN61, hB, q0⟩
  generalize llsC ds = L at *
  generalize ds.length = n at *
  clear hby hlc hc0 hbig hb0 hN61 hcap
  have bx := pair_new w1 (.int .i64 m) (.slice A n c) 25
  have al := bal (Below.refl w1.heap.size w1) (.cells #[.int .i64 m, .slice A n c] 25)
  replace hI := hI.below al
  replace hB := hB.below al
  replace q0 := btr q0 al
  have hC := fun W h1 h2 => cnfunits_any A n c L m D pl.length d (fun k => pl.getD k 0) W (by omega) h1 (by omega) h2
  have hS := fun W h1 h2 => scnfunits_any A n c L m D pl.length d (fun k => pl.getD k 0) W (by omega) h1 (by omega) hpd h2
  rw [putL_getD] at hC hS
  go_upto_region 4 with fail
  obtain ⟨w2, hw2⟩ : ∃ w2, w2 = w1.alloc (.cells #[.int .i64 m, .slice A n c] 25) := ⟨_, rfl⟩
  rw [← hw2] at hI hB q0 bx ⊢
  obtain ⟨x0, x1⟩ := bx
  clear hw2 al
  go_wp2_with fail
  refine (hD2 _ q0).mono ?_
  rintro e w3 ⟨m', A', c', ds', D2, d2, vl, rfl, _, _, hdl', hvl, _, _, _, hB2, hq⟩
  replace hI := hI.below hq
  replace hB := hB.below hq
  replace q0 := btr q0 hq
  replace x0 := carry hq x0
  replace x1 := carry hq x1
  clear hD2 hq
  generalize (fun k => vl.getD k false) = V at *
  generalize vl.length = N at *
  have al := bal (Below.refl w3.heap.size w3) (.cells #[.int .i64 m', .slice A' ds'.length c'] 25)
  replace hI := hI.below al
  replace hB := hB.below al
  replace hB2 := hB2.below al
  replace q0 := btr q0 al
  replace x0 := carry al x0
  replace x1 := carry al x1
  go_upto_region 5 with fail
  obtain ⟨w4, hw4⟩ : ∃ w4, w4 = w3.alloc (.cells #[.int .i64 m', .slice A' ds'.length c'] 25) := ⟨_, rfl⟩
  rw [← hw4] at hI hB hB2 q0 x0 x1 ⊢
  clear hw4 al
  have hCi := fun W h1 h2 => cnfis_any A D2 n c N d2 L V m W (by omega) (by omega) h1 h2
  go_wp2_with fail
  refine (hC _ hI hB).mono ?_
  rintro e w5 ⟨⟨l, r, A3, c3, hu3, rfl, hO3⟩, hq⟩
  have I3 := hO3.ints
  have hl60 := hu3.len
  replace hI := hI.below hq
  replace hB := hB.below hq
  replace hB2 := hB2.below hq
  replace q0 := btr q0 hq
  replace x0 := carry hq x0
  replace x1 := carry hq x1
  have HU3 := hid hu3
  clear hC hq hO3 hu3
  go_wp2_with fail
  refine (hS _ hI hB).mono ?_
  rintro e w6 ⟨⟨l', r', A4, c4, hu4, rfl, hO4⟩, hq⟩
  obtain ⟨rfl, rfl⟩ := HU3.out.det hu4
  have I4 := hO4.ints
  replace I3 := I3.below hq
  replace hI := hI.below hq
  replace hB := hB.below hq
  replace hB2 := hB2.below hq
  replace q0 := btr q0 hq
  replace x0 := carry hq x0
  replace x1 := carry hq x1
  clear hS hq hO4 hu4
  have dk : (r != r) = false := by simp
  go_wp2_with fail
  refine (wpnums_same (by omega) I3 I4).mono ?_
  rintro e w7 ⟨rfl, hq⟩
  replace I3 := I3.below hq
  replace hI := hI.below hq
  replace hB := hB.below hq
  replace hB2 := hB2.below hq
  replace q0 := btr q0 hq
  replace x0 := carry hq x0
  replace x1 := carry hq x1
  clear hq I4
  by_cases hll : l.length < pl.length
  · obtain ⟨rfl, rfl⟩ := un_short HU3.out hll
    have hp0 : 0 < pl.length := by simpa using hll
    clear HU3 hCi I3 hB
    obtain ⟨lp, hlp⟩ : ∃ lp, lp = pl.length := ⟨_, rfl⟩
    rw [← hlp] at hp0 ⊢
    clear hlp hll hpl hpd
    have dl : decide (0 < lp) = true := decide_eq_true hp0
    rw [List.length_nil]
    go_wp2
    go_ret
    exact ⟨rfl, q0⟩
  · have HP := hid (fun k (hk : k < pl.length) => un_pre HU3.out hll hk)
    have HA := hid (fun (ha : aU (ciB n L m N V) pl N V pl.length = true) => un_all HU3.out hll ha)
    obtain ⟨ln, hle⟩ : ∃ ln, ln = l.length := ⟨_, rfl⟩
    obtain ⟨lp, hlp⟩ : ∃ lp, lp = pl.length := ⟨_, rfl⟩
    rw [← hle, ← hlp] at hll
    rw [← hle] at I3 hl60 HA ⊢
    rw [← hlp] at hB HP HA hpl ⊢
    have hlle : lp ≤ ln := by omega
    have dl2 : decide (ln < lp) = false := decide_eq_false hll
    clear hle hlp hpd hll HU3
    go_wp2_with fail
    refine (hCi _ hI hB2).mono ?_
    rintro e w8 ⟨rfl, hq⟩
    replace I3 := I3.below hq
    replace hB := hB.below hq
    replace hB2 := hB2.below hq
    replace q0 := btr q0 hq
    clear hq hCi x0 x1 hI dl2
    generalize ciB n L m N V = ci at *
    go_wp2
    go_loopw [11, 12] (fun b i wr => ∃ k : Nat, k ≤ lp ∧ i = .int .i64 (k : Int) ∧ b = .bool (aU ci pl N V k) ∧ Below w8.heap.size w8 wr) (fun _ i _ => lp - (intOf i).toNat)
    case atStart => exact ⟨0, Nat.zero_le _, rfl, by rw [aU_zero], Below.refl _ _⟩
    case round =>
      obtain ⟨k, hk, rfl, rfl, hb⟩ := hrel
      by_cases hlt : k < lp
      · have i3 := I3.below hb
        have ib := hB.below hb
        have ib2 := hB2.below hb
        rcases i3 with h0 | ⟨g3, o3, rfl, hg3, hc3⟩
        · omega
        rcases ib with h0 | ⟨gb, ob, rfl, hgb, hcb⟩
        · omega
        have y3 : wr.cell? ⟨g3, o3 + k, none⟩ = some (.int .i64 (l.getD k 0)) := hc3 k (by omega)
        have yb : wr.cell? ⟨gb, ob + k, none⟩ = some (.int .i64 (pl.getD k 0)) := hcb k hlt
        rw [HP.out k hlt] at y3
        have HS := hid (aU_succ (ci := ci) (T := pl) (N := N) (V := V) (k := k))
        have HC := hid (clB_one (x := pl.getD k 0) (N := N) (V := V))
        clear hc3 hcb
        generalize aU ci pl N V k = ak at *
        generalize pl.getD k 0 = z at *
        have hcl := fun W A' h1 h2 => clauseis_any A' D2 1 1 N d2 (fun _ => z) V W (by omega) (by omega) h1 h2
        rw [HC.out] at hcl
        have gc := @gro_cell wr
        have l3 : (k : Int) < (ln : Int) := by omega
        have lb : (k : Int) < (lp : Int) := by omega
        have dz : (z != z) = false := by simp
        go_upto_region 15 with fail
        refine wp_region_grow_lit (by kernel_rfl) (by kernel_rfl) ?_
        repeat (go_big_quiet_step (fail))
        refine wpQuiet_nil ?_
        rintro _ ⟨X, rfl⟩
        clear gc
        have XH : Below wr.heap.size wr (gro wr X) := X.h
        replace yb := carry XH yb
        replace ib2 := ib2.below XH
        replace hb := btr hb XH
        clear y3 hg3 hgb XH
        generalize gro wr X = wx at *
        cases ak
        · go_wp2
          go_roundw
          case rel => exact ⟨k + 1, by omega, by go_num, by rw [HS.out]; rfl, hb⟩
          case measure => simp [intOf]; omega
        · have one := one_ints wx z 3
          have al := bal (Below.refl wx.heap.size wx) (.cells #[.int .i64 z] 3)
          have hcl2 := hcl _ _ one (ib2.below al)
          go_wp2_with (go_at_call 14; refine hcl2.mono ?_; rintro e wy ⟨rfl, hqy⟩)
          go_roundw
          case rel => exact ⟨k + 1, by omega, by go_num, by rw [HS.out]; rfl, btr (btr hb al) hqy⟩
          case measure => simp [intOf]; omega
      · have hke : k = lp := by omega
        subst hke
        cases ha : aU ci pl N V k
        · go_wp2
          go_ret
          exact ⟨rfl, btr q0 hb⟩
        · obtain ⟨hall, rfl⟩ := HA.out ha
          have HALL := hid hall
          clear hall ha HA HP hB
          have q9 := btr q0 hb
          replace I3 := I3.below hb
          replace hB2 := hB2.below hb
          clear hb q0
          go_wp2
          go_loopw [13] (fun i wz => ∃ t : Nat, t ≤ ln ∧ i = .int .i64 (t : Int) ∧ Below wr.heap.size wr wz) (fun i _ => ln - (intOf i).toNat)
          case atStart => exact ⟨0, Nat.zero_le _, rfl, Below.refl _ _⟩
          case round =>
            obtain ⟨t, ht, rfl, hb⟩ := hrel
            by_cases hlt2 : t < ln
            · have i3 := I3.below hb
              have ib2 := hB2.below hb
              rcases i3 with h0 | ⟨g3, o3, rfl, hg3, hc3⟩
              · omega
              have y3 := (show ∀ t, t < ln → _ = some (Value.int .i64 (l.getD t 0)) from hc3) t hlt2
              have hz := HALL.out t hlt2
              clear hc3
              generalize l.getD t 0 = z at *
              have hcl := fun W A' h1 h2 => clauseis_any A' D2 1 1 N d2 (fun _ => z) V W (by omega) (by omega) h1 h2
              rw [clB_one, hz] at hcl
              have lt3 : (t : Int) < (ln : Int) := by omega
              go_wp2_with (go_at_call 14; refine (hcl _ _ (one_ints _ z _) (ib2.below (bal (Below.refl _ _) _))).mono ?_; rintro e wy ⟨rfl, hqy⟩)
              go_roundw
              case rel => exact ⟨t + 1, by omega, by go_num, btr (btr hb (bal (Below.refl _ _) _)) hqy⟩
              case measure => simp [intOf]; omega
            · have hke : t = ln := by omega
              subst hke
              go_wp2
              go_ret
              exact ⟨rfl, btr q9 hb⟩
end Go.Proofs.Ytoechhdahokoiaa
