/- Several texts in one: CuJ, CuK, CuL, CuM, CuR. -/
import Derived.Test.YtjnngijilkdhbaaC1
import Derived.Test.YtjnngijilkdhbaaCcC
import Derived.Test.YtjnngijilkdhbaaCcW
import Derived.BigQuiet
namespace Go.Proofs.Ytjnngijilkdhbaa
set_option linter.unusedVariables false
set_option linter.unusedSimpArgs false
open Go.RowKit
def putL (N : Nat) (V : Nat → Int) : List Int := (List.range N).map V
theorem putL_succ (k : Nat) (V : Nat → Int) : putL (k + 1) V = putL k V ++ [V k] := by unfold putL; rw [List.range_succ, List.map_append]; rfl
theorem putL_len (k : Nat) (V : Nat → Int) : (putL k V).length = k := by unfold putL; rw [List.length_map, List.length_range]
theorem goU_inv {m : Int} {T : List Int} {x : Int} (h : GoU m (T ++ [x])) : GoU m T ∧ ofC x m = true ∧ atU T x = 0 := by
  generalize hR : T ++ [x] = R at h
  cases h with
  | nil => simp at hR
  | push T' x' h h1 h0 =>
    have := List.append_inj' hR rfl
    obtain ⟨rfl, e⟩ := this
    obtain rfl : x = x' := by simpa using e
    exact ⟨h, h1, h0⟩
theorem goU_upto {m : Int} {V : Nat → Int} {k : Nat} : ∀ {N : Nat}, GoU m (putL N V) → k ≤ N → GoU m (putL k V)
  | 0, h, hk => by obtain rfl : k = 0 := by omega
                   exact h
  | N + 1, h, hk => by
    by_cases e : k = N + 1
    · subst e; exact h
    · rw [putL_succ] at h
      exact goU_upto (goU_inv h).1 (by omega)
theorem ab6_up {N : Nat} {Z : Nat → Int} {m : Int} (h : OkC N Z m) : ∀ k, k < N → ∀ j, j < k → ab6 (Z j) < ab6 (Z k)
  | 0, _, j, hj => absurd hj (by omega)
  | k + 1, hk, j, hj => by
    have h1 := (h.2.2 (k + 1) hk).1
    have e : pv6 Z (k + 1) = ab6 (Z k) := rfl
    by_cases e2 : j = k
    · subst e2; omega
    · have := ab6_up h k (by omega) j (by omega); omega
theorem ab6_ge {N : Nat} {Z : Nat → Int} {m : Int} (h : OkC N Z m) : ∀ k, k < N → (k : Int) + 1 ≤ ab6 (Z k)
  | 0, hk => by have h1 := (h.2.2 0 hk).1; have e : pv6 Z 0 = 0 := rfl; omega
  | k + 1, hk => by
    have h1 := (h.2.2 (k + 1) hk).1
    have e : pv6 Z (k + 1) = ab6 (Z k) := rfl
    have := ab6_ge h k (by omega)
    omega
theorem okC_facts {N : Nat} {Z : Nat → Int} {m : Int} (h : OkC N Z m) : N ≤ 60 ∧ InjC N Z ∧ ∀ x, MemC N Z x → ofC x m = true ∧ ofC x 60 = true := by
  refine ⟨?_, fun j k hj hk e => ?_, fun x hx => ?_⟩
  · by_cases e : N = 0
    · omega
    · have h1 := ab6_ge h (N - 1) (by omega)
      have h2 := (h.2.2 (N - 1) (by omega)).2
      have h3 := h.2.1
      omega
  · rcases Nat.lt_trichotomy j k with l | l | l
    · have := ab6_up h k hk j l; rw [e] at this; omega
    · exact l
    · have := ab6_up h j hj k l; rw [e] at this; omega
  · obtain ⟨k, hk, rfl⟩ := hx
    have h1 := ab6_ge h k hk
    have h2 := (h.2.2 k hk).2
    have h3 := ab6_le h.2.1 h2
    have h0 : Z k ≠ 0 := fun e => by rw [e] at h1; have : ab6 0 = 0 := rfl; omega
    exact ⟨ofC_iff.2 ⟨h0, h3.1, h3.2.1⟩, ofC_iff.2 ⟨h0, h3.2.2.1, h3.2.2.2⟩⟩
theorem cn_facts {n : Nat} {L : Lls} {m : Int} (h : cnB n L m = true) : n ≤ 400 ∧ 0 ≤ m ∧ m ≤ 60 ∧ LitL n L ∧ (∀ i, i < n → L.N i ≤ 60) ∧ ∀ i, i < n → InjC (L.N i) (L.Z i) := by
  obtain ⟨h0, h1, h2, h3⟩ := cnB_iff.1 h
  exact ⟨h2, h0, h1, fun i hi x hx => ((okC_facts (okC_iff.1 (h3 i hi))).2.2 x hx).2, fun i hi => (okC_facts (okC_iff.1 (h3 i hi))).1, fun i hi => (okC_facts (okC_iff.1 (h3 i hi))).2.1⟩
/-- what unit propagation answers -/
def UnR (n : Nat) (L : Lls) (m : Int) (T l : List Int) (r : Bool) : Prop :=
  (cnB n L m = true ∧ GoU m T ∧ Ur n L T l r) ∨ (¬ (cnB n L m = true ∧ GoU m T) ∧ l = [] ∧ r = false)
theorem UnR.det {n : Nat} {L : Lls} {m : Int} {T l l' : List Int} {r r' : Bool} (h : UnR n L m T l r) (h' : UnR n L m T l' r') : l = l' ∧ r = r' := by
  rcases h with ⟨a, b, c⟩ | ⟨a, b, c⟩
  · rcases h' with ⟨a', b', c'⟩ | ⟨a', _⟩
    · exact c.det c'
    · exact absurd ⟨a, b⟩ a'
  · rcases h' with ⟨a', b', c'⟩ | ⟨a', b', c'⟩
    · exact absurd ⟨a', b'⟩ a
    · exact ⟨b.trans b'.symm, c.trans c'.symm⟩
theorem UnR.len {n : Nat} {L : Lls} {m : Int} {T l : List Int} {r : Bool} (h : UnR n L m T l r) : l.length ≤ 60 := by
  rcases h with ⟨a, b, c⟩ | ⟨a, rfl, c⟩
  · obtain ⟨_, _, m1, hL, _⟩ := cn_facts a
    exact (c.good hL (b.mono m1)).len60
  · simp
/-- .. of the program, in memory of its own -/
def UnP (w : World) (n : Nat) (L : Lls) (m : Int) (T : List Int) (e : Ending) (w' : World) : Prop :=
  ∃ l r A c, UnR n L m T l r ∧ e = .returned (.tuple #[.slice A l.length c, .bool r]) ∧ OwnI w w' A l.length (fun k => l.getD k 0)
theorem UnP.no {w w' : World} {n : Nat} {L : Lls} {m : Int} {T : List Int} {e : Ending} (h : ¬ (cnB n L m = true ∧ GoU m T)) (he : e = .returned (.tuple #[.slice none 0 0, .bool false])) : UnP w n L m T e w' :=
  ⟨[], false, none, 0, .inr ⟨h, rfl, rfl⟩, he, .inl rfl⟩
set_option maxHeartbeats 8000000 in
set_option maxRecDepth 100000 in
theorem cnfunits_any (A : Option Addr) (n c : Nat) (L : Lls) (m : Int) (B : Option Addr) (N cB : Nat) (V : Nat → Int) (w : World) (hn : n ≤ 9223372036854775807) (hA : IntSS w A n L) (hN : N ≤ 9223372036854775807) (hB : Ints w B N V) :
    Calls Try.prog 25 #[.agg #[.int .i64 m, .slice A n c], .slice B N cB] w fun e w' => UnP w n L m (putL N V) e w' ∧ Below w.heap.size w w' := by
  have q0 := bal (Below.refl w.heap.size w) (.cells #[.int .i64 m, .slice A n c] 31)
  obtain ⟨c0, c1⟩ := pair_new w (.int .i64 m) (.slice A n c) 31
  have hK := fun W (h : Below w.heap.size w W) => cnfok_any A n c L m W hn (hA.below h)
  go_enter Try.func25, Try.ntmps25
  go_upto_region 1 with fail
  generalize w.alloc (.cells #[.int .i64 m, .slice A n c] 31) = w1 at *
  go_wp2_with fail
  refine (hK _ q0).mono ?_
  rintro e w2 ⟨rfl, hq⟩
  replace q0 := btr q0 hq
  replace c0 := carry hq c0
  replace c1 := carry hq c1
  clear hq hK w1
  cases hcn : cnB n L m
  · have HF := hid (show ¬ (cnB n L m = true ∧ GoU m (putL N V)) from fun h => by rw [hcn] at h; cases h.1)
    clear hcn
    go_wp2
    go_ret2
    exact ⟨UnP.no HF.out rfl, q0⟩
  · obtain ⟨n4, m0, m60, hL, hL6, hInj⟩ := cn_facts hcn
    have HCN := hid hcn
    clear hcn
    have hNw := newprop_any A n c L m w2 n4 (hA.below q0) hL (fun i hi => by have := hL6 i hi; omega) hInj
    have HL := hid hL; have HL6 := hid (show ∀ i, i < n → L.N i ≤ 61 from fun i hi => by have := hL6 i hi; omega)
    clear hL hL6 hInj
    go_wp2_with fail
    refine hNw.mono ?_
    rintro e w3 ⟨⟨b, k, s, rfl, hP, hkn, hkN, hI, hD, hS, hT⟩, hq⟩
    have q3 := btr q0 hq
    have d0 := carry hq c0
    have hlo2 : w.heap.size ≤ w2.heap.size := q0.size
    have hlo3 := hq.size
    have hbx : w.heap.size < w2.heap.size := cell_lt c0
    have H3 := hid (show PrM w2.heap.size b k s w3 ∧ InvB n L s.C s.Wl s.T ∧ InvD n L s.C s.due s.T 0 ∧ SetS s.S s.T ∧ s.T = putL 0 V ∧ GoU m (putL 0 V) from ⟨hP, hI, hD, hS, hT, .nil⟩)
    have HKN := hid hkN
    clear hNw hP hI hD hS hT hkN c0 c1 hq
    go_wp2
    go_loopw [18] (fun v wr => ∃ (j : Nat) (s1 : Ps), j ≤ N ∧ v = .int .i64 (j : Int) ∧ (PrM w2.heap.size b k s1 wr ∧ InvB n L s1.C s1.Wl s1.T ∧ InvD n L s1.C s1.due s1.T 0 ∧ SetS s1.S s1.T ∧ s1.T = putL j V ∧ GoU m (putL j V)) ∧ Below w.heap.size w wr ∧ w2.heap.size ≤ wr.heap.size ∧ wr.cell? ⟨w.heap.size, 0, none⟩ = some (.int .i64 m)) (fun v _ => N - (intOf v).toNat)
    case atStart => exact ⟨0, s, Nat.zero_le _, rfl, H3.out, q3, hlo3, d0⟩
    case round =>
      clear H3 q3 hlo3 d0
      obtain ⟨j, s1, hj, rfl, hSt, hb, hlo, d0⟩ := hrel
      by_cases hlt : j < N
      · rcases hB with h0 | ⟨g, off, rfl, hg, hcB⟩
        · omega
        have x0 := carry hb (hcB j hlt)
        have HB := hid (show ∀ k, k < N → w.cell? ⟨g, off + k, none⟩ = some (.int .i64 (V k)) from hcB)
        clear hcB
        have hOf := fun W => of_lit (V j) m W ⟨by omega, by omega⟩
        cases ho : ofC (V j) m
        · rw [ho] at hOf
          have HF := hid (show ¬ (cnB n L m = true ∧ GoU m (putL N V)) from fun h => by
            have h1 := goU_upto h.2 (k := j + 1) (by omega)
            rw [putL_succ] at h1
            rw [(goU_inv h1).2.1] at ho
            cases ho)
          clear ho hSt
          go_wp2_with (go_at_call 41; refine (hOf _).mono ?_; rintro e w4 ⟨rfl, rfl⟩)
          go_ret2
          exact ⟨UnP.no HF.out rfl, hb⟩
        · rw [ho] at hOf
          have hlit : ofC (V j) 60 = true := by have := ofC_iff.1 ho; exact ofC_iff.2 ⟨this.1, by omega, by omega⟩
          obtain ⟨v, e1, e2, e3, e4, e5, _⟩ := lit_rng hlit
          have hsc := hSt.1.cs (v := v) (by omega)
          have hFr := freeU_any b 123 v (V j) (s1.S v) wr hsc ⟨e4, e5⟩ e1 e3
          have hAt := hSt.2.2.2.1.at hlit
          rw [e2] at hAt
          have HO := hid ho
          have HSt := hid hSt
          cases hf : (s1.S v == 0)
          · rw [hf] at hFr
            have hf' : s1.S v ≠ 0 := by simpa using hf
            have HF := hid (show ¬ (cnB n L m = true ∧ GoU m (putL N V)) from fun h => by
              have h1 := goU_upto h.2 (k := j + 1) (by omega)
              rw [putL_succ] at h1
              have h2 := (goU_inv h1).2.2
              rw [← hSt.2.2.2.2.1] at h2
              exact hf' (hAt.2.2.2 h2))
            clear hf hf' ho hSt hAt
            go_wp2_with (first | (go_at_call 41; refine (hOf _).mono ?_; rintro e w4 ⟨rfl, rfl⟩) | (go_at_call 42; refine hFr.mono ?_; rintro e w4 ⟨rfl, hq4⟩))
            go_ret2
            exact ⟨UnP.no HF.out rfl, btr hb hq4⟩
          · rw [hf] at hFr
            have h0 : atU s1.T (V j) = 0 := hAt.2.2.1 (by simpa using hf)
            have hlen : s1.T.length ≤ 61 := by
              have h1 := (hSt.2.2.2.2.2.mono m60).len60
              rw [hSt.2.2.2.2.1]
              omega
            have hD' : InvD k.n L s1.C s1.due s1.T (V j) := fun i hi => dd_mono (hSt.2.2.1 i (by omega)) fun h0 => (ofC_iff.1 (mem_lit HL.out hSt.2.1 (by omega) h0)).1
            have hAs := fun W (h : Below wr.heap.size wr W) => assign_any w2.heap.size b k s1 L (V j) W (hSt.1.below h) HKN.out (by omega) (by rw [hkn]; exact HL.out) (by rw [hkn]; exact HL6.out) (by rw [hkn]; exact hSt.2.1) hD' hSt.2.2.2.1 hlit h0 hlen (Nat.le_trans hlo h.size)
            have HG := hid (show GoU m (putL (j + 1) V) from by rw [putL_succ]; exact .push _ _ hSt.2.2.2.2.2 ho (by rw [← hSt.2.2.2.2.1]; exact h0))
            have HT := hid hSt.2.2.2.2.1
            clear hf ho hSt hAt h0 hD' hsc HSt
            go_wp2_with (first | (go_at_call 41; refine (hOf _).mono ?_; rintro e w4 ⟨rfl, rfl⟩) | (go_at_call 42; refine hFr.mono ?_; rintro e w4 ⟨rfl, hq4⟩) | (go_at_call 43; refine (hAs _ (by assumption)).mono ?_; rintro e w5 ⟨rfl, ⟨s5, hP5, hT5, hS5, hB5, hD5⟩, hq5⟩))
            go_roundw
            case rel =>
              have d4 := carry hq4 d0
              have q4 := btr hb hq4
              refine ⟨j + 1, s5, by omega, by go_num, ⟨hP5, by rw [← hkn]; exact hB5, by rw [← hkn]; exact hD5, hS5, by rw [hT5, HT.out, putL_succ], HG.out⟩, q4.trans (hq5.mono hlo2), Nat.le_trans hlo (Nat.le_trans hq4.size hq5.size), (hq5.cell (p := ⟨w.heap.size, 0, none⟩) hbx).trans d4⟩
            case measure => simp [intOf]; omega
      · have hke : j = N := by omega
        subst hke
        obtain ⟨hP, hI, hD, hS, hT, hG⟩ := hSt
        have hRn := prrun_any w2.heap.size b k s1 L wr ⟨hP, by rw [hkn]; exact hI, by rw [hkn]; exact hD, hS, by rw [hT]; exact hG.mono m60, fun _ _ h => h⟩ HKN.out (by omega) (by rw [hkn]; exact HL.out) (by rw [hkn]; exact HL6.out) hlo
        clear hP hI hD hS
        go_wp2_with fail
        refine hRn.mono ?_
        rintro e w4 ⟨⟨s4, r, rfl, hP4, hU⟩, hq4⟩
        have q4 := hb.trans (hq4.mono hlo2)
        have c184 := hP4.c184
        obtain ⟨A', c', e4, hO⟩ := own_intsC (W := w) hlo2 hP4.tr
        rw [e4] at c184
        have HU := hid hU; have HT := hid hT; have HG := hid hG
        clear hRn hU hT hG hP4 e4
        go_wp2
        go_ret2
        refine ⟨⟨s4.T, r, A', c', .inl ⟨HCN.out, HG.out, ?_⟩, rfl, hO⟩, q4⟩
        have := HU.out
        rw [hkn, HT.out] at this
        exact this
end Go.Proofs.Ytjnngijilkdhbaa

namespace Go.Proofs.Ytjnngijilkdhbaa
set_option linter.unusedVariables false
set_option linter.unusedSimpArgs false
open Go.RowKit
theorem atU_before {V : Nat → Int} {x : Int} : ∀ {k : Nat}, (∀ j, j < k → V j ≠ x ∧ V j ≠ -x) → atU (putL k V) x = 0
  | 0, _ => rfl
  | k + 1, h => by
    rw [putL_succ, atU_append, atU_before (k := k) (fun j hj => h j (by omega)), if_pos rfl, atU_one, if_neg (h k (by omega)).1, if_neg (h k (by omega)).2]
theorem atU_stays {V : Nat → Int} {x : Int} {k : Nat} (h : atU (putL k V) x ≠ 0) : ∀ d, atU (putL (k + d) V) x = atU (putL k V) x
  | 0 => rfl
  | d + 1 => by
    rw [← Nat.add_assoc, putL_succ, atU_append, atU_stays h d, if_neg h]
theorem atU_found {V : Nat → Int} {x y : Int} {k N : Nat} (hk : k < N) (h : ∀ j, j < k → V j ≠ x ∧ V j ≠ -x) (hy : y ≠ 0) (h1 : atU [V k] x = y) : atU (putL N V) x = y := by
  have h2 : atU (putL (k + 1) V) x = y := by rw [putL_succ, atU_append, atU_before h, if_pos rfl, h1]
  have h3 := atU_stays (V := V) (x := x) (k := k + 1) (by rw [h2]; exact hy) (N - (k + 1))
  rw [show k + 1 + (N - (k + 1)) = N by omega] at h3
  rw [h3, h2]
set_option maxHeartbeats 2000000 in
theorem sat_any (B : Option Addr) (N cB : Nat) (V : Nat → Int) (x : Int) (w : World) (hN : N ≤ 9223372036854775807) (hB : Ints w B N V) (hx : -9223372036854775807 ≤ x ∧ x ≤ 9223372036854775807) :
    Calls Try.prog 52 #[.slice B N cB, .int .i64 x] w fun e w' => e = .returned (.int .i64 (atU (putL N V) x)) ∧ w = w' := by
  obtain ⟨x1, x2⟩ := hx
  generalize hr : atU (putL N V) x = res
  have HR := hid hr; clear hr
  go_enter Try.func52, Try.ntmps52
  go_wp2
  go_loop [5] (fun i => ∃ k : Nat, k ≤ N ∧ i = .int .i64 k ∧ ∀ j, j < k → V j ≠ x ∧ V j ≠ -x) (fun i => N - (intOf i).toNat)
  case atStart => exact ⟨0, Nat.zero_le _, rfl, fun j hj => by omega⟩
  case round =>
    obtain ⟨k, hk, rfl, he⟩ := hrel
    have HE := hid he; clear he
    by_cases hlt : k < N
    · rcases hB with h0 | ⟨g, off, rfl, hg, hcB⟩
      · omega
      have c1 := hcB k hlt
      clear hcB
      by_cases h1 : V k = x
      · have d1 : (V k == x) = true := by simpa using h1
        have HF := hid (atU_found (y := 1) hlt HE.out (by decide) (by rw [atU_one, if_pos h1]))
        clear h1
        go_wp2
        go_ret
        exact ⟨congrArg (fun z => Ending.returned (Value.int .i64 z)) (HF.out.symm.trans HR.out), rfl⟩
      · have d1 : (V k == x) = false := by simpa using h1
        by_cases h2 : V k = -x
        · have d2 : (V k == -x) = true := by simpa using h2
          have HF := hid (atU_found (y := -1) hlt HE.out (by decide) (by rw [atU_one, if_neg h1, if_pos h2]))
          clear h1 h2
          go_wp2
          go_ret
          exact ⟨congrArg (fun z => Ending.returned (Value.int .i64 z)) (HF.out.symm.trans HR.out), rfl⟩
        · have d2 : (V k == -x) = false := by simpa using h2
          have HQ := hid (show V k ≠ x ∧ V k ≠ -x from ⟨h1, h2⟩)
          clear h1 h2
          go_wp2
          go_round
          case rel =>
            refine ⟨k + 1, by omega, by go_num, fun j hj => ?_⟩
            by_cases e : j = k
            · subst e; exact HQ.out
            · exact HE.out j (by omega)
          case measure => simp [intOf]; omega
    · have hke : k = N := by omega
      subst hke
      have HF := hid (atU_before HE.out)
      go_wp2
      go_ret
      exact ⟨congrArg (fun z => Ending.returned (Value.int .i64 z)) (HF.out.symm.trans HR.out), rfl⟩
/-- how many literals are left, and the first of these -/
def CntS (N : Nat) (Z : Nat → Int) (T : List Int) (k : Nat) (c l : Int) : Prop :=
  0 ≤ c ∧ c ≤ k ∧ (∀ j, j < k → atU T (Z j) ≠ 1) ∧ ((c = 0 ∧ l = 0 ∧ ∀ j, j < k → atU T (Z j) = -1) ∨ (c = 1 ∧ ∃ q, q < k ∧ l = Z q ∧ atU T (Z q) = 0 ∧ ∀ j, j < k → j ≠ q → atU T (Z j) = -1) ∨ (2 ≤ c ∧ ∃ p q, p < k ∧ q < k ∧ p ≠ q ∧ l = Z p ∧ atU T (Z p) = 0 ∧ atU T (Z q) = 0))
def LeftP (N : Nat) (Z : Nat → Int) (T : List Int) (c l : Int) : Prop := (c = 0 ∧ Fal N Z T) ∨ (c = 1 ∧ Uni N Z T l) ∨ (c ≠ 0 ∧ c ≠ 1 ∧ Idle N Z T)
theorem CntS.fin {N : Nat} {Z : Nat → Int} {T : List Int} {c l : Int} (h : CntS N Z T N c l) (hI : InjC N Z) : LeftP N Z T c l := by
  obtain ⟨_, _, _, ⟨h1, _, h2⟩ | ⟨h1, q, hq, rfl, h2, h3⟩ | ⟨h1, p, q, hp, hq, hne, _, h2, h3⟩⟩ := h
  · exact .inl ⟨h1, fun x ⟨k, hk, e⟩ => by rw [← e]; exact h2 k hk⟩
  · refine .inr (.inl ⟨h1, ⟨q, hq, rfl⟩, h2, fun y ⟨k, hk, e⟩ hy => ?_⟩)
    rw [← e]
    exact h3 k hk fun e2 => hy (by rw [← e, e2])
  · exact .inr (.inr ⟨by omega, by omega, idle_two ⟨p, hp, rfl⟩ ⟨q, hq, rfl⟩ (fun e => hne (hI p q hp hq e)) (by omega) (by omega)⟩)
def LefP (N : Nat) (Z : Nat → Int) (T : List Int) (e : Ending) : Prop := ∃ c l, e = .returned (.tuple #[.int .i64 c, .int .i64 l]) ∧ LeftP N Z T c l
set_option maxHeartbeats 4000000 in
theorem sleft_any (B : Option Addr) (M cB : Nat) (V : Nat → Int) (A : Option Addr) (N cA : Nat) (Z : Nat → Int) (w : World) (hM : M ≤ 9223372036854775807) (hB : Ints w B M V) (hN : N ≤ 61) (hA : Ints w A N Z) (hI : InjC N Z) (hl : ∀ x, MemC N Z x → ofC x 60 = true) :
    Calls Try.prog 53 #[.slice B M cB, .slice A N cA] w fun e w' => LefP N Z (putL M V) e ∧ w = w' := by
  have hAt := fun x (h : ofC x 60 = true) => sat_any B M cB V x w hM hB (by have := ofC_iff.1 h; omega)
  generalize putL M V = T at *
  have HI := hid hI; have HL := hid hl
  clear hI hl hB
  go_enter Try.func53, Try.ntmps53
  go_wp2
  go_loop [6, 7, 8] (fun c l i => ∃ (k : Nat) (cn lf : Int), k ≤ N ∧ i = .int .i64 k ∧ c = .int .i64 cn ∧ l = .int .i64 lf ∧ CntS N Z T k cn lf) (fun _ _ i => N - (intOf i).toNat)
  case atStart => exact ⟨0, 0, 0, Nat.zero_le _, rfl, rfl, rfl, by omega, by omega, fun j hj => by omega, .inl ⟨rfl, rfl, fun j hj => by omega⟩⟩
  case round =>
    obtain ⟨k, cn, lf, hk, rfl, rfl, rfl, hc⟩ := hrel
    obtain ⟨hc0, hc1, _⟩ := id hc
    have HC := hid hc; clear hc
    by_cases hlt : k < N
    · rcases hA with h0 | ⟨g, off, rfl, hg, hcA⟩
      · omega
      have c1 := hcA k hlt
      clear hcA
      have hlit := HL.out _ ⟨k, hlt, rfl⟩
      have hS := hAt _ hlit
      have hbd := ofC_iff.1 hlit
      rcases atU_rng T (Z k) with h | h | h
      · rw [h] at hS
        have HF := hid (idle_true (N := N) (Z := Z) ⟨k, hlt, rfl⟩ h)
        clear h
        go_wp2_with (go_at_call 52; refine hS.mono ?_; rintro e w1 ⟨rfl, rfl⟩)
        go_ret2
        exact ⟨⟨2, 0, rfl, .inr (.inr ⟨by decide, by decide, HF.out⟩)⟩, rfl⟩
      · rw [h] at hS
        have H0 := hid h
        clear h
        by_cases hz : cn = 0
        · subst hz
          go_wp2_with (go_at_call 52; refine hS.mono ?_; rintro e w1 ⟨rfl, rfl⟩)
          go_round
          case rel =>
            refine ⟨k + 1, 1, Z k, by omega, by go_num, rfl, rfl, by omega, by omega, fun j hj => ?_, .inr (.inl ⟨rfl, k, by omega, rfl, H0.out, fun j hj hne => ?_⟩)⟩
            · by_cases e : j = k
              · subst e; have := H0.out; omega
              · exact HC.out.2.2.1 j (by omega)
            · obtain ⟨_, _, _, ⟨_, _, h2⟩ | ⟨h1, _⟩ | ⟨h1, _⟩⟩ := HC.out
              · exact h2 j (by omega)
              · omega
              · omega
          case measure => simp [intOf]; omega
        · have d0 : (cn == 0) = false := by simpa using hz
          have HZ := hid hz
          clear hz
          go_wp2_with (go_at_call 52; refine hS.mono ?_; rintro e w1 ⟨rfl, rfl⟩)
          go_round
          case rel =>
            refine ⟨k + 1, cn + 1, lf, by omega, by go_num, by go_num, rfl, by omega, by omega, fun j hj => ?_, .inr (.inr ⟨by have := HZ.out; omega, ?_⟩)⟩
            · by_cases e : j = k
              · subst e; have := H0.out; omega
              · exact HC.out.2.2.1 j (by omega)
            · obtain ⟨_, _, _, ⟨h1, _⟩ | ⟨_, q, hq, h1, h2, _⟩ | ⟨_, p, q, hp, hq, hne, h1, h2, h3⟩⟩ := HC.out
              · exact absurd h1 HZ.out
              · exact ⟨q, k, by omega, by omega, by omega, h1, h2, H0.out⟩
              · exact ⟨p, q, by omega, by omega, hne, h1, h2, h3⟩
          case measure => simp [intOf]; omega
      · rw [h] at hS
        have H0 := hid h
        clear h
        go_wp2_with (go_at_call 52; refine hS.mono ?_; rintro e w1 ⟨rfl, rfl⟩)
        go_round
        case rel =>
          refine ⟨k + 1, cn, lf, by omega, by go_num, rfl, rfl, by omega, by omega, fun j hj => ?_, ?_⟩
          · by_cases e : j = k
            · subst e; have := H0.out; omega
            · exact HC.out.2.2.1 j (by omega)
          · obtain ⟨_, _, _, ⟨h1, h4, h2⟩ | ⟨h1, q, hq, h4, h2, h3⟩ | ⟨h0, p, q, hp, hq, hne, h1, h2, h3⟩⟩ := HC.out
            · refine .inl ⟨h1, h4, fun j hj => ?_⟩
              by_cases e : j = k
              · subst e; exact H0.out
              · exact h2 j (by omega)
            · refine .inr (.inl ⟨h1, q, by omega, h4, h2, fun j hj hne => ?_⟩)
              by_cases e : j = k
              · subst e; exact H0.out
              · exact h3 j (by omega) hne
            · exact .inr (.inr ⟨h0, p, q, by omega, by omega, hne, h1, h2, h3⟩)
        case measure => simp [intOf]; omega
    · have hke : k = N := by omega
      subst hke
      go_wp2
      go_ret2
      exact ⟨⟨cn, lf, rfl, HC.out.fin HI.out⟩, rfl⟩
end Go.Proofs.Ytjnngijilkdhbaa

namespace Go.Proofs.Ytjnngijilkdhbaa
set_option linter.unusedVariables false
set_option linter.unusedSimpArgs false
open Go.RowKit
theorem putL_at {N j : Nat} {V : Nat → Int} (hj : j < N) : (valsI (putL N V))[j]? = some (.int .i64 (V j)) := by
  rw [valsI_at (by rw [putL_len]; exact hj)]
  unfold putL
  rw [List.getD_eq_getElem?_getD, List.getElem?_map, List.getElem?_range hj]
  rfl
theorem putL_getD (T : List Int) : putL T.length (fun k => T.getD k 0) = T := by
  apply List.ext_getElem?
  intro i
  unfold putL
  by_cases hi : i < T.length
  · rw [List.getElem?_map, List.getElem?_range hi, List.getElem?_eq_getElem hi]
    simp only [Option.map_some, List.getD_eq_getElem?_getD, List.getElem?_eq_getElem hi, Option.getD_some]
  · rw [List.getElem?_eq_none (by rw [List.length_map, List.length_range]; omega), List.getElem?_eq_none (by omega)]
theorem own_empU (w : World) (t : TypeId) (base : Nat) (h : base ≤ w.heap.size) : (w.alloc (.cells #[] t)).ownsRow base t 1 (.slice (some ⟨w.heap.size, 0, none⟩) 0 0) 0 [] :=
  ⟨by simp, .inr ⟨w.heap.size, 0, #[], rfl, h, Deep.blk_alloc_new _ _, Nat.le_refl _, by unfold maxLen; omega, by simp, by simp⟩⟩
/-- numbers appended to an empty row of one's own -/
theorem wpList_app0U {ops : Array Oper} {rest : List Oper} {o : Oper} {a : Act} {w : World} {Q : Exit → Act → World → Prop} (hgd : o.guard = none) (s x : Operand)
    (ho : o.op = .call { callee := .builtin .append, args := #[s, x], argTypes := #[38, 38] }) (base g : Nat) (hs : a.eval s = .slice (some ⟨g, 0, none⟩) 0 0) (hown : w.ownsRow base 3 1 (.slice (some ⟨g, 0, none⟩) 0 0) 0 [])
    (B : Option Addr) (N cB : Nat) (V : Nat → Int) (hx : a.eval x = .slice B N cB) (hN : N ≤ 1048576) (hB : Ints w B N V) (hbase : base ≤ w.heap.size)
    (h : ∀ v' w', w'.ownsRow base 3 1 v' N (valsI (putL N V)) → w.grownBy w' (some g) → wpList Try.prog ops Q rest (a.put o.dst v') w') : wpList Try.prog ops Q (o :: rest) a w := by
  obtain ⟨i0, hi, hz0, hz1, hz2⟩ := info_parts infoI
  refine wpList_plain hgd fun K hK => ?_
  unfold Oper.wp
  by_cases h0 : N = 0
  · subst h0
    have hr : (Builtin.append_ #[38, 38] o.type #[.slice (some ⟨g, 0, none⟩) 0 0, .slice B 0 cB]).run Try.prog w = .ok (.slice (some ⟨g, 0, none⟩) 0 0) w := by
      cases B with
      | none => simp [Builtin.append_, run_underlying Try.underlying38, sizeOf, typeInfo, hi, Builtin.lenOf, Builtin.firstCells, storeCells]
      | some a =>
        have hf := run_firstCells_some (P := Try.prog) w i0.size 0 a 0 cB [] (by simp) (fun j v h => by simp at h)
        simp [Builtin.append_, run_underlying Try.underlying38, sizeOf, typeInfo, hi, Builtin.lenOf, hf, storeCells]
    have e1 : (execOp a.eval o).run Try.prog w = .ok (.value (.slice (some ⟨g, 0, none⟩) 0 0)) w := by
      unfold execOp
      simp only [ho, resolve, invoke, builtin, Sem.run_bind, Sem.run_pure, Result.andThen_ok, List.map_toArray, List.map_cons, List.map_nil, hs, hx, hr]
    simp only [e1]
    exact hK _ _ (h _ _ hown ⟨rfl, rfl, rfl, Nat.le_refl _, fun _ _ _ => rfl⟩)
  · rcases hB with h | ⟨g4, off, rfl, hg4, hc⟩
    · exact absurd h h0
    obtain ⟨v', w', hr, h2, h3, h4⟩ := run_append_freshU (P := Try.prog) w base 38 o.type 3 i0 (.int .i64 0) 1 8 Try.underlying38 hi hz0 hz1 hz2 rfl (by decide) (.slice (some ⟨g, 0, none⟩) 0 0) 0 [] hown ⟨g4, off, none⟩ N cB (valsI (putL N V)) (by unfold valsI; rw [List.length_map, putL_len]; omega)
      (fun j u hj => by
        have hjl : j < N := by
          have := (List.getElem?_eq_some_iff.1 hj).1
          unfold valsI at this
          rw [List.length_map, putL_len] at this
          exact this
        rw [putL_at hjl] at hj
        rw [← Option.some.inj hj, show (⟨g4, off, none⟩ : Addr).add j = ⟨g4, off + j, none⟩ by unfold Addr.add; split <;> simp_all]
        exact hc j hjl) (fun u hu => by unfold valsI at hu; obtain ⟨z, _, rfl⟩ := List.mem_map.1 hu; rfl) (by unfold maxLen; omega) (by omega) hbase
    rw [Nat.zero_add, List.nil_append] at h2
    have e1 : (execOp a.eval o).run Try.prog w = .ok (.value v') w' := by
      unfold execOp
      simp only [ho, resolve, invoke, builtin, Sem.run_bind, Sem.run_pure, Result.andThen_ok, List.map_toArray, List.map_cons, List.map_nil, hs, hx, hr]
    simp only [e1]
    exact hK _ _ (h _ _ h2 h3)
def lenV (v : Value) : Nat := match v with | .slice _ n _ => n | _ => 0
theorem meas_app {a n k : Nat} (ha : a ≤ 60) : (61 - (a + 1)) * (n + 2) + (n + 1 - (0 : Int).toNat) < (61 - a) * (n + 2) + (n + 1 - (k : Int).toNat) := by
  obtain ⟨d, hd⟩ : ∃ d, 61 - a = d + 1 := ⟨60 - a, by omega⟩
  have h2 : 61 - (a + 1) = d := by omega
  rw [hd, h2, Nat.add_mul]
  simp
  omega
theorem meas_up {a n k : Nat} (hk : k < n) : a + (n + 1 - ((k : Int) + 1).toNat) < a + (n + 1 - (k : Int).toNat) := by
  omega
/-- the state of the model's propagation -/
def SuS (w : World) (A : Option Addr) (n c : Nat) (L : Lls) (T0 : List Int) (k : Nat) (v : Value) (T : List Int) (W : World) : Prop :=
  W.ownsRow (w.heap.size + 1) 3 1 v T.length (valsI T) ∧ GoU 60 T ∧ (∀ j, j < k → Idle (L.N j) (L.Z j) T) ∧ (∀ T' r, Ur n L T T' r → Ur n L T0 T' r) ∧ Below w.heap.size w W ∧ W.cell? ⟨w.heap.size, 1, none⟩ = some (.slice A n c) ∧ w.heap.size + 1 ≤ W.heap.size
/-- what the model's propagation answers -/
def SuP (w : World) (n : Nat) (L : Lls) (T : List Int) (e : Ending) (w' : World) : Prop :=
  ∃ l r A c, Ur n L T l r ∧ e = .returned (.tuple #[.slice A l.length c, .bool r]) ∧ OwnI w w' A l.length (fun k => l.getD k 0)
set_option maxHeartbeats 8000000 in
set_option maxRecDepth 100000 in
theorem sunits_any (A : Option Addr) (n c : Nat) (L : Lls) (m : Int) (B : Option Addr) (N cB : Nat) (V : Nat → Int) (w : World) (hn : n ≤ 400) (hA : IntSS w A n L) (hL : LitL n L) (hN6 : ∀ i, i < n → L.N i ≤ 60) (hinj : ∀ i, i < n → InjC (L.N i) (L.Z i)) (hB : Ints w B N V) (hG : GoU 60 (putL N V)) :
    Calls Try.prog 39 #[.agg #[.int .i64 m, .slice A n c], .slice B N cB] w fun e w' => SuP w n L (putL N V) e w' ∧ Below w.heap.size w w' := by
  have hN : N ≤ 60 := by have := hG.len60; rw [putL_len] at this; exact this
  obtain ⟨T0, hT0⟩ : ∃ T0, T0 = putL N V := ⟨_, rfl⟩
  rw [← hT0] at hG ⊢
  have HT0 := hid hT0
  clear hT0
  have q0 := bal (Below.refl w.heap.size w) (.cells #[.int .i64 m, .slice A n c] 31)
  obtain ⟨c0, c1⟩ := pair_new w (.int .i64 m) (.slice A n c) 31
  have hsz : (w.alloc (.cells #[.int .i64 m, .slice A n c] 31)).heap.size = w.heap.size + 1 := World.size_alloc _ _
  obtain ⟨i0, hi, hz0, hz1, hz2⟩ := info_parts infoI
  have HI := hid hi; have HL := hid hL; have HN6 := hid hN6; have HJ := hid hinj; have HG := hid hG
  clear hi hL hN6 hinj hG
  go_enter Try.func39, Try.ntmps39
  go_upto_region 1 with fail
  generalize w.alloc (.cells #[.int .i64 m, .slice A n c] 31) = w1 at *
  have hE := own_empU w1 3 (w.heap.size + 1) (by omega)
  have CE := bal (Below.refl w1.heap.size w1) (.cells #[] 3)
  have qE := btr q0 CE
  have d1 := carry CE c1
  have hBE := hB.below qE
  have hszE : w.heap.size + 1 ≤ (w1.alloc (.cells #[] 3)).heap.size := by have := CE.size; omega
  have hlt0 : w.heap.size < w1.heap.size := by omega
  clear hsz
  go_wp2_with (at_builtin; refine wpList_app0U rfl _ _ rfl (w.heap.size + 1) w1.heap.size rfl hE B N cB V rfl (by omega) hBE hszE ?_; intro v3 w3 hown3 hgrow3)
  have H3 : Hid (SuS w A n c L T0 0 v3 T0 w3) := hid ⟨by rw [HT0.out, putL_len]; exact hown3, HG.out, fun j hj => by omega, fun _ _ h => h, qE.grown hgrow3 qE.size (fun r hr => by cases hr; omega), hgrow3.cell d1 (by simp; omega), Nat.le_trans hszE hgrow3.size⟩
  clear hown3 hgrow3 CE hE qE d1 hBE hszE c0 c1 q0 hlt0
  go_loopw [6, 7] (fun v i wr => ∃ (k : Nat) (T : List Int), k ≤ n ∧ i = .int .i64 (k : Int) ∧ SuS w A n c L T0 k v T wr) (fun v i _ => (61 - lenV v) * (n + 2) + (n + 1 - (intOf i).toNat))
  case atStart => exact ⟨0, _, Nat.zero_le _, rfl, H3.out⟩
  case round =>
    clear H3
    obtain ⟨k, T, hk, rfl, hown, hg, hid_, hu, hb, d1, hsz⟩ := hrel
    obtain ⟨av, cv, rfl, hO⟩ := own_intsC (W := w) (by omega) hown
    have hTl := hg.len60
    by_cases hlt : k < n
    · rcases hA with h0 | ⟨g, off, rfl, hgg, hcA⟩
      · omega
      obtain ⟨a, ca, a0, hNk, hZ⟩ := hcA k hlt
      have a1 := carry hb a0
      have HA := hid (show ∀ k, k < n → ∃ a c, w.cell? ⟨g, off + k, none⟩ = some (.slice a (L.N k) c) ∧ L.N k ≤ 9223372036854775807 ∧ Ints w a (L.N k) (L.Z k) from hcA)
      clear hcA a0
      have hLf := sleft_any av T.length cv (fun k => T.getD k 0) a (L.N k) ca (L.Z k) wr (by omega) hO.ints' (by have := HN6.out k hlt; omega) (hZ.below hb) (HJ.out k hlt) (HL.out k hlt)
      rw [putL_getD] at hLf
      have HU := hid hu; have HID := hid hid_; have HGo := hid hg; have HOW := hid hown
      clear hu hid_ hg hO hown
      have hkI : (k : Int) < (n : Int) := by omega
      go_wp2_with fail
      refine hLf.mono ?_
      rintro e w4 ⟨⟨cn, lf, rfl, hlp⟩, rfl⟩
      clear hLf
      by_cases z0 : cn = 0
      · subst z0
        have HF := hid (show Ur n L T0 T true from HU.out _ _ (Ur.bad T k hlt (by
          rcases hlp with ⟨_, h⟩ | ⟨h, _⟩ | ⟨h, _⟩
          · exact h
          · omega
          · exact absurd rfl h) HID.out))
        clear hlp
        have HO := hid (own_intsC (W := w) (by omega) HOW.out)
        go_wp2
        go_ret2
        obtain ⟨av', cv', e1, hO'⟩ := HO.out
        injection e1 with e1 e2 e3
        subst e1 e3
        exact ⟨⟨T, true, av, cv, HF.out, rfl, hO'⟩, hb⟩
      · have d0 : (cn == 0) = false := by simpa using z0
        by_cases z1 : cn = 1
        · subst z1
          have hu1 : Uni (L.N k) (L.Z k) T lf := by
            rcases hlp with ⟨h, _⟩ | ⟨_, h⟩ | ⟨_, h, _⟩
            · omega
            · exact h
            · exact absurd rfl h
          have HF := hid (show ∀ T' r, Ur n L (T ++ [lf]) T' r → Ur n L T0 T' r from fun T' r h => HU.out _ _ (Ur.step T k lf T' r hlt hu1 HID.out h))
          have HG1 := hid (GoU.push T lf HGo.out (HL.out k hlt _ hu1.1) hu1.2.1)
          clear hlp hu1 z0
          have CX := bal (Below.refl wr.heap.size wr) (.cells #[.int .i64 lf] 3)
          have hO1 := hid (own_belowU CX HOW.out)
          have hnews := news_one wr (.int .i64 lf) 3
          have d2 := carry CX d1
          have q2 := btr hb CX
          have hs2 := Nat.le_trans hsz CX.size
          go_wp2_with (at_builtin; refine wpList_appendU rfl _ _ 38 rfl (w.heap.size + 1) 3 i0 (.int .i64 0) 1 8 Try.underlying38 HI.out hz0 hz1 hz2 rfl (by decide) (.slice av T.length cv) T.length (valsI T) rfl hO1.out ⟨wr.heap.size, 0, none⟩ 1 1 [.int .i64 lf] rfl rfl hnews (fun u hu => by simp at hu; subst hu; rfl) (by unfold maxLen; omega) (by omega) hs2 ?_; intro v' w5 hown5 hgrow5 hfresh5; obtain ⟨a5, c5, rfl⟩ := own_sliceU hown5)
          go_roundw
          case rel =>
            refine ⟨0, T ++ [lf], Nat.zero_le _, by go_num, ?_, HG1.out, fun j hj => absurd hj (by omega), HF.out, q2.grown hgrow5 q2.size (fun r hr => by have := (hO1.out.lt r hr).1; omega), hgrow5.cell d2 (fun e => by have := (hO1.out.lt _ e.symm).1; simp at this; omega), Nat.le_trans hs2 hgrow5.size⟩
            rw [List.length_append, ← vals_app]
            exact hown5
          case measure => exact meas_app hTl
        · have d1' : (cn == 1) = false := by simpa using z1
          have hidl : Idle (L.N k) (L.Z k) T := by
            rcases hlp with ⟨h, _⟩ | ⟨h, _⟩ | ⟨_, _, h⟩
            · exact absurd h z0
            · exact absurd h z1
            · exact h
          have HI1 := hid hidl
          clear hlp hidl z0 z1
          go_wp2
          go_roundw
          case rel =>
            refine ⟨k + 1, T, by omega, by go_num, HOW.out, HGo.out, fun j hj => ?_, HU.out, hb, d1, hsz⟩
            by_cases e : j = k
            · subst e; exact HI1.out
            · exact HID.out j (by omega)
          case measure => exact meas_up hlt
    · have hke : k = n := by omega
      subst hke
      have HF := hid (hu _ _ (Ur.stop T hid_))
      clear hu hid_ hown
      go_wp2
      go_ret2
      exact ⟨⟨T, false, av, cv, HF.out, rfl, hO⟩, hb⟩
end Go.Proofs.Ytjnngijilkdhbaa

namespace Go.Proofs.Ytjnngijilkdhbaa
set_option linter.unusedVariables false
set_option linter.unusedSimpArgs false
open Go.RowKit
/-- literals of the variables 1 to m, each once -/
noncomputable def goB (m : Int) (T : List Int) : Bool := @decide (GoU m T) (Classical.propDecidable _)
theorem goB_yes {m : Int} {T : List Int} (h : GoU m T) : goB m T = true := by unfold goB; exact @decide_eq_true _ (Classical.propDecidable _) h
theorem goB_no {m : Int} {T : List Int} (h : ¬ GoU m T) : goB m T = false := by unfold goB; exact @decide_eq_false _ (Classical.propDecidable _) h
theorem goB_of {m : Int} {T : List Int} (h : goB m T = true) : GoU m T := by unfold goB at h; exact @of_decide_eq_true _ (Classical.propDecidable _) h
theorem goU_stop {m : Int} {N k : Nat} {V : Nat → Int} (hk : k < N) (h : ¬ (ofC (V k) m = true ∧ atU (putL k V) (V k) = 0)) : ¬ GoU m (putL N V) := fun hg => by
  have h1 := goU_upto hg (k := k + 1) (by omega)
  rw [putL_succ] at h1
  exact h ⟨(goU_inv h1).2.1, (goU_inv h1).2.2⟩
set_option maxHeartbeats 8000000 in
theorem sright_any (B : Option Addr) (N cB : Nat) (V : Nat → Int) (m : Int) (w : World) (hN : N ≤ 9223372036854775807) (hNc : N ≤ cB) (hm0 : 0 ≤ m) (hm : m ≤ 60) (hB : Ints w B N V) :
    Calls Try.prog 38 #[.slice B N cB, .int .i64 m] w fun e w' => e = .returned (.bool (goB m (putL N V))) ∧ Below w.heap.size w w' := by
  generalize hr : goB m (putL N V) = res
  have HR := hid hr; clear hr
  go_enter Try.func38, Try.ntmps38
  go_wp2
  go_loopw [5] (fun i wr => ∃ k : Nat, k ≤ N ∧ i = .int .i64 k ∧ GoU m (putL k V) ∧ Below w.heap.size w wr) (fun i _ => N - (intOf i).toNat)
  case atStart => exact ⟨0, Nat.zero_le _, rfl, .nil, Below.refl _ _⟩
  case round =>
    obtain ⟨k, hk, rfl, hg, hb⟩ := hrel
    have HG := hid hg; clear hg
    by_cases hlt : k < N
    · rcases hB with h0 | ⟨g, off, rfl, hgg, hcB⟩
      · omega
      have c1 := carry hb (hcB k hlt)
      have hIk : Ints wr (some ⟨g, off, none⟩) k V := .inr ⟨g, off, rfl, Nat.lt_of_lt_of_le hgg hb.size, fun j hj => carry hb (hcB j (by omega))⟩
      clear hcB
      have gg := cell_lt c1
      have hkI : (k : Int) < (N : Int) := by omega
      have hkc : (k : Int) ≤ (cB : Int) := by omega
      have hkc' : k ≤ cB := by omega
      have gc := @gro_cell wr
      go_upto_region 4 with fail
      by_cases h0 : V k = 0
      · have d0 : (V k == 0) = true := by simpa using h0
        have HF := hid (goB_no (goU_stop hlt (m := m) (V := V) fun h => (ofC_iff.1 h.1).1 h0))
        clear h0
        refine wp_region_grow_lit (by kernel_rfl) (by kernel_rfl) ?_
        repeat (go_big_quiet_step (fail))
        refine wpQuiet_nil ?_
        rintro _ ⟨X, rfl⟩
        clear gc
        go_wp2
        go_ret
        exact ⟨ret_bool (HF.out.symm.trans HR.out), btr hb X.h⟩
      · have d0 : (V k == 0) = false := by simpa using h0
        have hAb := fun X : Gro wr => (sabs_any (V k) (gro wr X)).mono fun e w' h => (⟨h.1, h.2 ▸ Below.refl _ _⟩ : e = .returned (.int .i64 (ab6 (V k))) ∧ Below (gro wr X).heap.size (gro wr X) w')
        by_cases h1 : m < ab6 (V k)
        · have d1 : decide (m < ab6 (V k)) = true := by simpa using h1
          have HF := hid (goB_no (goU_stop hlt (m := m) (V := V) fun h => by
            have h2 := ofC_iff.1 h.1
            rw [ab6_in (by omega) (by omega)] at h1
            split at h1 <;> omega))
          clear h0 h1
          refine wp_region_grow_lit (by kernel_rfl) (by kernel_rfl) ?_
          repeat (go_big_quiet_step ((go_at_call 51; exact grow_call _ (hAb _))))
          refine wpQuiet_nil ?_
          rintro _ ⟨X, rfl⟩
          clear gc hAb
          go_wp2
          go_ret
          exact ⟨ret_bool (HF.out.symm.trans HR.out), btr hb X.h⟩
        · have d1 : decide (m < ab6 (V k)) = false := by simpa using h1
          have hof : ofC (V k) m = true := by
            have h2 := ab6_le hm (x := V k) (by omega)
            exact ofC_iff.2 ⟨h0, h2.1, h2.2.1⟩
          have hbd := ofC_iff.1 hof
          have HO := hid hof
          have hAt := fun X : Gro wr => (sat_any (some ⟨g, off, none⟩) k cB V (V k) (gro wr X) (by omega) (hIk.below X.h) (by omega)).mono fun e w' h => (⟨h.1, h.2 ▸ Below.refl _ _⟩ : e = .returned (.int .i64 (atU (putL k V) (V k))) ∧ Below (gro wr X).heap.size (gro wr X) w')
          clear h0 h1 hof hbd hIk
          by_cases h2 : atU (putL k V) (V k) = 0
          · rw [h2] at hAt
            have HG2 := hid (show GoU m (putL (k + 1) V) from by rw [putL_succ]; exact .push _ _ HG.out HO.out h2)
            clear h2
            refine wp_region_grow_lit (by kernel_rfl) (by kernel_rfl) ?_
            repeat (go_big_quiet_step (first | (go_at_call 51; exact grow_call _ (hAb _)) | (go_at_call 52; exact grow_call _ (hAt _))))
            refine wpQuiet_nil ?_
            rintro _ ⟨X, rfl⟩
            clear gc hAb hAt
            go_wp2
            go_roundw
            case rel => exact ⟨k + 1, by omega, by go_num, HG2.out, btr hb X.h⟩
            case measure => simp [intOf]; omega
          · have d2 : (atU (putL k V) (V k) != 0) = true := by simpa using h2
            have HF := hid (goB_no (goU_stop hlt (m := m) (V := V) fun h => h2 h.2))
            clear h2
            generalize atU (putL k V) (V k) = z at *
            refine wp_region_grow_lit (by kernel_rfl) (by kernel_rfl) ?_
            repeat (go_big_quiet_step (first | (go_at_call 51; exact grow_call _ (hAb _)) | (go_at_call 52; exact grow_call _ (hAt _))))
            refine wpQuiet_nil ?_
            rintro _ ⟨X, rfl⟩
            clear gc hAb hAt
            go_wp2
            go_ret
            exact ⟨ret_bool (HF.out.symm.trans HR.out), btr hb X.h⟩
    · have hke : k = N := by omega
      subst hke
      have HF := hid (goB_yes HG.out)
      go_wp2
      go_ret
      exact ⟨ret_bool (HF.out.symm.trans HR.out), hb⟩
set_option maxHeartbeats 4000000 in
theorem scnfunits_any (A : Option Addr) (n c : Nat) (L : Lls) (m : Int) (B : Option Addr) (N cB : Nat) (V : Nat → Int) (w : World) (hn : n ≤ 9223372036854775807) (hA : IntSS w A n L) (hN : N ≤ 9223372036854775807) (hNc : N ≤ cB) (hB : Ints w B N V) :
    Calls Try.prog 23 #[.agg #[.int .i64 m, .slice A n c], .slice B N cB] w fun e w' => UnP w n L m (putL N V) e w' ∧ Below w.heap.size w w' := by
  have q0 := bal (Below.refl w.heap.size w) (.cells #[.int .i64 m, .slice A n c] 31)
  obtain ⟨c0, c1⟩ := pair_new w (.int .i64 m) (.slice A n c) 31
  have hK := fun W (h : Below w.heap.size w W) => scnfok_any A n c L m W hn (hA.below h)
  go_enter Try.func23, Try.ntmps23
  go_upto_region 1 with fail
  generalize w.alloc (.cells #[.int .i64 m, .slice A n c] 31) = w1 at *
  cases hcn : cnB n L m
  · rw [hcn] at hK
    have HF := hid (show ¬ (cnB n L m = true ∧ GoU m (putL N V)) from fun h => by rw [hcn] at h; cases h.1)
    clear hcn
    go_wp2_with (go_at_call 32; refine (hK _ q0).mono ?_; rintro e w2 ⟨rfl, hq⟩)
    go_ret2
    exact ⟨⟨[], false, _, _, .inr ⟨HF.out, rfl, rfl⟩, rfl, .inl rfl⟩, bal (btr q0 hq) _⟩
  · rw [hcn] at hK
    obtain ⟨n4, m0, m60, hL, hL6, hInj⟩ := cn_facts hcn
    have hR := fun W (h : Below w.heap.size w W) => sright_any B N cB V m W hN hNc m0 m60 (hB.below h)
    cases hgo : goB m (putL N V)
    · rw [hgo] at hR
      have HF := hid (show ¬ (cnB n L m = true ∧ GoU m (putL N V)) from fun h => by rw [goB_yes h.2] at hgo; cases hgo)
      clear hcn hgo hL hL6 hInj
      go_wp2_with fail
      refine (hK _ q0).mono ?_
      rintro e w2 ⟨rfl, hq⟩
      have c0' := carry hq c0
      have q2 := btr q0 hq
      clear c0 c1 hq
      go_wp2_with fail
      refine (hR _ q2).mono ?_
      rintro e w3 ⟨rfl, hq⟩
      have q3 := btr q2 hq
      go_wp2
      go_ret2
      exact ⟨⟨[], false, _, _, .inr ⟨HF.out, rfl, rfl⟩, rfl, .inl rfl⟩, bal q3 _⟩
    · rw [hgo] at hR
      have HCN := hid hcn; have HGO := hid (goB_of hgo)
      have hU := fun W (h : Below w.heap.size w W) => sunits_any A n c L m B N cB V W n4 (hA.below h) hL hL6 hInj (hB.below h) (HGO.out.mono m60)
      clear hcn hgo hL hL6 hInj
      go_wp2_with fail
      refine (hK _ q0).mono ?_
      rintro e w2 ⟨rfl, hq⟩
      have c0' := carry hq c0
      have c1' := carry hq c1
      have q2 := btr q0 hq
      clear c0 c1 hq
      go_wp2_with fail
      refine (hR _ q2).mono ?_
      rintro e w3 ⟨rfl, hq⟩
      have q3 := btr q2 hq
      have c0 := carry hq c0'
      have c1 := carry hq c1'
      clear c0' c1' hq
      go_wp2_with fail
      refine (hU _ q3).mono ?_
      rintro e w4 ⟨⟨l, r, A', c', hu, rfl, hO⟩, hq⟩
      have HU := hid hu
      clear hu hU
      go_wp2
      go_ret2
      exact ⟨⟨l, r, A', c', .inl ⟨HCN.out, HGO.out, HU.out⟩, rfl, OwnI.old q3.size hO⟩, btr q3 hq⟩
end Go.Proofs.Ytjnngijilkdhbaa

namespace Go.Proofs.Ytjnngijilkdhbaa
set_option linter.unusedVariables false
set_option linter.unusedSimpArgs false
open Go.RowKit
def negZ (Z : Nat → Int) : Nat → Int := fun k => -(Z k)
theorem goU_neg {N : Nat} {Z : Nat → Int} {m : Int} (h : OkC N Z m) : ∀ k, k ≤ N → GoU m (putL k (negZ Z))
  | 0, _ => .nil
  | k + 1, hk => by
    rw [putL_succ]
    have hk' : k < N := by omega
    have h3 := (okC_facts h).2.2 (Z k) ⟨k, hk', rfl⟩
    have h4 := ofC_iff.1 h3.1
    have h5 := ofC_iff.1 h3.2
    refine .push _ _ (goU_neg h k (by omega)) (ofC_iff.2 ⟨by unfold negZ; omega, by unfold negZ; omega, by unfold negZ; omega⟩) (atU_before fun j hj => ?_)
    have hl := ab6_up h k hk' j hj
    have h6 := ofC_iff.1 ((okC_facts h).2.2 (Z j) ⟨j, by omega, rfl⟩).2
    rw [ab6_in (by omega) (by omega), ab6_in (by omega) (by omega)] at hl
    unfold negZ
    split at hl <;> split at hl <;> omega
/-- the clause follows by unit propagation -/
noncomputable def rupB (n : Nat) (L : Lls) (m : Int) (N : Nat) (Z : Nat → Int) : Bool := @decide (okC N Z m = true ∧ ∃ l, UnR n L m (putL N (negZ Z)) l true) (Classical.propDecidable _)
theorem rupB_no {n : Nat} {L : Lls} {m : Int} {N : Nat} {Z : Nat → Int} (h : ¬ (okC N Z m = true ∧ ∃ l, UnR n L m (putL N (negZ Z)) l true)) : rupB n L m N Z = false := by
  unfold rupB; exact @decide_eq_false _ (Classical.propDecidable _) h
theorem rupB_is {n : Nat} {L : Lls} {m : Int} {N : Nat} {Z : Nat → Int} {l : List Int} {r : Bool} (h : okC N Z m = true) (hu : UnR n L m (putL N (negZ Z)) l r) : rupB n L m N Z = r := by
  unfold rupB
  cases r with
  | true => exact @decide_eq_true _ (Classical.propDecidable _) ⟨h, l, hu⟩
  | false => exact @decide_eq_false _ (Classical.propDecidable _) fun ⟨_, l', h'⟩ => by have := (hu.det h').2; cases this
theorem vals_neg (k : Nat) (Z : Nat → Int) : valsI (putL k (negZ Z)) ++ [.int .i64 (-(Z k))] = valsI (putL (k + 1) (negZ Z)) := by
  rw [putL_succ]; unfold valsI; rw [List.map_append]; rfl
theorem negZ_getD {N t : Nat} {Z : Nat → Int} (h : t < N) : (putL N (negZ Z)).getD t 0 = negZ Z t := by
  unfold putL
  rw [List.getD_eq_getElem?_getD, List.getElem?_map, List.getElem?_range h]
  rfl
theorem OwnI.congrU {W w : World} {A : Option Addr} {n : Nat} {Z Y : Nat → Int} (e : ∀ k, k < n → Z k = Y k) (h : OwnI W w A n Z) : OwnI W w A n Y := by
  rcases h with h | ⟨g, ha, h1, h2, hc⟩
  · exact .inl h
  · exact .inr ⟨g, ha, h1, h2, fun k hk => by rw [← e k hk]; exact hc k hk⟩
theorem run_load2U {P : Program} {o : Oper} {ty : TypeId} {x : Operand} (ho : o.op = .load ty x) {a : Act} {b : Nat} (hx : a.eval x = .pointer (some ⟨b, 0, none⟩)) {d : TypeDesc} (hu : P.underlying ty = some d) (hd : d.isRow = true) (hi : (P.info? ty).map (·.size) = some 2) {x0 x1 : Value} {w : World}
    (h0 : w.cell? ⟨b, 0, none⟩ = some x0) (h1 : w.cell? ⟨b, 1, none⟩ = some x1) : (execOp a.eval o).run P w = .ok (.value (.agg #[x0, x1])) w := by
  have hc : w.rangeAt b 0 [x0, x1] := fun j v hv => by
    match j, hv with
    | 0, hv => simp at hv; subst hv; simpa using h0
    | 1, hv => simp at hv; subst hv; simpa using h1
    | j + 2, hv => simp at hv
  have hl := run_loadVar_mid (P := P) w b 0 ty [x0, x1] d hc hu hd hi
  unfold execOp
  simp only [ho, hx, Instr.loadAt, Instr.sureAddr, Sem.run_bind, Sem.run_pure, Result.andThen_ok, hl]
set_option maxHeartbeats 4000000 in
theorem snots_any (B : Option Addr) (N cB : Nat) (Z : Nat → Int) (w : World) (hN : N ≤ 1000000) (hB : Ints w B N Z) (hb : ∀ k, k < N → -9223372036854775807 ≤ Z k ∧ Z k ≤ 9223372036854775807) :
    Calls Try.prog 46 #[.slice B N cB] w fun e w' => (∃ A c, e = .returned (.slice A N c) ∧ N ≤ c ∧ OwnI w w' A N (negZ Z)) ∧ Below w.heap.size w w' := by
  obtain ⟨i0, hi, hz0, hz1, hz2⟩ := info_parts infoI
  have HI := hid hi; clear hi
  have HB := hid hb; clear hb
  have hE := hid (own_empU w 3 w.heap.size (Nat.le_refl _))
  have qE := bal (Below.refl w.heap.size w) (.cells #[] 3)
  go_enter Try.func46, Try.ntmps46
  go_wp2
  go_loopw [3, 4] (fun v i wr => ∃ k : Nat, k ≤ N ∧ i = .int .i64 k ∧ wr.ownsRow w.heap.size 3 1 v k (valsI (putL k (negZ Z))) ∧ Below w.heap.size w wr) (fun _ i _ => N - (intOf i).toNat)
  case atStart => exact ⟨0, Nat.zero_le _, rfl, hE.out, qE⟩
  case round =>
    clear qE hE
    obtain ⟨k, hk, rfl, hown, hq⟩ := hrel
    by_cases hlt : k < N
    · rcases hB with h0 | ⟨g, off, rfl, hg, hcB⟩
      · omega
      have c1 := carry hq (hcB k hlt)
      obtain ⟨b1, b2⟩ := HB.out k hlt
      obtain ⟨av, cv, rfl⟩ := own_sliceU hown
      have CX := bal (Below.refl wr.heap.size wr) (.cells #[.int .i64 (-(Z k))] 3)
      have hO1 := hid (own_belowU CX hown)
      have hnews := news_one wr (.int .i64 (-(Z k))) 3
      have q2 := btr hq CX
      have hs2 := q2.size
      clear hcB hown
      go_wp2_with (at_builtin; refine wpList_appendU rfl _ _ 38 rfl w.heap.size 3 i0 (.int .i64 0) 1 8 Try.underlying38 HI.out hz0 hz1 hz2 rfl (by decide) (.slice av k cv) k (valsI (putL k (negZ Z))) rfl hO1.out ⟨wr.heap.size, 0, none⟩ 1 1 [.int .i64 (-(Z k))] rfl rfl hnews (fun u hu => by simp at hu; subst hu; rfl) (by unfold maxLen; omega) (by omega) hs2 ?_; intro v' w5 hown5 hgrow5 hfresh5)
      go_roundw
      case rel => exact ⟨k + 1, by omega, by go_num, by rw [← vals_neg]; exact hown5, q2.grown hgrow5 hs2 (fun r hr => (hO1.out.lt r hr).1)⟩
      case measure => simp [intOf]; omega
    · have hke : k = N := by omega
      subst hke
      obtain ⟨A', c', rfl, hO⟩ := own_intsC (l := putL k (negZ Z)) (W := w) (Nat.le_refl _) (by rw [putL_len]; exact hown)
      rw [putL_len] at hO
      have hcap : k ≤ c' := by
        obtain ⟨_, ⟨e, h0⟩ | ⟨g, cap, cur, e, _, _, h1, _⟩⟩ := hown
        · omega
        · rw [putL_len] at e
          injection e with _ _ e3
          omega
      have HO := hid (OwnI.congrU (fun t ht => negZ_getD ht) hO)
      rw [putL_len]
      clear hown hO
      go_wp2
      go_ret
      exact ⟨⟨A', c', rfl, hcap, HO.out⟩, hq⟩
theorem cnfrup_put (N : Nat) (Z : Nat → Int) {m : Int} (h : OkC N Z m) : GoU m (putL N (negZ Z)) := goU_neg h N (Nat.le_refl _)
set_option maxHeartbeats 8000000 in
set_option maxRecDepth 100000 in
theorem cnfrup_any (A : Option Addr) (n c : Nat) (L : Lls) (m : Int) (B : Option Addr) (N cB : Nat) (Z : Nat → Int) (w : World) (hn : n ≤ 9223372036854775807) (hA : IntSS w A n L) (hN : N ≤ 9223372036854775807) (hB : Ints w B N Z) :
    Calls Try.prog 30 #[.agg #[.int .i64 m, .slice A n c], .slice B N cB] w fun e w' => e = .returned (.bool (rupB n L m N Z)) ∧ Below w.heap.size w w' := by
  have q0 := bal (Below.refl w.heap.size w) (.cells #[.int .i64 m, .slice A n c] 31)
  obtain ⟨c0, c1⟩ := pair_new w (.int .i64 m) (.slice A n c) 31
  have hz := World.size_alloc w (.cells #[.int .i64 m, .slice A n c] 31)
  have hK := fun W (h : Below w.heap.size w W) => clauseok_any B N cB Z m W hN (hB.below h)
  generalize hres : rupB n L m N Z = res
  have HRES := hid hres; clear hres
  go_enter Try.func30, Try.ntmps30
  go_upto_region 1 with fail
  generalize w.alloc (.cells #[.int .i64 m, .slice A n c] 31) = w1 at *
  cases hok : okC N Z m
  · rw [hok] at hK
    have HF := hid (show rupB n L m N Z = false from rupB_no fun h => by rw [hok] at h; cases h.1)
    clear hok hz
    go_wp2_with (go_at_call 47; refine (hK _ q0).mono ?_; rintro e w2 ⟨rfl, rfl⟩)
    go_ret
    exact ⟨ret_bool (HF.out.symm.trans HRES.out), q0⟩
  · rw [hok] at hK
    have HOK := hid hok
    have hN60 := (okC_facts (okC_iff.1 hok)).1
    obtain ⟨i0, hi, hz0, hz1, hz2⟩ := info_parts infoI
    have HI := hid hi; clear hi
    have hlo1 : w.heap.size + 1 ≤ w1.heap.size := by omega
    clear hok hz
    go_wp2_with fail
    refine (hK _ q0).mono ?_
    rintro e w2 ⟨rfl, rfl⟩
    clear hK
    go_wp2
    go_loopw [5, 17] (fun v i wr => ∃ k : Nat, k ≤ N ∧ i = .int .i64 k ∧ wr.ownsRow (w.heap.size + 1) 3 1 v k (valsI (putL k (negZ Z))) ∧ Below w.heap.size w wr ∧ w.heap.size + 1 ≤ wr.heap.size ∧ wr.cell? ⟨w.heap.size, 0, none⟩ = some (.int .i64 m) ∧ wr.cell? ⟨w.heap.size, 1, none⟩ = some (.slice A n c)) (fun _ i _ => N - (intOf i).toNat)
    case atStart => exact ⟨0, Nat.zero_le _, rfl, World.ownsRow_nil _ _ _ _, q0, hlo1, c0, c1⟩
    case round =>
      clear q0 hlo1 c0 c1
      obtain ⟨k, hk, rfl, hown, hq, hlo, d0, d1⟩ := hrel
      by_cases hlt : k < N
      · rcases hB with h0 | ⟨g, off, rfl, hg, hcB⟩
        · omega
        have c1 := carry hq (hcB k hlt)
        have hbd := ofC_iff.1 ((okC_facts (okC_iff.1 HOK.out)).2.2 (Z k) ⟨k, hlt, rfl⟩).2
        obtain ⟨av, cv, rfl⟩ := own_sliceU hown
        have CX := bal (Below.refl wr.heap.size wr) (.cells #[.int .i64 (-(Z k))] 3)
        have hO1 := hid (own_belowU CX hown)
        have hnews := news_one wr (.int .i64 (-(Z k))) 3
        have q2 := btr hq CX
        have hs2 := Nat.le_trans hlo CX.size
        have e0 := carry CX d0
        have e1 := carry CX d1
        clear hcB hown d0 d1
        go_wp2_with (at_builtin; refine wpList_appendU rfl _ _ 38 rfl (w.heap.size + 1) 3 i0 (.int .i64 0) 1 8 Try.underlying38 HI.out hz0 hz1 hz2 rfl (by decide) (.slice av k cv) k (valsI (putL k (negZ Z))) rfl hO1.out ⟨wr.heap.size, 0, none⟩ 1 1 [.int .i64 (-(Z k))] rfl rfl hnews (fun u hu => by simp at hu; subst hu; rfl) (by unfold maxLen; omega) (by omega) hs2 ?_; intro v' w5 hown5 hgrow5 hfresh5)
        go_roundw
        case rel =>
          have hne : ∀ o, some (⟨w.heap.size, o, none⟩ : Addr).block ≠ (Value.slice av k cv).ownBlock := fun o e => by
            have := (hO1.out.lt _ e.symm).1
            simp at this
            omega
          exact ⟨k + 1, by omega, by go_num, by rw [← vals_neg]; exact hown5, q2.grown hgrow5 q2.size (fun r hr => by have := (hO1.out.lt r hr).1; omega), Nat.le_trans hs2 hgrow5.size, hgrow5.cell e0 (hne 0), hgrow5.cell e1 (hne 1)⟩
        case measure => simp [intOf]; omega
      · have hke : k = N := by omega
        subst hke
        obtain ⟨A', c', rfl, hO⟩ := own_intsC (base := w.heap.size + 1) (l := putL k (negZ Z)) (W := w) (by omega) (by rw [putL_len]; exact hown)
        rw [putL_len] at hO
        have hI := (OwnI.congrU (fun t ht => negZ_getD ht) hO).ints'
        have hU := cnfunits_any A n c L m A' k c' (negZ Z) wr hn (hA.below hq) (by omega) hI
        rw [putL_len]
        clear hown hO hI
        go_wp2_with fail
        refine hU.mono ?_
        rintro e w4 ⟨⟨l, r, A4, c4, hu, rfl, _⟩, hq4⟩
        have HF := hid (rupB_is HOK.out hu)
        clear hu hU
        go_wp2
        go_ret
        exact ⟨ret_bool (HF.out.symm.trans HRES.out), btr hq hq4⟩
set_option maxHeartbeats 8000000 in
set_option maxRecDepth 100000 in
theorem scnfrup_any (A : Option Addr) (n c : Nat) (L : Lls) (m : Int) (B : Option Addr) (N cB : Nat) (Z : Nat → Int) (w : World) (hn : n ≤ 9223372036854775807) (hA : IntSS w A n L) (hN : N ≤ 9223372036854775807) (hB : Ints w B N Z) :
    Calls Try.prog 29 #[.agg #[.int .i64 m, .slice A n c], .slice B N cB] w fun e w' => e = .returned (.bool (rupB n L m N Z)) ∧ Below w.heap.size w w' := by
  have q0 := bal (Below.refl w.heap.size w) (.cells #[.int .i64 m, .slice A n c] 31)
  obtain ⟨c0, c1⟩ := pair_new w (.int .i64 m) (.slice A n c) 31
  have hK := fun W (h : Below w.heap.size w W) => scnfok_any A n c L m W hn (hA.below h)
  have hC := fun W (h : Below w.heap.size w W) => sclauseok_any B N cB Z m W hN (hB.below h)
  generalize hres : rupB n L m N Z = res
  have HRES := hid hres; clear hres
  go_enter Try.func29, Try.ntmps29
  go_upto_region 1 with fail
  generalize w.alloc (.cells #[.int .i64 m, .slice A n c] 31) = w1 at *
  cases hcn : cnB n L m
  · rw [hcn] at hK
    have HF := hid (show rupB n L m N Z = false from rupB_no fun ⟨_, l, h⟩ => by
      rcases h with ⟨h, _⟩ | ⟨_, _, h⟩
      · rw [hcn] at h; cases h
      · cases h)
    clear hcn
    go_wp2_with (go_at_call 32; refine (hK _ q0).mono ?_; rintro e w2 ⟨rfl, hq⟩)
    go_ret
    exact ⟨ret_bool (HF.out.symm.trans HRES.out), btr q0 hq⟩
  · rw [hcn] at hK
    have HCN := hid hcn; clear hcn
    cases hok : okC N Z m
    · rw [hok] at hC
      have HF := hid (show rupB n L m N Z = false from rupB_no fun h => by rw [hok] at h; cases h.1)
      clear hok
      go_wp2_with fail
      refine (hK _ q0).mono ?_
      rintro e w2 ⟨rfl, hq⟩
      have d0 := carry hq c0
      replace q0 := btr q0 hq
      clear c0 c1 hq
      go_wp2_with (go_at_call 45; refine (hC _ q0).mono ?_; rintro e w2 ⟨rfl, rfl⟩)
      go_ret
      exact ⟨ret_bool (HF.out.symm.trans HRES.out), q0⟩
    · rw [hok] at hC
      have HOK := hid hok; clear hok
      obtain ⟨n4, m0, m60, hL, hL6, hInj⟩ := cn_facts HCN.out
      have hOk := okC_iff.1 HOK.out
      have hN60 := (okC_facts hOk).1
      have hG := (cnfrup_put N Z hOk).mono m60
      have hNt := fun W (h : Below w.heap.size w W) => snots_any B N cB Z W (by omega) (hB.below h) (fun k hk => by have := ofC_iff.1 ((okC_facts hOk).2.2 (Z k) ⟨k, hk, rfl⟩).2; omega)
      have hU := fun A' c' W (h : Below w.heap.size w W) hI => sunits_any A n c L m A' N c' (negZ Z) W n4 (hA.below h) hL hL6 hInj hI hG
      have HG := hid (cnfrup_put N Z hOk)
      clear hL hL6 hInj hOk hG
      go_wp2_with fail
      refine (hK _ q0).mono ?_
      rintro e w2 ⟨rfl, hq⟩
      have d0 := carry hq c0
      have d1 := carry hq c1
      replace q0 := btr q0 hq
      clear c0 c1 hq hK
      go_wp2_with fail
      refine (hC _ q0).mono ?_
      rintro e w3 ⟨rfl, rfl⟩
      clear hC
      go_upto_region 3 with fail
      have qd := (Below.refl w2.heap.size w2).drew
      refine region_planC (fun W => W.cell? ⟨w.heap.size, 0, none⟩ = some (.int .i64 m) ∧ W.cell? ⟨w.heap.size, 1, none⟩ = some (.slice A n c)) (.takes [0, 1] (.make 2 (.make 3 (.takes [4, 5, 6, 7] .fin)))) 8 rfl (by kernel_rfl) ⟨carry qd d0, carry qd d1⟩ ?_
      replace d0 := carry qd d0
      replace d1 := carry qd d1
      have q3 := btr q0 qd
      clear qd q0
      generalize w2.drew = w3 at *
      refine plan_takes ?_; simp only [pickOps, List.getElem?_cons_zero, List.getElem?_cons_succ]
      refine quiet_doC rfl (.agg #[.int .i64 m, .slice A n c]) (fun W hW => by exact run_load2U rfl (by kernel_rfl) Try.underlying31 rfl (by kernel_rfl) hW.1 hW.2) ?_
      refine quiet_doC rfl (.slice B N cB) (fun W hW => by simp [execOp, go_sem]) ?_
      refine wpQuiet_nil ?_
      simp only [Act.put, List.setIfInBounds_toArray, List.set_cons_succ, List.set_cons_zero]
      refine planC_call rfl rfl 46 #[.slice B N cB] (by kernel_rfl) ((hNt _ q3).mono ?_)
      rintro e w4 ⟨⟨A4, c4, rfl, _, hO4⟩, hr⟩
      have d4 := carry hr d0
      have d5 := carry hr d1
      refine ⟨_, rfl, ⟨d4, d5⟩, ?_⟩
      have q4 := btr q3 hr
      have hU4 := hU A4 c4 w4 q4 hO4.ints'
      clear hU hNt hO4 d0 d1 hr
      simp only [Act.put, List.setIfInBounds_toArray, List.set_cons_succ, List.set_cons_zero]
      refine planC_call rfl rfl 39 #[.agg #[.int .i64 m, .slice A n c], .slice A4 N c4] (by kernel_rfl) (hU4.mono ?_)
      rintro e w5 ⟨⟨l, r, A5, c5, hu, rfl, _⟩, hq5⟩
      refine ⟨_, rfl, ⟨carry hq5 d4, carry hq5 d5⟩, ?_⟩
      have HF := hid (rupB_is HOK.out (show UnR n L m (putL N (negZ Z)) l r from .inl ⟨HCN.out, HG.out, hu⟩))
      clear hu hU4
      simp only [Act.put, List.setIfInBounds_toArray, List.set_cons_succ, List.set_cons_zero]
      refine plan_takes ?_; simp only [pickOps, List.getElem?_cons_zero, List.getElem?_cons_succ]
      refine quiet_doC rfl (.tuple #[.slice A5 l.length c5, .bool r]) (fun W hW => by simp [execOp, go_sem]) ?_
      refine quiet_doC rfl (.slice A5 l.length c5) (fun W hW => by simp [execOp, go_sem]) ?_
      refine quiet_doC rfl (.bool r) (fun W hW => by simp [execOp, go_sem]) ?_
      refine quiet_doC rfl (.slice A5 l.length c5) (fun W hW => by simp [execOp, go_sem]) ?_
      refine wpQuiet_nil ?_
      simp only [Act.put, List.setIfInBounds_toArray, List.set_cons_succ, List.set_cons_zero]
      refine plan_fin ?_
      simp only [List.drop_succ_cons, List.drop_zero, Act.put, List.setIfInBounds_toArray, List.set_cons_succ, List.set_cons_zero]
      go_wp2
      go_ret
      exact ⟨ret_bool (HF.out.symm.trans HRES.out), btr q4 hq5⟩
end Go.Proofs.Ytjnngijilkdhbaa
