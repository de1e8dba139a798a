/- The program's CnfUnits. -/
import Derived.Test.YtjnngijilkdhbaaCuI
import Derived.Test.YtjnngijilkdhbaaCcC
import Derived.Test.YtjnngijilkdhbaaCcW
namespace Go.Proofs.Ytjnngijilkdhbaa
set_option linter.unusedVariables false
set_option linter.unusedSimpArgs false
open Go.RowKit
def putL (N : Nat) (V : Nat → Int) : List Int := (List.range N).map V
theorem putL_succ (k : Nat) (V : Nat → Int) : putL (k + 1) V = putL k V ++ [V k] := by unfold putL; rw [List.range_succ, List.map_append]; rfl
theorem putL_len (k : Nat) (V : Nat → Int) : (putL k V).length = k := by unfold putL; rw [List.length_map, List.length_range]
theorem goU_inv {m : Int} {T : List Int} {x : Int} (h : GoU m (T ++ [x])) : GoU m T ∧ ofC x m = true ∧ atU T x = 0 := by
  generalize hR : T ++ [x] = R at h
  cases h with
  | nil => simp at hR
  | push T' x' h h1 h0 =>
    have := List.append_inj' hR rfl
    obtain ⟨rfl, e⟩ := this
    obtain rfl : x = x' := by simpa using e
    exact ⟨h, h1, h0⟩
theorem goU_upto {m : Int} {V : Nat → Int} {k : Nat} : ∀ {N : Nat}, GoU m (putL N V) → k ≤ N → GoU m (putL k V)
  | 0, h, hk => by obtain rfl : k = 0 := by omega
                   exact h
  | N + 1, h, hk => by
    by_cases e : k = N + 1
    · subst e; exact h
    · rw [putL_succ] at h
      exact goU_upto (goU_inv h).1 (by omega)
theorem ab6_up {N : Nat} {Z : Nat → Int} {m : Int} (h : OkC N Z m) : ∀ k, k < N → ∀ j, j < k → ab6 (Z j) < ab6 (Z k)
  | 0, _, j, hj => absurd hj (by omega)
  | k + 1, hk, j, hj => by
    have h1 := (h.2.2 (k + 1) hk).1
    have e : pv6 Z (k + 1) = ab6 (Z k) := rfl
    by_cases e2 : j = k
    · subst e2; omega
    · have := ab6_up h k (by omega) j (by omega); omega
theorem ab6_ge {N : Nat} {Z : Nat → Int} {m : Int} (h : OkC N Z m) : ∀ k, k < N → (k : Int) + 1 ≤ ab6 (Z k)
  | 0, hk => by have h1 := (h.2.2 0 hk).1; have e : pv6 Z 0 = 0 := rfl; omega
  | k + 1, hk => by
    have h1 := (h.2.2 (k + 1) hk).1
    have e : pv6 Z (k + 1) = ab6 (Z k) := rfl
    have := ab6_ge h k (by omega)
    omega
theorem okC_facts {N : Nat} {Z : Nat → Int} {m : Int} (h : OkC N Z m) : N ≤ 60 ∧ InjC N Z ∧ ∀ x, MemC N Z x → ofC x m = true ∧ ofC x 60 = true := by
  refine ⟨?_, fun j k hj hk e => ?_, fun x hx => ?_⟩
  · by_cases e : N = 0
    · omega
    · have h1 := ab6_ge h (N - 1) (by omega)
      have h2 := (h.2.2 (N - 1) (by omega)).2
      have h3 := h.2.1
      omega
  · rcases Nat.lt_trichotomy j k with l | l | l
    · have := ab6_up h k hk j l; rw [e] at this; omega
    · exact l
    · have := ab6_up h j hj k l; rw [e] at this; omega
  · obtain ⟨k, hk, rfl⟩ := hx
    have h1 := ab6_ge h k hk
    have h2 := (h.2.2 k hk).2
    have h3 := ab6_le h.2.1 h2
    have h0 : Z k ≠ 0 := fun e => by rw [e] at h1; have : ab6 0 = 0 := rfl; omega
    exact ⟨ofC_iff.2 ⟨h0, h3.1, h3.2.1⟩, ofC_iff.2 ⟨h0, h3.2.2.1, h3.2.2.2⟩⟩
theorem cn_facts {n : Nat} {L : Lls} {m : Int} (h : cnB n L m = true) : n ≤ 400 ∧ 0 ≤ m ∧ m ≤ 60 ∧ LitL n L ∧ (∀ i, i < n → L.N i ≤ 60) ∧ ∀ i, i < n → InjC (L.N i) (L.Z i) := by
  obtain ⟨h0, h1, h2, h3⟩ := cnB_iff.1 h
  exact ⟨h2, h0, h1, fun i hi x hx => ((okC_facts (okC_iff.1 (h3 i hi))).2.2 x hx).2, fun i hi => (okC_facts (okC_iff.1 (h3 i hi))).1, fun i hi => (okC_facts (okC_iff.1 (h3 i hi))).2.1⟩
/-- what unit propagation answers -/
def UnR (n : Nat) (L : Lls) (m : Int) (T l : List Int) (r : Bool) : Prop :=
  (cnB n L m = true ∧ GoU m T ∧ Ur n L T l r) ∨ (¬ (cnB n L m = true ∧ GoU m T) ∧ l = [] ∧ r = false)
theorem UnR.det {n : Nat} {L : Lls} {m : Int} {T l l' : List Int} {r r' : Bool} (h : UnR n L m T l r) (h' : UnR n L m T l' r') : l = l' ∧ r = r' := by
  rcases h with ⟨a, b, c⟩ | ⟨a, b, c⟩
  · rcases h' with ⟨a', b', c'⟩ | ⟨a', _⟩
    · exact c.det c'
    · exact absurd ⟨a, b⟩ a'
  · rcases h' with ⟨a', b', c'⟩ | ⟨a', b', c'⟩
    · exact absurd ⟨a', b'⟩ a
    · exact ⟨b.trans b'.symm, c.trans c'.symm⟩
theorem UnR.len {n : Nat} {L : Lls} {m : Int} {T l : List Int} {r : Bool} (h : UnR n L m T l r) : l.length ≤ 60 := by
  rcases h with ⟨a, b, c⟩ | ⟨a, rfl, c⟩
  · obtain ⟨_, _, m1, hL, _⟩ := cn_facts a
    exact (c.good hL (b.mono m1)).len60
  · simp
/-- .. of the program, in memory of its own -/
def UnP (w : World) (n : Nat) (L : Lls) (m : Int) (T : List Int) (e : Ending) (w' : World) : Prop :=
  ∃ l r A c, UnR n L m T l r ∧ e = .returned (.tuple #[.slice A l.length c, .bool r]) ∧ OwnI w w' A l.length (fun k => l.getD k 0)
theorem UnP.no {w w' : World} {n : Nat} {L : Lls} {m : Int} {T : List Int} {e : Ending} (h : ¬ (cnB n L m = true ∧ GoU m T)) (he : e = .returned (.tuple #[.slice none 0 0, .bool false])) : UnP w n L m T e w' :=
  ⟨[], false, none, 0, .inr ⟨h, rfl, rfl⟩, he, .inl rfl⟩
set_option maxHeartbeats 8000000 in
set_option maxRecDepth 100000 in
theorem cnfunits_any (A : Option Addr) (n c : Nat) (L : Lls) (m : Int) (B : Option Addr) (N cB : Nat) (V : Nat → Int) (w : World) (hn : n ≤ 9223372036854775807) (hA : IntSS w A n L) (hN : N ≤ 9223372036854775807) (hB : Ints w B N V) :
    Calls Try.prog 25 #[.agg #[.int .i64 m, .slice A n c], .slice B N cB] w fun e w' => UnP w n L m (putL N V) e w' ∧ Below w.heap.size w w' := by
  have q0 := bal (Below.refl w.heap.size w) (.cells #[.int .i64 m, .slice A n c] 31)
  obtain ⟨c0, c1⟩ := pair_new w (.int .i64 m) (.slice A n c) 31
  have hK := fun W (h : Below w.heap.size w W) => cnfok_any A n c L m W hn (hA.below h)
  go_enter Try.func25, Try.ntmps25
  go_upto_region 1 with fail
  generalize w.alloc (.cells #[.int .i64 m, .slice A n c] 31) = w1 at *
  go_wp2_with fail
  refine (hK _ q0).mono ?_
  rintro e w2 ⟨rfl, hq⟩
  replace q0 := btr q0 hq
  replace c0 := carry hq c0
  replace c1 := carry hq c1
  clear hq hK w1
  cases hcn : cnB n L m
  · have HF := hid (show ¬ (cnB n L m = true ∧ GoU m (putL N V)) from fun h => by rw [hcn] at h; cases h.1)
    clear hcn
    go_wp2
    go_ret2
    exact ⟨UnP.no HF.out rfl, q0⟩
  · obtain ⟨n4, m0, m60, hL, hL6, hInj⟩ := cn_facts hcn
    have HCN := hid hcn
    clear hcn
    have hNw := newprop_any A n c L m w2 n4 (hA.below q0) hL (fun i hi => by have := hL6 i hi; omega) hInj
    have HL := hid hL; have HL6 := hid (show ∀ i, i < n → L.N i ≤ 61 from fun i hi => by have := hL6 i hi; omega)
    clear hL hL6 hInj
    go_wp2_with fail
    refine hNw.mono ?_
    rintro e w3 ⟨⟨b, k, s, rfl, hP, hkn, hkN, hI, hD, hS, hT⟩, hq⟩
    have q3 := btr q0 hq
    have d0 := carry hq c0
    have hlo2 : w.heap.size ≤ w2.heap.size := q0.size
    have hlo3 := hq.size
    have hbx : w.heap.size < w2.heap.size := cell_lt c0
    have H3 := hid (show PrM w2.heap.size b k s w3 ∧ InvB n L s.C s.Wl s.T ∧ InvD n L s.C s.due s.T 0 ∧ SetS s.S s.T ∧ s.T = putL 0 V ∧ GoU m (putL 0 V) from ⟨hP, hI, hD, hS, hT, .nil⟩)
    have HKN := hid hkN
    clear hNw hP hI hD hS hT hkN c0 c1 hq
    go_wp2
    go_loopw [18] (fun v wr => ∃ (j : Nat) (s1 : Ps), j ≤ N ∧ v = .int .i64 (j : Int) ∧ (PrM w2.heap.size b k s1 wr ∧ InvB n L s1.C s1.Wl s1.T ∧ InvD n L s1.C s1.due s1.T 0 ∧ SetS s1.S s1.T ∧ s1.T = putL j V ∧ GoU m (putL j V)) ∧ Below w.heap.size w wr ∧ w2.heap.size ≤ wr.heap.size ∧ wr.cell? ⟨w.heap.size, 0, none⟩ = some (.int .i64 m)) (fun v _ => N - (intOf v).toNat)
    case atStart => exact ⟨0, s, Nat.zero_le _, rfl, H3.out, q3, hlo3, d0⟩
    case round =>
      clear H3 q3 hlo3 d0
      obtain ⟨j, s1, hj, rfl, hSt, hb, hlo, d0⟩ := hrel
      by_cases hlt : j < N
      · rcases hB with h0 | ⟨g, off, rfl, hg, hcB⟩
        · omega
        have x0 := carry hb (hcB j hlt)
        have HB := hid (show ∀ k, k < N → w.cell? ⟨g, off + k, none⟩ = some (.int .i64 (V k)) from hcB)
        clear hcB
        have hOf := fun W => of_lit (V j) m W ⟨by omega, by omega⟩
        cases ho : ofC (V j) m
        · rw [ho] at hOf
          have HF := hid (show ¬ (cnB n L m = true ∧ GoU m (putL N V)) from fun h => by
            have h1 := goU_upto h.2 (k := j + 1) (by omega)
            rw [putL_succ] at h1
            rw [(goU_inv h1).2.1] at ho
            cases ho)
          clear ho hSt
          go_wp2_with (go_at_call 41; refine (hOf _).mono ?_; rintro e w4 ⟨rfl, rfl⟩)
          go_ret2
          exact ⟨UnP.no HF.out rfl, hb⟩
        · rw [ho] at hOf
          have hlit : ofC (V j) 60 = true := by have := ofC_iff.1 ho; exact ofC_iff.2 ⟨this.1, by omega, by omega⟩
          obtain ⟨v, e1, e2, e3, e4, e5, _⟩ := lit_rng hlit
          have hsc := hSt.1.cs (v := v) (by omega)
          have hFr := freeU_any b 123 v (V j) (s1.S v) wr hsc ⟨e4, e5⟩ e1 e3
          have hAt := hSt.2.2.2.1.at hlit
          rw [e2] at hAt
          have HO := hid ho
          have HSt := hid hSt
          cases hf : (s1.S v == 0)
          · rw [hf] at hFr
            have hf' : s1.S v ≠ 0 := by simpa using hf
            have HF := hid (show ¬ (cnB n L m = true ∧ GoU m (putL N V)) from fun h => by
              have h1 := goU_upto h.2 (k := j + 1) (by omega)
              rw [putL_succ] at h1
              have h2 := (goU_inv h1).2.2
              rw [← hSt.2.2.2.2.1] at h2
              exact hf' (hAt.2.2.2 h2))
            clear hf hf' ho hSt hAt
            go_wp2_with (first | (go_at_call 41; refine (hOf _).mono ?_; rintro e w4 ⟨rfl, rfl⟩) | (go_at_call 42; refine hFr.mono ?_; rintro e w4 ⟨rfl, hq4⟩))
            go_ret2
            exact ⟨UnP.no HF.out rfl, btr hb hq4⟩
          · rw [hf] at hFr
            have h0 : atU s1.T (V j) = 0 := hAt.2.2.1 (by simpa using hf)
            have hlen : s1.T.length ≤ 61 := by
              have h1 := (hSt.2.2.2.2.2.mono m60).len60
              rw [hSt.2.2.2.2.1]
              omega
            have hD' : InvD k.n L s1.C s1.due s1.T (V j) := fun i hi => dd_mono (hSt.2.2.1 i (by omega)) fun h0 => (ofC_iff.1 (mem_lit HL.out hSt.2.1 (by omega) h0)).1
            have hAs := fun W (h : Below wr.heap.size wr W) => assign_any w2.heap.size b k s1 L (V j) W (hSt.1.below h) HKN.out (by omega) (by rw [hkn]; exact HL.out) (by rw [hkn]; exact HL6.out) (by rw [hkn]; exact hSt.2.1) hD' hSt.2.2.2.1 hlit h0 hlen (Nat.le_trans hlo h.size)
            have HG := hid (show GoU m (putL (j + 1) V) from by rw [putL_succ]; exact .push _ _ hSt.2.2.2.2.2 ho (by rw [← hSt.2.2.2.2.1]; exact h0))
            have HT := hid hSt.2.2.2.2.1
            clear hf ho hSt hAt h0 hD' hsc HSt
            go_wp2_with (first | (go_at_call 41; refine (hOf _).mono ?_; rintro e w4 ⟨rfl, rfl⟩) | (go_at_call 42; refine hFr.mono ?_; rintro e w4 ⟨rfl, hq4⟩) | (go_at_call 43; refine (hAs _ (by assumption)).mono ?_; rintro e w5 ⟨rfl, ⟨s5, hP5, hT5, hS5, hB5, hD5⟩, hq5⟩))
            go_roundw
            case rel =>
              have d4 := carry hq4 d0
              have q4 := btr hb hq4
              refine ⟨j + 1, s5, by omega, by go_num, ⟨hP5, by rw [← hkn]; exact hB5, by rw [← hkn]; exact hD5, hS5, by rw [hT5, HT.out, putL_succ], HG.out⟩, q4.trans (hq5.mono hlo2), Nat.le_trans hlo (Nat.le_trans hq4.size hq5.size), (hq5.cell (p := ⟨w.heap.size, 0, none⟩) hbx).trans d4⟩
            case measure => simp [intOf]; omega
      · have hke : j = N := by omega
        subst hke
        obtain ⟨hP, hI, hD, hS, hT, hG⟩ := hSt
        have hRn := prrun_any w2.heap.size b k s1 L wr ⟨hP, by rw [hkn]; exact hI, by rw [hkn]; exact hD, hS, by rw [hT]; exact hG.mono m60, fun _ _ h => h⟩ HKN.out (by omega) (by rw [hkn]; exact HL.out) (by rw [hkn]; exact HL6.out) hlo
        clear hP hI hD hS
        go_wp2_with fail
        refine hRn.mono ?_
        rintro e w4 ⟨⟨s4, r, rfl, hP4, hU⟩, hq4⟩
        have q4 := hb.trans (hq4.mono hlo2)
        have c184 := hP4.c184
        obtain ⟨A', c', e4, hO⟩ := own_intsC (W := w) hlo2 hP4.tr
        rw [e4] at c184
        have HU := hid hU; have HT := hid hT; have HG := hid hG
        clear hRn hU hT hG hP4 e4
        go_wp2
        go_ret2
        refine ⟨⟨s4.T, r, A', c', .inl ⟨HCN.out, HG.out, ?_⟩, rfl, hO⟩, q4⟩
        have := HU.out
        rw [hkn, HT.out] at this
        exact this
end Go.Proofs.Ytjnngijilkdhbaa
