/- Several texts in one: FvL, FvW. -/
import Derived.Test.YtplocljoanaoeaaFvN
namespace Go.Proofs.Ytplocljoanaoeaa
set_option linter.unusedVariables false
set_option linter.unusedSimpArgs false
open Go.RowKit
def hoF (r : FRw) (N D : Nat → Int) : Prop := hoB r.Z r.B r.S N D
theorem bothF_zero {a b : FRw} {v : Nat} (h1 : 0 < a.Z v) (h2 : b.Z v < 0) : (bothF a b v).Z v = 0 := by
  show a.Z v * mF a b v + b.Z v * nF a b v = 0
  obtain ⟨x, hx⟩ : ((Int.gcd (a.Z v) (-(b.Z v)) : Nat) : Int) ∣ a.Z v := Int.gcd_dvd_left _ _
  obtain ⟨y, hy⟩ : ((Int.gcd (a.Z v) (-(b.Z v)) : Nat) : Int) ∣ -(b.Z v) := Int.gcd_dvd_right _ _
  have hg : gcF a b v ≠ 0 := by
    intro e
    unfold gcF at e
    rw [e] at hx
    omega
  have hm : mF a b v = y := by
    unfold mF
    rw [show -(b.Z v) = gcF a b v * y from hy]
    exact Int.mul_ediv_cancel_left _ hg
  have hn : nF a b v = x := by
    unfold nF
    conv => lhs; rw [show a.Z v = gcF a b v * x from hx]
    exact Int.mul_ediv_cancel_left _ hg
  rw [hm, hn]
  have ha : a.Z v = gcF a b v * x := hx
  have hb : b.Z v = -(gcF a b v * y) := by
    have : -(b.Z v) = gcF a b v * y := hy
    omega
  rw [ha, hb]
  grind
theorem mn_nonneg {a b : FRw} {v : Nat} (h1 : 0 < a.Z v) (h2 : b.Z v < 0) : 0 ≤ mF a b v ∧ 0 ≤ nF a b v := by
  have hg : 0 ≤ gcF a b v := by unfold gcF; omega
  exact ⟨Int.ediv_nonneg (by omega) hg, Int.ediv_nonneg (by omega) hg⟩
theorem bothF_ho {a b : FRw} {v : Nat} {N D : Nat → Int} (h1 : 0 < a.Z v) (h2 : b.Z v < 0) (ha : hoF a N D) (hb : hoF b N D) : hoF (bothF a b v) N D :=
  ho_sum (mn_nonneg h1 h2).1 (mn_nonneg h1 h2).2 ha hb
theorem drop_mem {v : Nat} {l : List FRw} {r : FRw} (h : r ∈ dropL v l) : r.Z v = 0 ∧ ∀ N D, (∀ x ∈ l, hoF x N D) → hoF r N D := by
  unfold dropL at h
  rcases List.mem_append.1 h with h | h
  · unfold restL at h
    rw [List.mem_filter] at h
    exact ⟨by simpa using h.2, fun N D hx => hx r h.1⟩
  · unfold bothP at h
    obtain ⟨p, hp, rfl⟩ := List.mem_map.1 h
    unfold pairsL at hp
    obtain ⟨u, hu, hp2⟩ := List.mem_flatMap.1 hp
    obtain ⟨q, hq, rfl⟩ := List.mem_map.1 hp2
    unfold upL at hu
    unfold loL at hq
    rw [List.mem_filter] at hu hq
    have h1 : 0 < u.Z v := by simpa using hu.2
    have h2 : q.Z v < 0 := by simpa using hq.2
    exact ⟨bothF_zero h1 h2, fun N D hx => bothF_ho h1 h2 (hx u hu.1) (hx q hq.1)⟩
theorem given_ho {n : Nat} {L : Lst} {N D : Nat → Int} (h : ∀ j, j < n → hoB (L.Z j) (L.B j) (L.S j) N D) : ∀ x ∈ givenL n L, hoF x N D := fun x hx => by
  unfold givenL at hx
  obtain ⟨k, hk, rfl⟩ := List.mem_map.1 hx
  exact h k (List.mem_range.1 hk)
/-- each row that is left -/
theorem less_row {n : Nat} {L : Lst} {v : Int} {l : List FRw} (h : lessR n L v = (l, true)) : 0 ≤ v ∧ v < 4 ∧ ∀ k, k < l.length → ((lstF l).Z k v.toNat = 0) ∧ ∀ N D, (∀ j, j < n → hoB (L.Z j) (L.B j) (L.S j) N D) → hoB ((lstF l).Z k) ((lstF l).B k) ((lstF l).S k) N D := by
  unfold lessR at h
  split at h
  · rename_i e
    injection h with h1 _
    subst h1
    refine ⟨e.2.1, e.2.2.1, fun k hk => ?_⟩
    have hm : (dropL v.toNat (givenL n L)).getD k frw0 ∈ dropL v.toNat (givenL n L) := by
      rw [List.getD_eq_getElem?_getD, List.getElem?_eq_getElem hk]; exact List.getElem_mem hk
    obtain ⟨h2, h3⟩ := drop_mem hm
    exact ⟨h2, fun N D hx => h3 N D (given_ho hx)⟩
  · injection h with _ h2
    cases h2
theorem less_len {n : Nat} {L : Lst} {v : Int} {l : List FRw} {ok : Bool} (h : lessR n L v = (l, ok)) : l.length ≤ 200 := by
  unfold lessR at h
  split at h
  · rename_i e
    injection h with h1 _
    subst h1
    have h2 := e.2.2.2
    unfold dropOk at h2
    rw [Bool.and_eq_true, decide_eq_true_iff] at h2
    unfold dropL bothP
    rw [List.length_append, List.length_map, pairs_len]
    exact h2.1
  · injection h with h1 _
    subst h1
    simp
end Go.Proofs.Ytplocljoanaoeaa

namespace Go.Proofs.Ytplocljoanaoeaa
set_option linter.unusedVariables false
set_option linter.unusedSimpArgs false
open Go.RowKit
def zsL8 : List Int := [0, 1, 2, 3, 0, 1, -1, 4]
theorem row8L (w : World) (t : TypeId) : ∀ k, k < zsL8.length → (w.alloc (.cells #[.int .i64 0, .int .i64 1, .int .i64 2, .int .i64 3, .int .i64 0, .int .i64 1, .int .i64 (-1), .int .i64 4] t)).cell? ⟨w.heap.size, k, none⟩ = some (.int .i64 (zsL8.getD k 0)) := by
  intro k hk
  simp only [zsL8, List.length_cons, List.length_nil] at hk
  have hk' : k = 0 ∨ k = 1 ∨ k = 2 ∨ k = 3 ∨ k = 4 ∨ k = 5 ∨ k = 6 ∨ k = 7 := by omega
  rcases hk' with rfl | rfl | rfl | rfl | rfl | rfl | rfl | rfl <;> simp [go_sem, zsL8]
/-- a drawn list, and a place -/
def DrwL (w : World) (e : Ending) (w' : World) : Prop :=
  ∃ a n c L v, e = .returned (.tuple #[.slice a n c, .int .i64 v]) ∧ n ≤ 30 ∧ Lins w' a n L ∧ (∀ k, k < n → L.N k ≤ 5) ∧ Below w.heap.size w w'
set_option maxHeartbeats 4000000 in
theorem drawfarless_any (B : Nat) (w : World) (a : Option Addr) (len cap : Nat) (hB : B ≤ w.heap.size) (hby : Bytes B w a len) (hlc : len ≤ cap) (hc : cap ≤ 9223372036854775807) :
    Calls Try.prog 22 #[.slice a len cap] w (DrwL w) := by
  have hO := open_any B w a len cap hB hby hlc hc
  go_enter Try.func22, Try.ntmps22
  go_wp2_with fail
  refine hO.mono ?_
  rintro e w1 ⟨g, rfl, hb, hR, hg⟩
  clear hO
  go_wp2_with fail
  refine (l3some_any B w1 g 0 hR (by omega)).mono ?_
  rintro e w2 ⟨v, ds, q, rfl, hd, hn, hg2, hR2, hq2⟩
  obtain ⟨a3, c3, rfl⟩ := hd.sl
  have hsm := hd.small
  have hlt := hR.lt
  have hz := hb.size
  go_wp2_with fail
  refine (num_any B _ g q w2.heap.size 8 8 zsL8 (hR2.alloc _) (by omega) rfl (by decide) (by decide) (by have := hR2.lt; omega) (row8L w2 3)).mono ?_
  rintro e w3 ⟨y, _, rfl, hg3, _⟩
  have hg4 := grow_trans (grow_alloc (grow_refl w2 (some g)) _) hg3
  have hd3 := hd.far hg4 hlt
  go_wp2
  go_ret2
  refine ⟨a3, ds.length, c3, lstD ds, y, rfl, hn, hd3.lins, hsm, hb.grown (grow_trans hg2 hg4) hb.size (fun r hr => ?_)⟩
  have := Option.some.inj hr
  omega
theorem nz_false : ((0 : Int) != 0) = false := rfl
set_option maxRecDepth 100000 in
set_option maxHeartbeats 16000000 in
theorem walk_FarLess (a0 : Option Addr) (len0 cap0 : Nat) (w : World) (hby : Bytes w.heap.size w a0 len0) (hlc : len0 ≤ cap0) (hc0 : cap0 ≤ 9223372036854775807) :
    Calls Try.prog 5 #[.slice a0 len0 cap0] w fun e w' => e = .returned (.bool true) ∧ Below w.heap.size w w' := by
  by_cases hbig : 1048576 < len0
  · go_enter Try.func5, Try.ntmps5
    go_wp2
    go_ret
    exact ⟨rfl, Below.refl _ _⟩
  go_enter Try.func5, Try.ntmps5
  go_wp2_with fail
  refine (drawfarless_any w.heap.size w a0 len0 cap0 (Nat.le_refl _) hby hlc hc0).mono ?_
  rintro e w1 ⟨A, n, c, L, v, rfl, hn, hA, hN0, hq⟩
  have hN : ∀ k, k < n → L.N k ≤ 1048576 := fun k hk => by have := hN0 k hk; omega
  have q0 := hq
  clear hq hN0 hby hlc hc0 hbig
  have hI := fun W h => farless_any A n c L v W (by omega) h hN
  have hP := fun W h => sfarless_any A n c L v W (by omega) h hN
  have hR := fun W h => farrun_any A n c L W (by omega) h hN
  rcases hL : lessR n L v with ⟨l, ok⟩
  have hrow := fun (e : ok = true) => @less_row n L v l (by rw [hL, e])
  have hlen := less_len hL
  rw [hL] at hI hP
  unfold LessP at hI
  unfold SLessP at hP
  simp only at hI hP
  have dk : (ok != ok) = false := by simp
  have dk2 : (ok == ok) = true := by simp
  have dl : ((l.length : Int) != (l.length : Int)) = false := by simp
  have dl2 : ((l.length : Int) == (l.length : Int)) = true := by simp
  clear hL
  go_wp2_with fail
  refine (hI _ hA).mono ?_
  rintro e w3 ⟨A1, m1, c1, rfl, hm1, hq, hX⟩
  have hX' : Lins w3 A1 l.length (lstF l) := by
    rw [← hm1]
    rcases hX with h0 | h
    · exact .inl h0
    · exact h.lins (fun k hk => by show (4 : Nat) ≤ _; omega)
  subst hm1
  replace hA := hA.below hq
  replace q0 := btr q0 hq
  clear hq hI hX
  go_wp2_with fail
  refine (hP _ hA).mono ?_
  rintro e w4 ⟨A2, m2, c2, rfl, hm2, hq, hY⟩
  subst hm2
  have hY' := hY.lins
  replace hA := hA.below hq
  replace hX' := hX'.below hq
  replace q0 := btr q0 hq
  clear hq hP hY
  have HROW := hid hrow
  clear hrow
  generalize hm : l.length = m at *
  have HM := hid hm
  clear hm
  cases ok
  · go_wp2
    go_ret
    exact ⟨rfl, q0⟩
  have HR2 := hid (HROW.out rfl)
  obtain ⟨v0, v4, _⟩ := HR2.out
  obtain ⟨vn, rfl⟩ := Int.eq_ofNat_of_zero_le v0
  clear HROW v0
  have hall := fun N D (e : runE n L = .yes N D) => allB_ho (runE_yA e)
  have hR' := hR _ hA
  clear hR
  unfold RunP at hR'
  have hcode := @code_zero n L
  generalize hRE : runE n L = R at *
  clear hRE
  go_wp2_with fail
  refine hR'.mono ?_
  rintro e w5 ⟨A3, c3, B3, d3, rfl, hq, hV, _⟩
  replace hX' := hX'.below hq
  replace hY' := hY'.below hq
  replace q0 := btr q0 hq
  have hRat : R.code = 0 → ∃ N D, R.m = 4 ∧ Rats w5 A3 4 N D ∧ ∀ j, j < n → hoB (L.Z j) (L.B j) (L.S j) N D := fun h0 => by
    obtain ⟨N, D, e⟩ := hcode h0
    have h1 := (hall N D e).1
    subst e
    exact ⟨N, D, rfl, hV.rats, h1⟩
  clear hq hR' hV hall hcode hA
  have HRat := hid hRat
  clear hRat
  go_wp2
  go_loopw [12] (fun i wr => ∃ k : Nat, k ≤ m ∧ i = .int .i64 k ∧ Below w5.heap.size w5 wr) (fun i _ => m - (intOf i).toNat)
  case atStart => exact ⟨0, Nat.zero_le _, rfl, Below.refl _ _⟩
  case round =>
    obtain ⟨k, hk, rfl, hb⟩ := hrel
    by_cases hlt : k < m
    · rcases hX' with h0 | ⟨g, off, rfl, hg, hcX⟩
      · omega
      rcases hY' with h0 | ⟨g2, off2, rfl, hg2, hcY⟩
      · omega
      obtain ⟨a, ca, a0, a1, a2, hNa, hIa⟩ := hcX k hlt
      obtain ⟨b, cb, b0, b1, b2, _, hIb⟩ := hcY k hlt
      replace hIa := hIa.below hb
      replace hIb := hIb.below hb
      have gg : g < wr.heap.size := Nat.lt_of_lt_of_le hg hb.size
      have gg2 : g2 < wr.heap.size := Nat.lt_of_lt_of_le hg2 hb.size
      replace a0 := carry hb a0
      replace a1 := carry hb a1
      replace a2 := carry hb a2
      replace b0 := carry hb b0
      replace b1 := carry hb b1
      replace b2 := carry hb b2
      clear hcX hcY
      obtain ⟨hz, hh⟩ := HR2.out.2.2 k hlt
      have hE := fun X : Gro wr => linsame_selfN (c := ca) (d := cb) (b := (lstF l).B k) (s := (lstF l).S k) (w := gro wr X) (show 4 ≤ _ by omega) (hIa.below X.h) (hIb.below X.h)
      have hIa2 := hIa
      rcases hIa with h0 | ⟨ga, offa, rfl, hga, hca⟩
      · cases h0
      have z0 := hca vn (show vn < 4 by omega)
      have hz' : (lstF l).Z k vn = 0 := by simpa using hz
      rw [hz'] at z0
      clear hca hIb hz hz'
      have H4 : (lstF l).N k = 4 := rfl
      simp only [H4] at *
      generalize (lstF l).B k = bk at *
      generalize (lstF l).S k = sk at *
      generalize (lstF l).Z k = zk at *
      have gc := @gro_cell wr
      go_upto_region 12 with fail
      refine wp_region_grow_lit (by kernel_rfl) (by kernel_rfl) ?_
      repeat (go_big_quiet_step ((go_at_call 20; exact grow_call _ (hE _))))
      refine wpQuiet_nil ?_
      rintro _ ⟨X, rfl⟩
      clear gc
      obtain ⟨W, hW⟩ : ∃ W, W = gro wr X := ⟨_, rfl⟩
      have hXW : Below wr.heap.size wr W := by rw [hW]; exact X.h
      rw [← hW]
      have q2 := btr hb hXW
      replace a0 := carry hXW a0
      replace a1 := carry hXW a1
      replace a2 := carry hXW a2
      have hIx := hIa2.below hXW
      clear b0 b1 b2 z0 hE hIa2 gg2 hW hXW
      by_cases c0 : R.code = 0
      · obtain ⟨N, D, hm4, hVr, hho⟩ := HRat.out c0
        have hVr2 : Rats w5 A3 R.m N D := by rw [hm4]; exact hVr
        have hh1 := hh N D hho
        have hm4' : R.m ≤ 9223372036854775806 := by omega
        have d0 : (R.code == 0) = true := by simpa using c0
        rcases hat : atB 4 zk bk sk R.m N D with ⟨p, q⟩
        have hT := linat_atN (c := ca) (d := c3) (by omega) hIx hm4' (hVr2.below q2) hat
        have hpq := fun (e : q = true) => (ho_iff (p := p) (by rw [hat, e])).2 hh1
        clear c0 hho hVr hm4 hVr2 hh1 hat hh hIx hm4'
        cases q
        · go_wp2_with (go_at_call 21; refine hT.mono ?_; rintro e w6 ⟨rfl, hq6⟩)
          go_roundw
          case rel => exact ⟨k + 1, by omega, by go_num, btr q2 hq6⟩
          case measure => simp [intOf]; omega
        · have hp := hpq rfl
          subst hp
          go_wp2_with (go_at_call 21; refine hT.mono ?_; rintro e w6 ⟨rfl, hq6⟩)
          go_roundw
          case rel => exact ⟨k + 1, by omega, by go_num, btr q2 hq6⟩
          case measure => simp [intOf]; omega
      · have d0 : (R.code == 0) = false := by simpa using c0
        clear c0 hh hIx
        go_wp2
        go_roundw
        case rel => exact ⟨k + 1, by omega, by go_num, q2⟩
        case measure => simp [intOf]; omega
    · have hke : k = m := by omega
      subst hke
      go_wp2
      go_ret
      exact ⟨rfl, btr q0 hb⟩
end Go.Proofs.Ytplocljoanaoeaa
