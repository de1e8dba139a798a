/- Several texts in one: FlA, FlB, FlC, FlD, FlE. -/
import Derived.Test.YtplocljoanaoeaaFarE
import Derived.Test.YtplocljoanaoeaaLinSA
import Derived.Test.YtplocljoanaoeaaFarG
import Derived.Test.YtplocljoanaoeaaLinSE
import Derived.Maps.AppendAt
import Derived.Test.YtplocljoanaoeaaFarD
namespace Go.Proofs.Ytplocljoanaoeaa
set_option linter.unusedVariables false
set_option linter.unusedSimpArgs false
open Go.RowKit
/-- a row: coefficients, bound, strict, how many times each of those given is taken -/
structure FRw where
  Z : Nat → Int
  B : Int
  S : Bool
  U : Nat → Int
/-- in range; the uses too, and none past the n-th -/
def FRw.ok (n : Nat) (r : FRw) : Prop := okL 4 r.Z r.B = true ∧ (∀ i, 0 ≤ r.U i ∧ r.U i ≤ 1000000) ∧ ∀ i, n ≤ i → r.U i = 0
def gcF (a b : FRw) (v : Nat) : Int := ((Int.gcd (a.Z v) (-(b.Z v)) : Nat) : Int)
def mF (a b : FRw) (v : Nat) : Int := -(b.Z v) / gcF a b v
def nF (a b : FRw) (v : Nat) : Int := a.Z v / gcF a b v
def bothF (a b : FRw) (v : Nat) : FRw := ⟨addZ a.Z (mF a b v) b.Z (nF a b v), a.B * mF a b v + b.B * nF a b v, strB a.S (mF a b v) b.S (nF a b v), fun i => mF a b v * a.U i + nF a b v * b.U i⟩
def leU (x : Int) : Bool := decide (x ≤ 1000000)
def okU (n : Nat) (U : Nat → Int) : Bool := decide (∀ i, i < n → leU (U i) = true)
theorem okU_iff {n : Nat} {U : Nat → Int} : okU n U = true ↔ ∀ i, i < n → U i ≤ 1000000 := by
  unfold okU leU
  simp only [decide_eq_true_iff]
def okF (a b : FRw) (v : Nat) : Bool := okL 4 (bothF a b v).Z (bothF a b v).B && okU 20 (bothF a b v).U
theorem div_pos_le {x g : Int} (hg : 1 ≤ g) (hx : 0 < x) (hd : g ∣ x) : 1 ≤ x / g ∧ x / g ≤ x := by
  obtain ⟨k, rfl⟩ := hd
  have hk : 0 < k := by
    rcases Int.lt_trichotomy k 0 with h | h | h
    · have := Int.mul_neg_of_pos_of_neg (show 0 < g by omega) h; omega
    · subst h; simp at hx
    · exact h
  rw [Int.mul_ediv_cancel_left _ (by omega)]
  refine ⟨by omega, ?_⟩
  have := Int.mul_le_mul_of_nonneg_right hg (show 0 ≤ k by omega)
  omega
theorem mF_bd {a b : FRw} {v : Nat} (h1 : 0 < a.Z v) (h2 : a.Z v ≤ 1000000) (h3 : b.Z v < 0) (h4 : -1000000 ≤ b.Z v) :
    1 ≤ gcF a b v ∧ gcF a b v ≤ 1000000 ∧ (1 ≤ mF a b v ∧ mF a b v ≤ 1000000) ∧ (1 ≤ nF a b v ∧ nF a b v ≤ 1000000) := by
  have hg : 1 ≤ gcF a b v := by
    unfold gcF
    have := gcd_pos (n := a.Z v) (d := -(b.Z v)) (by omega)
    omega
  have d1 : gcF a b v ∣ a.Z v := by unfold gcF; exact Int.gcd_dvd_left _ _
  have d2 : gcF a b v ∣ -(b.Z v) := by unfold gcF; exact Int.gcd_dvd_right _ _
  have hm := div_pos_le hg (show 0 < -(b.Z v) by omega) d2
  have hn := div_pos_le hg h1 d1
  have hle : gcF a b v ≤ a.Z v := Int.le_of_dvd h1 d1
  unfold mF nF
  omega
theorem okF_iff {a b : FRw} {v : Nat} : okF a b v = true ↔ okL 4 (bothF a b v).Z (bothF a b v).B = true ∧ ∀ i, i < 20 → (bothF a b v).U i ≤ 1000000 := by
  unfold okF
  rw [Bool.and_eq_true, okU_iff]
theorem FRw.ok.z {n v : Nat} {r : FRw} (h : r.ok n) (hv : v < 4) : -1000000 ≤ r.Z v ∧ r.Z v ≤ 1000000 := inC_bd ((okL_iff.1 h.1).2.1 v hv)
theorem bothF_ok {n v : Nat} {a b : FRw} (hn : n ≤ 20) (hv : v < 4) (ha : a.ok n) (hb : b.ok n) (h1 : 0 < a.Z v) (h3 : b.Z v < 0) (h : okF a b v = true) : (bothF a b v).ok n := by
  obtain ⟨k1, k2⟩ := okF_iff.1 h
  obtain ⟨_, _, ⟨m1, m2⟩, ⟨n1, n2⟩⟩ := mF_bd h1 (ha.z hv).2 h3 (hb.z hv).1
  have hz : ∀ i, n ≤ i → (bothF a b v).U i = 0 := fun i hi => by
    show mF a b v * a.U i + nF a b v * b.U i = 0
    rw [ha.2.2 i hi, hb.2.2 i hi]; simp
  refine ⟨k1, fun i => ?_, hz⟩
  by_cases hi : i < 20
  · refine ⟨?_, k2 i hi⟩
    have p1 := Int.mul_nonneg (show 0 ≤ mF a b v by omega) (ha.2.1 i).1
    have p2 := Int.mul_nonneg (show 0 ≤ nF a b v by omega) (hb.2.1 i).1
    show 0 ≤ mF a b v * a.U i + nF a b v * b.U i
    omega
  · rw [hz i (by omega)]; omega
def restL (v : Nat) (l : List FRw) : List FRw := l.filter (fun r => decide (r.Z v = 0))
def upL (v : Nat) (l : List FRw) : List FRw := l.filter (fun r => decide (0 < r.Z v))
def loL (v : Nat) (l : List FRw) : List FRw := l.filter (fun r => decide (r.Z v < 0))
def pairsL (us ls : List FRw) : List (FRw × FRw) := us.flatMap (fun u => ls.map (fun w => (u, w)))
def okP (v : Nat) (ps : List (FRw × FRw)) : Bool := ps.all (fun p => okF p.1 p.2 v)
def bothP (v : Nat) (ps : List (FRw × FRw)) : List FRw := ps.map (fun p => bothF p.1 p.2 v)
def dropOk (v : Nat) (l : List FRw) : Bool := decide ((restL v l).length + (upL v l).length * (loL v l).length ≤ 200) && okP v (pairsL (upL v l) (loL v l))
/-- what is left without the v-th number -/
def dropL (v : Nat) (l : List FRw) : List FRw := restL v l ++ bothP v (pairsL (upL v l) (loL v l))
theorem pairs_len (us ls : List FRw) : (pairsL us ls).length = us.length * ls.length := by
  induction us with
  | nil => simp [pairsL]
  | cons u us ih =>
    have : pairsL (u :: us) ls = ls.map (fun w => (u, w)) ++ pairsL us ls := rfl
    rw [this, List.length_append, ih, List.length_map, List.length_cons, Nat.succ_mul]; omega
theorem pairs_app (us us' ls : List FRw) : pairsL (us ++ us') ls = pairsL us ls ++ pairsL us' ls := by simp [pairsL]
theorem pairs_one (u : FRw) (ls : List FRw) : pairsL [u] ls = ls.map (fun w => (u, w)) := by simp [pairsL]
theorem okP_app (v : Nat) (ps qs : List (FRw × FRw)) : okP v (ps ++ qs) = (okP v ps && okP v qs) := by simp [okP]
theorem bothP_app (v : Nat) (ps qs : List (FRw × FRw)) : bothP v (ps ++ qs) = bothP v ps ++ bothP v qs := by simp [bothP]
theorem bothP_len (v : Nat) (ps : List (FRw × FRw)) : (bothP v ps).length = ps.length := by simp [bothP]
theorem drop_len (v : Nat) (l : List FRw) : (dropL v l).length = (restL v l).length + (upL v l).length * (loL v l).length := by
  unfold dropL; rw [List.length_append, bothP_len, pairs_len]
theorem mem_pairs {us ls : List FRw} {p : FRw × FRw} (h : p ∈ pairsL us ls) : p.1 ∈ us ∧ p.2 ∈ ls := by
  simp only [pairsL, List.mem_flatMap, List.mem_map] at h
  obtain ⟨u, hu, w, hw, rfl⟩ := h
  exact ⟨hu, hw⟩
theorem drop_ok {n v : Nat} {l : List FRw} (hn : n ≤ 20) (hv : v < 4) (hl : ∀ r ∈ l, r.ok n) (h : dropOk v l = true) : ∀ r ∈ dropL v l, r.ok n := by
  intro r hr
  unfold dropL at hr
  rcases List.mem_append.1 hr with hr | hr
  · exact hl r (List.mem_filter.1 hr).1
  · obtain ⟨p, hp, rfl⟩ := List.mem_map.1 hr
    obtain ⟨h1, h2⟩ := mem_pairs hp
    obtain ⟨u1, u2⟩ := List.mem_filter.1 h1
    obtain ⟨l1, l2⟩ := List.mem_filter.1 h2
    unfold dropOk okP at h
    rw [Bool.and_eq_true] at h
    exact bothF_ok hn hv (hl _ u1) (hl _ l1) (by simpa using u2) (by simpa using l2) (List.all_eq_true.1 h.2 p hp)
/-- the rows of those given -/
def givenL (n : Nat) (L : Lst) : List FRw := (List.range n).map (fun k => ⟨L.Z k, L.B k, L.S k, fun i => if i = k then 1 else 0⟩)
theorem given_len (n : Nat) (L : Lst) : (givenL n L).length = n := by simp [givenL]
theorem given_get {n k : Nat} {L : Lst} {r : FRw} (h : (givenL n L)[k]? = some r) : k < n ∧ r = ⟨L.Z k, L.B k, L.S k, fun i => if i = k then 1 else 0⟩ := by
  unfold givenL at h
  rw [List.getElem?_map, Option.map_eq_some_iff] at h
  obtain ⟨j, hj, rfl⟩ := h
  have hk : k < n := by
    have := (List.getElem?_eq_some_iff.1 hj).1
    simpa using this
  rw [List.getElem?_range hk] at hj
  injection hj with hj
  subst hj
  exact ⟨hk, rfl⟩
theorem given_ok {n : Nat} {L : Lst} (h : okS n L = true) : ∀ r ∈ givenL n L, r.ok n := by
  intro r hr
  obtain ⟨k, hk⟩ := List.getElem?_of_mem hr
  obtain ⟨hn, rfl⟩ := given_get hk
  have h1 := (okS_iff.1 h).2 k hn
  have h4 := (okL_iff.1 h1).1
  rw [h4] at h1
  refine ⟨h1, fun i => ?_, fun i hi => ?_⟩
  · by_cases e : i = k <;> simp [e]
  · rw [show (FRw.U ⟨L.Z k, L.B k, L.S k, fun i => if i = k then 1 else 0⟩ i) = if i = k then 1 else 0 from rfl, if_neg (by omega)]
/-- what FarLess answers -/
def lessR (n : Nat) (L : Lst) (v : Int) : List FRw × Bool :=
  if okS n L = true ∧ 0 ≤ v ∧ v < 4 ∧ dropOk v.toNat (givenL n L) = true then (dropL v.toNat (givenL n L), true) else ([], false)
def frw0 : FRw := ⟨fun _ => 0, 0, false, fun _ => 0⟩
/-- rows as a list of constraints -/
def lstF (l : List FRw) : Lst := ⟨fun _ => 4, fun k => (l.getD k frw0).Z, fun k => (l.getD k frw0).B, fun k => (l.getD k frw0).S⟩
theorem filter_take {α : Type} (p : α → Bool) (l : List α) (k : Nat) (x : α) (h : l[k]? = some x) : (l.take (k + 1)).filter p = (l.take k).filter p ++ (if p x = true then [x] else []) := by
  rw [List.take_add_one, h, List.filter_append]
  by_cases e : p x = true <;> simp [e]
end Go.Proofs.Ytplocljoanaoeaa

namespace Go.Proofs.Ytplocljoanaoeaa
set_option linter.unusedVariables false
set_option linter.unusedSimpArgs false
open Go.RowKit
/-- the cells of a row -/
def frV (r : FRw) (i : Nat) : Value := if i < 4 then .int .i64 (r.Z i) else if i = 4 then .int .i64 r.B else if i = 5 then .bool r.S else .int .i64 (r.U (i - 6))
theorem frV_z {r : FRw} {i : Nat} (h : i < 4) : frV r i = .int .i64 (r.Z i) := by unfold frV; rw [if_pos h]
theorem frV_u {r : FRw} {i : Nat} : frV r (6 + i) = .int .i64 (r.U i) := by
  unfold frV; rw [if_neg (by omega), if_neg (by omega), if_neg (by omega), Nat.add_sub_cancel_left]
def RowA (w : World) (a : Nat) (r : FRw) : Prop := w.rowIs a 84 26 (frV r)
def JoinP (w : World) (r : FRw) (ok : Bool) (e : Ending) (w' : World) : Prop :=
  ∃ x, e = .returned (.tuple #[x, .bool ok]) ∧ Below w.heap.size w w' ∧ (ok = true → ∃ g, x = .pointer (some ⟨g, 0, none⟩) ∧ RowA w' g r)
theorem JoinP.no {w w' : World} {r : FRw} {ok : Bool} (h : ok = false) (hb : Below w.heap.size w w') : JoinP w r ok (.returned (.tuple #[.pointer none, .bool false])) w' := ⟨_, by rw [h], hb, fun e => by rw [h] at e; cases e⟩
theorem JoinP.yes {w w' : World} {r : FRw} {ok b : Bool} {g : Nat} (h : ok = b) (hb : Below w.heap.size w w') (hr : RowA w' g r) : JoinP w r ok (.returned (.tuple #[.pointer (some ⟨g, 0, none⟩), .bool b])) w' := ⟨_, by rw [h], hb, fun _ => ⟨g, rfl, hr⟩⟩
theorem fr_six {w : World} {a : Nat} {r : FRw} (h : RowA w a r) : w.cell? ⟨a, 0, none⟩ = some (.int .i64 (r.Z 0)) ∧ w.cell? ⟨a, 1, none⟩ = some (.int .i64 (r.Z 1)) ∧ w.cell? ⟨a, 2, none⟩ = some (.int .i64 (r.Z 2)) ∧ w.cell? ⟨a, 3, none⟩ = some (.int .i64 (r.Z 3)) ∧ w.cell? ⟨a, 4, none⟩ = some (.int .i64 r.B) ∧ w.cell? ⟨a, 5, none⟩ = some (.bool r.S) :=
  ⟨h.cell (by omega), h.cell (by omega), h.cell (by omega), h.cell (by omega), h.cell (by omega), h.cell (by omega)⟩
theorem fr_z {w : World} {a v : Nat} {r : FRw} (h : RowA w a r) (hv : v < 4) : w.cell? ⟨a, v, none⟩ = some (.int .i64 (r.Z v)) := (h.cell (by omega)).trans (by rw [frV_z hv])
theorem fr_u {w : World} {a i : Nat} {r : FRw} (h : RowA w a r) (hi : i < 20) : w.cell? ⟨a, 6 + i, none⟩ = some (.int .i64 (r.U i)) := (h.cell (by omega)).trans (by rw [frV_u])
set_option maxRecDepth 100000 in
set_option maxHeartbeats 4000000 in
theorem joined_any (a b v n : Nat) (ra rb : FRw) (w : World) (hv : v < 4) (hn : n ≤ 20) (ha : RowA w a ra) (hb : RowA w b rb) (oa : ra.ok n) (ob : rb.ok n) (h1 : 0 < ra.Z v) (h2 : rb.Z v < 0) :
    Calls Try.prog 82 #[.pointer (some ⟨a, 0, none⟩), .pointer (some ⟨b, 0, none⟩), .int .i64 v] w (JoinP w (bothF ra rb v) (okF ra rb v)) := by
  obtain ⟨za1, za2⟩ := oa.z hv
  obtain ⟨zb1, zb2⟩ := ob.z hv
  have hbd := mF_bd h1 za2 h2 zb1
  have cva := fr_z ha hv
  have cvb := fr_z hb hv
  have la := cell_lt cva
  have lb := cell_lt cvb
  have hG : ∀ W, Calls Try.prog 90 #[.int .i64 (ra.Z v), .int .i64 (-(rb.Z v))] W fun e w' => e = .returned (.int .i64 (gcF ra rb v)) ∧ ∃ n, w' = W.drewN n := fun W => (gcd_any (ra.Z v) (-(rb.Z v)) W (by omega) (by omega) (by omega) (by omega)).mono (by rintro e w' ⟨rfl, k, rfl⟩; exact ⟨rfl, k, rfl⟩)
  obtain ⟨g1, g2, ⟨m1, m2⟩, ⟨n1, n2⟩⟩ := hbd
  have q1 : wrap64 (-((rb.Z v).tdiv (gcF ra rb v))) = mF ra rb v := by
    rw [← Int.neg_tdiv, show (-(rb.Z v)).tdiv (gcF ra rb v) = mF ra rb v from Int.tdiv_eq_ediv_of_nonneg (by omega)]
    exact IntWalk.wrap64_in _ (by omega)
  have q2 : ra.Z v / gcF ra rb v = nF ra rb v := rfl
  have Q1 := hid q1; have Q2 := hid q2; clear q1 q2
  have hT1 := fun W => wtimes_any (ra.Z 0) (ra.Z 1) (ra.Z 2) (ra.Z 3) ra.B (mF ra rb v) ra.S W (oa.z (by omega)) (oa.z (by omega)) (oa.z (by omega)) (oa.z (by omega)) (inC_bd (okL_iff.1 oa.1).2.2) (by omega)
  have hT2 := fun W => wtimes_any (rb.Z 0) (rb.Z 1) (rb.Z 2) (rb.Z 3) rb.B (nF ra rb v) rb.S W (ob.z (by omega)) (ob.z (by omega)) (ob.z (by omega)) (ob.z (by omega)) (inC_bd (okL_iff.1 ob.1).2.2) (by omega)
  have hP := fun W => wplus_any (s := (ra.S && decide (0 < mF ra rb v))) (u := (rb.S && decide (0 < nF ra rb v))) (ra.Z 0 * mF ra rb v) (ra.Z 1 * mF ra rb v) (ra.Z 2 * mF ra rb v) (ra.Z 3 * mF ra rb v) (ra.B * mF ra rb v) (rb.Z 0 * nF ra rb v) (rb.Z 1 * nF ra rb v) (rb.Z 2 * nF ra rb v) (rb.Z 3 * nF ra rb v) (rb.B * nF ra rb v) W (mul_bd6 (oa.z (by omega)) (by omega)) (mul_bd6 (oa.z (by omega)) (by omega)) (mul_bd6 (oa.z (by omega)) (by omega)) (mul_bd6 (oa.z (by omega)) (by omega)) (mul_bd6 (inC_bd (okL_iff.1 oa.1).2.2) (by omega)) (mul_bd6 (ob.z (by omega)) (by omega)) (mul_bd6 (ob.z (by omega)) (by omega)) (mul_bd6 (ob.z (by omega)) (by omega)) (mul_bd6 (ob.z (by omega)) (by omega)) (mul_bd6 (inC_bd (okL_iff.1 ob.1).2.2) (by omega))
  have HU := hid (fun i (hi : i < 20) => (show (0 ≤ mF ra rb v * ra.U i ∧ mF ra rb v * ra.U i ≤ 1000000000000) ∧ (0 ≤ nF ra rb v * rb.U i ∧ nF ra rb v * rb.U i ≤ 1000000000000) from by
    have u1 := oa.2.1 i
    have u2 := ob.2.1 i
    have b1 := mul_bd6 (x := mF ra rb v) (y := ra.U i) (by omega) (by omega)
    have b2 := mul_bd6 (x := nF ra rb v) (y := rb.U i) (by omega) (by omega)
    have p1 := Int.mul_nonneg (show 0 ≤ mF ra rb v by omega) u1.1
    have p2 := Int.mul_nonneg (show 0 ≤ nF ra rb v by omega) u2.1
    exact ⟨⟨p1, b1.2⟩, p2, b2.2⟩))
  have HA := hid ha; have HB := hid hb
  obtain ⟨a0, a1, a2, a3, a4, a5⟩ := fr_six ha
  obtain ⟨b0, b1, b2, b3, b4, b5⟩ := fr_six hb
  have hI := fun W => inrange_any ((bothF ra rb v).Z 0) ((bothF ra rb v).Z 1) ((bothF ra rb v).Z 2) ((bothF ra rb v).Z 3) (bothF ra rb v).B (bothF ra rb v).S W
  have ho : okF ra rb v = (rngB ((bothF ra rb v).Z 0) ((bothF ra rb v).Z 1) ((bothF ra rb v).Z 2) ((bothF ra rb v).Z 3) (bothF ra rb v).B && okU 20 (bothF ra rb v).U) := by unfold okF; rw [rng_ok]
  have z0 : ra.Z 0 * mF ra rb v + rb.Z 0 * nF ra rb v = (bothF ra rb v).Z 0 := rfl
  have z1 : ra.Z 1 * mF ra rb v + rb.Z 1 * nF ra rb v = (bothF ra rb v).Z 1 := rfl
  have z2 : ra.Z 2 * mF ra rb v + rb.Z 2 * nF ra rb v = (bothF ra rb v).Z 2 := rfl
  have z3 : ra.Z 3 * mF ra rb v + rb.Z 3 * nF ra rb v = (bothF ra rb v).Z 3 := rfl
  have z4 : ra.B * mF ra rb v + rb.B * nF ra rb v = (bothF ra rb v).B := rfl
  have z5 : ((ra.S && decide (0 < mF ra rb v)) || (rb.S && decide (0 < nF ra rb v))) = (bothF ra rb v).S := rfl
  simp only [z0, z1, z2, z3, z4, z5] at hP
  clear z0 z1 z2 z3 z4 z5
  have HJU := hid (fun i => (show mF ra rb v * ra.U i + nF ra rb v * rb.U i = (bothF ra rb v).U i from rfl))
  rw [ho]
  clear ho
  generalize bothF ra rb v = rj at *
  generalize gcF ra rb v = g at *
  generalize mF ra rb v = m at *
  generalize nF ra rb v = n' at *
  clear oa ob ha hb
  go_enter Try.func82, Try.ntmps82
  go_upto_region 1 with fail
  go_quiet (fail)
  have hqw : Below w.heap.size w (w.drewN nq) := bdn (Below.refl _ _) nq
  generalize w.drewN nq = w1 at *
  go_wp2_with fail
  refine (hG _).mono ?_
  rintro e w2 ⟨rfl, k, rfl⟩
  replace hqw := bdn hqw k
  generalize w1.drewN k = w2 at *
  go_upto_region 3 with fail
  go_quiet (fail)
  replace hqw := bdn hqw nq
  go_upto_region 4 with fail
  rw [Q1.out, Q2.out]
  generalize w2.drewN nq = w1 at *
  replace a0 := carry hqw a0
  replace a1 := carry hqw a1
  replace a2 := carry hqw a2
  replace a3 := carry hqw a3
  replace a4 := carry hqw a4
  replace a5 := carry hqw a5
  replace b0 := carry hqw b0
  replace b1 := carry hqw b1
  replace b2 := carry hqw b2
  replace b3 := carry hqw b3
  replace b4 := carry hqw b4
  replace b5 := carry hqw b5
  replace la := cell_lt a0
  replace lb := cell_lt b0
  have gc := @gro_cell w1
  refine region_grow_tail 14 (by kernel_rfl) (by kernel_rfl) ?_; simp only [List.take_succ_cons, List.take_zero, List.drop_succ_cons, List.drop_zero]; (repeat (go_big_quiet_step ((first | (go_at_call 73; first | with_reducible exact grow_call _ (hT1 _) | with_reducible exact grow_call _ (hT2 _)) | (go_at_call 75; with_reducible exact grow_call _ (hP _)))))); refine wpQuiet_nil ?_
  intro w3 hq
  clear gc a0 a1 a2 a3 a4 a5 b0 b1 b2 b3 b4 b5 la lb hT1 hT2 hP
  replace hqw := btr hqw hq
  have hq0 := hqw
  clear hq
  have hbf := build_far
  have HI := hid hI; clear hI
  go_upto_region 5 with fail
  clear hbf
  have f1 := far_new w3 rj.Z rj.B rj.S
  replace hqw := bal hqw (.cells #[.int .i64 (rj.Z 0), .int .i64 (rj.Z 1), .int .i64 (rj.Z 2), .int .i64 (rj.Z 3), .int .i64 rj.B, .bool rj.S, .int .i64 0, .int .i64 0, .int .i64 0, .int .i64 0, .int .i64 0, .int .i64 0, .int .i64 0, .int .i64 0, .int .i64 0, .int .i64 0, .int .i64 0, .int .i64 0, .int .i64 0, .int .i64 0, .int .i64 0, .int .i64 0, .int .i64 0, .int .i64 0, .int .i64 0, .int .i64 0] 84)
  have hz3 : w.heap.size ≤ w3.heap.size := hq0.size
  generalize w3.alloc (.cells #[.int .i64 (rj.Z 0), .int .i64 (rj.Z 1), .int .i64 (rj.Z 2), .int .i64 (rj.Z 3), .int .i64 rj.B, .bool rj.S, .int .i64 0, .int .i64 0, .int .i64 0, .int .i64 0, .int .i64 0, .int .i64 0, .int .i64 0, .int .i64 0, .int .i64 0, .int .i64 0, .int .i64 0, .int .i64 0, .int .i64 0, .int .i64 0, .int .i64 0, .int .i64 0, .int .i64 0, .int .i64 0, .int .i64 0, .int .i64 0] 84) = w4 at *
  have lA := HA.out.lt
  have lB := HB.out.lt
  clear cva cvb h1 h2 za1 za2 zb1 zb2 hG g1 g2 Q1 Q2
  go_wp2
  go_loopw [54] (fun i wr => ∃ k : Nat, k ≤ 20 ∧ i = .int .i64 k ∧ Below w.heap.size w wr ∧ wr.rowIs w3.heap.size 84 26 (fun i => if i < 6 + k then frV rj i else .int .i64 0) ∧ ∀ i, i < k → rj.U i ≤ 1000000) (fun i _ => 20 - (intOf i).toNat)
  case atStart => exact ⟨0, Nat.zero_le _, rfl, hqw, f1.congr fun i hi => (by unfold frowZ frV; by_cases e : i < 6; rw [if_pos (show i < 6 + 0 by omega)]; rcases (show i < 4 ∨ i = 4 ∨ i = 5 by omega) with h | h | h <;> simp [h]; rw [if_neg (show ¬ i < 6 + 0 by omega), if_neg (by omega), if_neg (by omega), if_neg (by omega)]), fun i hi => absurd hi (by omega)⟩
  case round =>
    obtain ⟨k, hk, rfl, hb, hr, hu⟩ := hrel
    have HU2 := hid hu; clear hu f1 hqw
    have HR := hid hr
    by_cases hlt : k < 20
    · have ca := carry hb (fr_u HA.out hlt)
      have cb := carry hb (fr_u HB.out hlt)
      have c0 : wr.cell? ⟨w3.heap.size, 6 + k, none⟩ = some (.int .i64 0) := (hr.cell (by omega)).trans (by rw [if_neg (by omega)])
      have f0 : wr.frozen? ⟨w3.heap.size, 6 + k, none⟩ = false := hr.frozen _
      have l0 := hr.lt
      have la' := cell_lt ca
      have lb' := cell_lt cb
      obtain ⟨⟨u1, u2⟩, u3, u4⟩ := HU.out k hlt
      have d20 : decide ((k : Int) < 20) = true := by simp; omega
      clear hr
      go_upto_region 8 with fail
      refine region_drew_tail 22 (by kernel_rfl) (by kernel_rfl) ?_; simp only [List.take_succ_cons, List.take_zero, List.drop_succ_cons, List.drop_zero]; (repeat (go_big_quiet_step (fail))); refine wpQuiet_nil ?_; intro nq
      have qd : Below wr.heap.size wr (wr.drewN nq) := bdn (Below.refl _ _) nq
      have hr2 := row_below HR.out qd
      replace hb := btr hb qd
      clear ca cb c0 f0 l0 la' lb' HR qd
      generalize wr.drewN nq = w5 at *
      have c0 : w5.cell? ⟨w3.heap.size, 6 + k, none⟩ = some (.int .i64 0) := (hr2.cell (by omega)).trans (by rw [if_neg (by omega)])
      have f0 : w5.frozen? ⟨w3.heap.size, 6 + k, none⟩ = false := hr2.frozen _
      have c1 := World.cell?_setCell_same w5 ⟨w3.heap.size, 6 + k, none⟩ (.int .i64 (m * ra.U k + n' * rb.U k)) c0
      have l0 := hr2.lt
      have hr3 := hr2.set (6 + k) (.int .i64 (m * ra.U k + n' * rb.U k))
      have hb3 := bst hb (p := ⟨w3.heap.size, 6 + k, none⟩) hz3 (.int .i64 (m * ra.U k + n' * rb.U k))
      have HR3 := hid hr3; clear hr3 hr2
      have HB3 := hid hb3; clear hb3
      by_cases hc : m * ra.U k + n' * rb.U k ≤ 1000000
      · have dc : decide (1000000 < m * ra.U k + n' * rb.U k) = false := by simp; omega
        have HC := hid hc; clear hc
        go_wp2
        go_roundw
        case rel =>
          refine ⟨k + 1, by omega, by go_num, HB3.out, HR3.out.congr fun i hi => ?_, fun i hi => ?_⟩
          · by_cases e1 : i = 6 + k
            · subst e1; rw [if_pos rfl, if_pos (by omega), frV_u, HJU.out]
            · rw [if_neg e1]
              by_cases e2 : i < 6 + k
              · rw [if_pos e2, if_pos (by omega)]
              · rw [if_neg e2, if_neg (by omega)]
          · by_cases e1 : i = k
            · subst e1; rw [← HJU.out]; exact HC.out
            · exact HU2.out i (by omega)
        case measure => simp [intOf]; omega
      · have dc : decide (1000000 < m * ra.U k + n' * rb.U k) = true := by simp; omega
        have HF := hid (show (rngB (rj.Z 0) (rj.Z 1) (rj.Z 2) (rj.Z 3) rj.B && okU 20 rj.U) = false from by
          rw [Bool.and_eq_false_iff]
          right
          cases ee : okU 20 rj.U
          · rfl
          · have := okU_iff.1 ee k hlt
            rw [← HJU.out] at this
            exact absurd this hc)
        clear hc
        go_wp2
        go_ret2
        exact JoinP.no HF.out HB3.out
    · have hke : k = 20 := by omega
      subst hke
      have c0 : wr.cell? ⟨w3.heap.size, 0, none⟩ = some (.int .i64 (rj.Z 0)) := hr.cell (by omega)
      have c1 : wr.cell? ⟨w3.heap.size, 1, none⟩ = some (.int .i64 (rj.Z 1)) := hr.cell (by omega)
      have c2 : wr.cell? ⟨w3.heap.size, 2, none⟩ = some (.int .i64 (rj.Z 2)) := hr.cell (by omega)
      have c3 : wr.cell? ⟨w3.heap.size, 3, none⟩ = some (.int .i64 (rj.Z 3)) := hr.cell (by omega)
      have c4 : wr.cell? ⟨w3.heap.size, 4, none⟩ = some (.int .i64 rj.B) := hr.cell (by omega)
      have c5 : wr.cell? ⟨w3.heap.size, 5, none⟩ = some (.bool rj.S) := hr.cell (by omega)
      have l0 := hr.lt
      have HT := hid (show okU 20 rj.U = true from okU_iff.2 HU2.out)
      clear hr
      go_wp2_with fail
      refine (HI.out _).mono ?_
      rintro e w6 ⟨rfl, hq⟩
      go_wp2
      go_ret2
      exact JoinP.yes (by rw [HT.out, Bool.and_true]) (btr hb hq) ((row_below HR.out hq).congr fun i hi => (by rw [if_pos (by omega)]))
end Go.Proofs.Ytplocljoanaoeaa

namespace Go.Proofs.Ytplocljoanaoeaa
set_option linter.unusedVariables false
set_option linter.unusedSimpArgs false
open Go.RowKit
theorem fl_low {w : World} {base n size : Nat} {e : TypeId} {v : Value} {xs : List Value} (h : w.ownsRow base e size v n xs) {g : Nat} (hg : v.ownBlock = some g) : base ≤ g := (h.lt g hg).1
theorem fl_sl {w : World} {base n size : Nat} {e : TypeId} {v : Value} {xs : List Value} (h : w.ownsRow base e size v n xs) : ∃ a c, v = .slice a n c := by
  obtain ⟨_, ⟨rfl, rfl⟩ | ⟨g, cap, cur, rfl, _⟩⟩ := h
  · exact ⟨_, _, rfl⟩
  · exact ⟨_, _, rfl⟩
theorem fl_grow {w u w6 : World} {v : Value} (hb : Below w.heap.size w u) (hg : u.grownBy w6 v.ownBlock) (h : ∀ g, v.ownBlock = some g → w.heap.size ≤ g) : Below w.heap.size w w6 :=
  ⟨hg.os.trans hb.os, hg.tape.trans hb.tape, hg.output.trans hb.output, Nat.le_trans hb.size hg.size, fun j hj => (hg.block j (Nat.lt_of_lt_of_le hj hb.size) (fun e => by have := h _ e.symm; omega)).trans (hb.block j hj)⟩
abbrev PF := Nat × FRw
def ptF (p : PF) : Value := .pointer (some ⟨p.1, 0, none⟩)
def Rws (w : World) (ps : List PF) : Prop := ∀ p ∈ ps, RowA w p.1 p.2
theorem RowA.below {w w' : World} {a : Nat} {r : FRw} (h : RowA w a r) (hb : Below w.heap.size w w') : RowA w' a r := row_below h hb
theorem Rws.below {w w' : World} {ps : List PF} (h : Rws w ps) (hb : Below w.heap.size w w') : Rws w' ps := fun p hp => (h p hp).below hb
theorem Rws.app {w : World} {ps qs : List PF} (h : Rws w ps) (k : Rws w qs) : Rws w (ps ++ qs) := fun p hp => (List.mem_append.1 hp).elim (h p) (k p)
theorem Rws.one {w : World} {p : PF} (h : RowA w p.1 p.2) : Rws w [p] := fun q hq => by obtain rfl := List.mem_singleton.1 hq; exact h
theorem RowA.grow {w w' : World} {a lo n : Nat} {r : FRw} {v : Value} {xs : List Value} (h : RowA w a r) (ho : w.ownsRow lo 61 1 v n xs) (hg : w.grownBy w' v.ownBlock) : RowA w' a r := by
  refine h.of_block (hg.block a h.lt (fun e => ?_))
  obtain ⟨_, ⟨rfl, _⟩ | ⟨g, cap, cur, rfl, _, hh, _⟩⟩ := ho
  · simp [Value.ownBlock] at e
  · simp only [Value.ownBlock, Option.some.injEq] at e
    subst e
    obtain ⟨cs, hc, _⟩ := h
    rw [hc] at hh
    injection hh with hh
    injection hh with _ e2 _
    revert e2
    decide
theorem Rws.grow {w w' : World} {lo n : Nat} {ps : List PF} {v : Value} {xs : List Value} (h : Rws w ps) (ho : w.ownsRow lo 61 1 v n xs) (hg : w.grownBy w' v.ownBlock) : Rws w' ps := fun p hp => (h p hp).grow ho hg
/-- a slice that reads as these rows -/
def SlF (w : World) (A : Option Addr) (ps : List PF) : Prop := ps = [] ∨ ∃ g off, A = some ⟨g, off, none⟩ ∧ g < w.heap.size ∧ ∀ k p, ps[k]? = some p → w.cell? ⟨g, off + k, none⟩ = some (ptF p)
theorem SlF.below {w w' : World} {A : Option Addr} {ps : List PF} (h : SlF w A ps) (hb : Below w.heap.size w w') : SlF w' A ps := by
  rcases h with h | ⟨g, off, ha, hg, hc⟩
  · exact .inl h
  · exact .inr ⟨g, off, ha, Nat.lt_of_lt_of_le hg hb.size, fun k p hk => carry hb (hc k p hk)⟩
theorem own_slF {w : World} {lo c : Nat} {a : Option Addr} {ps : List PF} (h : w.ownsRow lo 61 1 (.slice a ps.length c) ps.length (ps.map ptF)) : SlF w a ps := by
  have hc := fun g hg => h.cells (g := g) hg
  obtain ⟨_, ⟨e, h0⟩ | ⟨g, cap, cur, e, _, hh, _⟩⟩ := h
  · exact .inl (List.length_eq_zero_iff.1 h0)
  · injection e with e _ _
    subst e
    refine .inr ⟨g, 0, rfl, (Array.getElem?_eq_some_iff.1 hh).1, fun k p hk => ?_⟩
    have := hc g rfl k (ptF p) (by rw [List.getElem?_map, hk]; rfl)
    rw [show (⟨g, 0, none⟩ : Addr).add k = ⟨g, 0 + k, none⟩ by unfold Addr.add; split <;> simp_all] at this
    exact this
/-- blocks of their own -/
def SpF (a b : Value) : Prop := ∀ g, a.ownBlock = some g → b.ownBlock ≠ some g
theorem SpF.symm {a b : Value} (h : SpF a b) : SpF b a := fun g hb ha => h g ha hb
theorem SpF.ne {a b : Value} (h : SpF a b) : a.ownBlock = none ∨ a.ownBlock ≠ b.ownBlock := by
  cases e : a.ownBlock with
  | none => exact .inl rfl
  | some g => exact .inr (fun e2 => h g e e2.symm)
/-- three lists of rows that grow -/
structure El3 (lo : Nat) (a b c : Value) (x y z : List PF) (w : World) : Prop where
  oa : w.ownsRow lo 61 1 a x.length (x.map ptF)
  ob : w.ownsRow lo 61 1 b y.length (y.map ptF)
  oc : w.ownsRow lo 61 1 c z.length (z.map ptF)
  ab : SpF a b
  bc : SpF b c
  ca : SpF c a
theorem El3.rot {lo : Nat} {a b c : Value} {x y z : List PF} {w : World} (h : El3 lo a b c x y z w) : El3 lo b c a y z x w := ⟨h.ob, h.oc, h.oa, h.bc, h.ca, h.ab⟩
theorem El3.nil (lo : Nat) (w : World) : El3 lo (.slice none 0 0) (.slice none 0 0) (.slice none 0 0) [] [] [] w :=
  ⟨World.ownsRow_nil _ _ _ _, World.ownsRow_nil _ _ _ _, World.ownsRow_nil _ _ _ _, (fun _ h => by cases h), (fun _ h => by cases h), (fun _ h => by cases h)⟩
theorem El3.below {lo : Nat} {a b c : Value} {x y z : List PF} {w w' : World} (h : El3 lo a b c x y z w) (hb : Below w.heap.size w w') : El3 lo a b c x y z w' :=
  ⟨own_below hb h.oa, own_below hb h.ob, own_below hb h.oc, h.ab, h.bc, h.ca⟩
theorem El3.app {lo : Nat} {a a' b c : Value} {x y z : List PF} {p : PF} {w w' : World} (h : El3 lo a b c x y z w) (ho : w'.ownsRow lo 61 1 a' (x.length + 1) (x.map ptF ++ [ptF p])) (hg : w.grownBy w' a.ownBlock) (hk : a'.ownBlock = a.ownBlock ∨ a'.ownBlock = some w.heap.size) : El3 lo a' b c (x ++ [p]) y z w' := by
  refine ⟨by simpa using ho, h.ob.kept hg h.ab.symm.ne, h.oc.kept hg h.ca.ne, fun g hg' e => ?_, h.bc, fun g hg' e => ?_⟩
  · rcases hk with hk | hk
    · exact h.ab g (hk.symm.trans hg') e
    · have := (h.ob.lt g e).2
      rw [hk] at hg'
      injection hg' with hg'
      omega
  · rcases hk with hk | hk
    · exact h.ca g hg' (hk.symm.trans e)
    · have := (h.oc.lt g hg').2
      rw [hk] at e
      injection e with e
      omega
def restF (v : Nat) (l : List PF) : List PF := l.filter (fun p => decide (p.2.Z v = 0))
def upF (v : Nat) (l : List PF) : List PF := l.filter (fun p => decide (0 < p.2.Z v))
def loF (v : Nat) (l : List PF) : List PF := l.filter (fun p => decide (p.2.Z v < 0))
theorem restF_map (v : Nat) (l : List PF) : (restF v l).map Prod.snd = restL v (l.map Prod.snd) := by unfold restF restL; rw [List.filter_map]; rfl
theorem upF_map (v : Nat) (l : List PF) : (upF v l).map Prod.snd = upL v (l.map Prod.snd) := by unfold upF upL; rw [List.filter_map]; rfl
theorem loF_map (v : Nat) (l : List PF) : (loF v l).map Prod.snd = loL v (l.map Prod.snd) := by unfold loF loL; rw [List.filter_map]; rfl
theorem info_FR : (Try.prog.info? 61).map (fun i => (i.zero, i.size, i.bytes)) = some (some (.pointer none), 1, 8) := by kernel_rfl
theorem one_pt (p : PF) : ∀ u ∈ [ptF p], u.oneCell' = true := fun u hu => by simp at hu; subst hu; rfl
def ElimP (w : World) (v : Nat) (ps : List PF) (e : Ending) (w' : World) : Prop :=
  ∃ A m c qs, e = .returned (.tuple #[.slice A m c, .bool (dropOk v (ps.map Prod.snd))]) ∧ Below w.heap.size w w' ∧ (dropOk v (ps.map Prod.snd) = true → m = qs.length ∧ SlF w' A qs ∧ Rws w' qs ∧ qs.map Prod.snd = dropL v (ps.map Prod.snd))
theorem ElimP.no {w w' : World} {v : Nat} {ps : List PF} (h : dropOk v (ps.map Prod.snd) = false) (hb : Below w.heap.size w w') : ElimP w v ps (.returned (.tuple #[.slice none 0 0, .bool false])) w' :=
  ⟨none, 0, 0, [], by rw [h], hb, fun e => by rw [h] at e; cases e⟩
theorem ElimP.yes {w w' : World} {v m c : Nat} {A : Option Addr} {ps qs : List PF} (h : dropOk v (ps.map Prod.snd) = true) (hb : Below w.heap.size w w') (hm : m = qs.length) (hs : SlF w' A qs) (hr : Rws w' qs) (hd : qs.map Prod.snd = dropL v (ps.map Prod.snd)) : ElimP w v ps (.returned (.tuple #[.slice A m c, .bool true])) w' :=
  ⟨A, m, c, qs, by rw [h], hb, fun _ => ⟨hm, hs, hr, hd⟩⟩
theorem dropOk_no1 {v : Nat} {ps : List PF} (h : 200 < (restF v ps).length + (upF v ps).length * (loF v ps).length) : dropOk v (ps.map Prod.snd) = false := by
  unfold dropOk
  rw [← restF_map, ← upF_map, ← loF_map, List.length_map, List.length_map, List.length_map, decide_eq_false (by omega), Bool.false_and]
theorem dropOk_no2 {v : Nat} {ps : List PF} {a b : PF} (ha : a ∈ upF v ps) (hb : b ∈ loF v ps) (h : okF a.2 b.2 v = false) : dropOk v (ps.map Prod.snd) = false := by
  unfold dropOk okP
  rw [← upF_map, ← loF_map, Bool.and_eq_false_iff]
  right
  rw [List.all_eq_false]
  refine ⟨(a.2, b.2), ?_, by simpa using h⟩
  simp only [pairsL, List.mem_flatMap, List.mem_map]
  exact ⟨a.2, ⟨a, ha, rfl⟩, b.2, ⟨b, hb, rfl⟩, rfl⟩
/-- the pairs of the first i of the upper rows, and of the next one with the first j of the lower ones -/
def prF (us ls : List PF) (i j : Nat) : List (FRw × FRw) := pairsL ((us.take i).map Prod.snd) (ls.map Prod.snd) ++ pairsL (((us.drop i).take 1).map Prod.snd) ((ls.take j).map Prod.snd)
theorem prF_zero (us ls : List PF) : prF us ls 0 0 = [] := by simp [prF, pairsL]
theorem prF_succ {us ls : List PF} {i j : Nat} {a b : PF} (ha : us[i]? = some a) (hb : ls[j]? = some b) : prF us ls i (j + 1) = prF us ls i j ++ [(a.2, b.2)] := by
  have h1 : (us.drop i).take 1 = [a] := by
    rw [List.take_one, List.head?_drop, ha]; rfl
  unfold prF
  rw [h1, List.map_cons, List.map_nil, pairs_one, pairs_one, List.take_add_one, hb]
  simp
theorem prF_next {us ls : List PF} {i : Nat} {a : PF} (ha : us[i]? = some a) : prF us ls (i + 1) 0 = prF us ls i ls.length := by
  have h1 : (us.drop i).take 1 = [a] := by
    rw [List.take_one, List.head?_drop, ha]; rfl
  unfold prF
  rw [h1, List.take_length, List.take_add_one, ha, List.map_append, pairs_app]
  simp [pairsL]
theorem prF_end (us ls : List PF) : prF us ls us.length 0 = pairsL (us.map Prod.snd) (ls.map Prod.snd) := by simp [prF, pairsL]
end Go.Proofs.Ytplocljoanaoeaa

namespace Go.Proofs.Ytplocljoanaoeaa
set_option linter.unusedVariables false
set_option linter.unusedSimpArgs false
open Go.RowKit
theorem fl_take {α : Type} {l : List α} {p : α → Bool} {k : Nat} (h : k ≤ 200) : ((l.take k).filter p).length ≤ 200 := by
  have h1 := List.length_filter_le p (l.take k)
  have h2 := List.length_take_le k l
  omega
set_option maxRecDepth 100000 in
set_option maxHeartbeats 8000000 in
theorem elim_any (A : Option Addr) (c v n : Nat) (ps : List PF) (w : World) (hv : v < 4) (hn : n ≤ 20) (hl : ps.length ≤ 200) (hA : SlF w A ps) (hR : Rws w ps) (hok : ∀ p ∈ ps, p.2.ok n) :
    Calls Try.prog 50 #[.slice A ps.length c, .int .i64 v] w (ElimP w v ps) := by
  obtain ⟨i0, hi, hz0, hz1, hz2⟩ := info_parts infoFR
  have HR := hid hR; have HOK := hid hok; clear hR hok
  obtain ⟨m, hm⟩ : ∃ m, m = ps.length := ⟨_, rfl⟩
  rw [← hm] at hl ⊢
  have HM := hid hm
  clear hm
  have hx0 := El3.nil w.heap.size w
  go_enter Try.func50, Try.ntmps50
  go_wp2
  go_loopw [6, 7, 8, 20] (fun r6 r7 r8 i wr => ∃ k : Nat, k ≤ m ∧ i = .int .i64 k ∧ Below w.heap.size w wr ∧ El3 w.heap.size r6 r7 r8 (restF v (ps.take k)) (upF v (ps.take k)) (loF v (ps.take k)) wr) (fun _ _ _ i _ => m - (intOf i).toNat)
  case atStart => exact ⟨0, Nat.zero_le _, rfl, Below.refl _ _, by simpa [restF, upF, loF] using hx0⟩
  case round =>
    clear hx0
    obtain ⟨k, hk, rfl, hb, hE⟩ := hrel
    have HE := hid hE; clear hE
    by_cases hlt : k < m
    · obtain ⟨⟨a, r⟩, hp⟩ : ∃ p, ps[k]? = some p := ⟨_, List.getElem?_eq_getElem (by have := HM.out; omega)⟩
      have HP := hid hp
      have hRA := (HR.out _ (List.mem_of_getElem? hp)).below hb
      have hrok := HOK.out _ (List.mem_of_getElem? hp)
      obtain ⟨z1, z2⟩ := hrok.z hv
      rcases hA with h0 | ⟨g, off, rfl, hg, hcA⟩
      · rw [h0] at hp; cases hp
      have cp := carry hb (hcA k _ hp)
      have cz := fr_z hRA hv
      have lg := cell_lt cp
      have la := cell_lt cz
      clear hcA hRA hrok hp
      unfold ptF at cp
      have hbA := bal (Below.refl wr.heap.size wr) (.cells #[.pointer (some ⟨a, 0, none⟩)] 61)
      have hEA := hid (HE.out.below hbA)
      have hn1 := hid (cell_one_new wr (ptF (a, r)) 61)
      have hszA : w.heap.size ≤ (wr.alloc (.cells #[.pointer (some ⟨a, 0, none⟩)] 61)).heap.size := Nat.le_trans hb.size hbA.size
      have hbb := hid (btr hb hbA)
      clear hbA
      have hb6 : (restF v (ps.take k)).length ≤ 200 := fl_take (by omega)
      have hb7 : (upF v (ps.take k)).length ≤ 200 := fl_take (by omega)
      have hb8 : (loF v (ps.take k)).length ≤ 200 := fl_take (by omega)
      rcases Int.lt_trichotomy (r.Z v) 0 with hz | hz | hz
      · have d1 : decide (0 < r.Z v) = false := by simp; omega
        have d2 : decide (r.Z v < 0) = true := by simp; omega
        have HZ := hid hz
        go_wp2_with ((at_builtin; go_loud (refine wpList_append_own_at _ rfl _ _ 58 rfl w.heap.size 61 i0 (.pointer none) 1 8 Try.underlying58 hi hz0 hz1 hz2 rfl (by decide) _ _ _ rfl hEA.out.oc ⟨wr.heap.size, 0, none⟩ 1 1 [ptF (a, r)] rfl rfl hn1.out (one_pt _) (by unfold maxLen; omega) (by omega) hszA ?_); intro v' w5 hown hgrow _ hblk; have hE5 := hid ((hEA.out.rot.rot.app hown hgrow hblk).rot); have hb5 := hid (fl_grow hbb.out hgrow (fun g e => fl_low hEA.out.oc e))))
        go_roundw
        case rel =>
          refine ⟨k + 1, by omega, by go_num, hb5.out, ?_⟩
          have e1 := filter_take (fun p : PF => decide (p.2.Z v = 0)) ps k (a, r) HP.out
          have e2 := filter_take (fun p : PF => decide (0 < p.2.Z v)) ps k (a, r) HP.out
          have e3 := filter_take (fun p : PF => decide (p.2.Z v < 0)) ps k (a, r) HP.out
          simp only [decide_eq_true_eq] at e1 e2 e3
          rw [if_neg (by have := HZ.out; omega), List.append_nil] at e1
          rw [if_neg (by have := HZ.out; omega), List.append_nil] at e2
          rw [if_pos (by have := HZ.out; omega)] at e3
          have h5 := hE5.out
          unfold restF upF loF at h5 ⊢
          rw [e1, e2, e3]
          exact h5
        case measure => simp [intOf]; omega
      · have d1 : decide (0 < r.Z v) = false := by simp; omega
        have d2 : decide (r.Z v < 0) = false := by simp; omega
        have HZ := hid hz
        go_wp2_with ((at_builtin; go_loud (refine wpList_append_own_at _ rfl _ _ 58 rfl w.heap.size 61 i0 (.pointer none) 1 8 Try.underlying58 hi hz0 hz1 hz2 rfl (by decide) _ _ _ rfl hEA.out.oa ⟨wr.heap.size, 0, none⟩ 1 1 [ptF (a, r)] rfl rfl hn1.out (one_pt _) (by unfold maxLen; omega) (by omega) hszA ?_); intro v' w5 hown hgrow _ hblk; have hE5 := hid (hEA.out.app hown hgrow hblk); have hb5 := hid (fl_grow hbb.out hgrow (fun g e => fl_low hEA.out.oa e))))
        go_roundw
        case rel =>
          refine ⟨k + 1, by omega, by go_num, hb5.out, ?_⟩
          have e1 := filter_take (fun p : PF => decide (p.2.Z v = 0)) ps k (a, r) HP.out
          have e2 := filter_take (fun p : PF => decide (0 < p.2.Z v)) ps k (a, r) HP.out
          have e3 := filter_take (fun p : PF => decide (p.2.Z v < 0)) ps k (a, r) HP.out
          simp only [decide_eq_true_eq] at e1 e2 e3
          rw [if_pos (by have := HZ.out; omega)] at e1
          rw [if_neg (by have := HZ.out; omega), List.append_nil] at e2
          rw [if_neg (by have := HZ.out; omega), List.append_nil] at e3
          have h5 := hE5.out
          unfold restF upF loF at h5 ⊢
          rw [e1, e2, e3]
          exact h5
        case measure => simp [intOf]; omega
      · have d1 : decide (0 < r.Z v) = true := by simp; omega
        have d2 : decide (r.Z v < 0) = false := by simp; omega
        have HZ := hid hz
        go_wp2_with ((at_builtin; go_loud (refine wpList_append_own_at _ rfl _ _ 58 rfl w.heap.size 61 i0 (.pointer none) 1 8 Try.underlying58 hi hz0 hz1 hz2 rfl (by decide) _ _ _ rfl hEA.out.ob ⟨wr.heap.size, 0, none⟩ 1 1 [ptF (a, r)] rfl rfl hn1.out (one_pt _) (by unfold maxLen; omega) (by omega) hszA ?_); intro v' w5 hown hgrow _ hblk; have hE5 := hid ((hEA.out.rot.app hown hgrow hblk).rot.rot); have hb5 := hid (fl_grow hbb.out hgrow (fun g e => fl_low hEA.out.ob e))))
        go_roundw
        case rel =>
          refine ⟨k + 1, by omega, by go_num, hb5.out, ?_⟩
          have e1 := filter_take (fun p : PF => decide (p.2.Z v = 0)) ps k (a, r) HP.out
          have e2 := filter_take (fun p : PF => decide (0 < p.2.Z v)) ps k (a, r) HP.out
          have e3 := filter_take (fun p : PF => decide (p.2.Z v < 0)) ps k (a, r) HP.out
          simp only [decide_eq_true_eq] at e1 e2 e3
          rw [if_neg (by have := HZ.out; omega), List.append_nil] at e1
          rw [if_pos (by have := HZ.out; omega)] at e2
          rw [if_neg (by have := HZ.out; omega), List.append_nil] at e3
          have h5 := hE5.out
          unfold restF upF loF at h5 ⊢
          rw [e1, e2, e3]
          exact h5
        case measure => simp [intOf]; omega
    · have hke : k = m := by omega
      have hfull : ps.take k = ps := List.take_of_length_le (by have := HM.out; omega)
      have hE := HE.out
      rw [hfull] at hE
      have hk200 : (restF v ps).length ≤ 200 ∧ (upF v ps).length ≤ 200 ∧ (loF v ps).length ≤ 200 := by
        have h1 := fl_take (p := fun p : PF => decide (p.2.Z v = 0)) (l := ps) (k := k) (by omega)
        have h2 := fl_take (p := fun p : PF => decide (0 < p.2.Z v)) (l := ps) (k := k) (by omega)
        have h3 := fl_take (p := fun p : PF => decide (p.2.Z v < 0)) (l := ps) (k := k) (by omega)
        rw [hfull] at h1 h2 h3
        exact ⟨h1, h2, h3⟩
      clear HE hfull hke
      obtain ⟨a6, c6, e6⟩ := fl_sl hE.oa
      obtain ⟨a7, c7, e7⟩ := fl_sl hE.ob
      obtain ⟨a8, c8, e8⟩ := fl_sl hE.oc
      subst e6 e7 e8
      have HX := hid (show Rws w (restF v ps) from fun p hp => HR.out p (List.mem_filter.1 hp).1)
      have HU := hid (show ∀ p ∈ upF v ps, RowA w p.1 p.2 ∧ p.2.ok n ∧ 0 < p.2.Z v from fun p hp => ⟨HR.out p (List.mem_filter.1 hp).1, HOK.out p (List.mem_filter.1 hp).1, by simpa using (List.mem_filter.1 hp).2⟩)
      have HL := hid (show ∀ p ∈ loF v ps, RowA w p.1 p.2 ∧ p.2.ok n ∧ p.2.Z v < 0 from fun p hp => ⟨HR.out p (List.mem_filter.1 hp).1, HOK.out p (List.mem_filter.1 hp).1, by simpa using (List.mem_filter.1 hp).2⟩)
      have HE := hid hE; clear hE
      have HN1 := hid (dropOk_no1 (v := v) (ps := ps))
      have HN2 := hid (fun a b => dropOk_no2 (v := v) (ps := ps) (a := a) (b := b))
      have HY := hid (show (restF v ps).length + (upF v ps).length * (loF v ps).length ≤ 200 → okP v (prF (upF v ps) (loF v ps) (upF v ps).length 0) = true → dropOk v (ps.map Prod.snd) = true from fun h1 h2 => by
        unfold dropOk
        rw [← restF_map, ← upF_map, ← loF_map, List.length_map, List.length_map, List.length_map, decide_eq_true h1, Bool.true_and, ← prF_end]
        exact h2)
      have HD := hid (show dropL v (ps.map Prod.snd) = (restF v ps).map Prod.snd ++ bothP v (prF (upF v ps) (loF v ps) (upF v ps).length 0) from by
        unfold dropL
        rw [← restF_map, ← upF_map, ← loF_map, prF_end])
      generalize restF v ps = X at *
      generalize upF v ps = U at *
      generalize loF v ps = L at *
      have mul1 := Nat.mul_le_mul hk200.2.1 hk200.2.2
      have cst : ((U.length * L.length : Nat) : Int) = (U.length : Int) * (L.length : Int) := Int.natCast_mul _ _
      have mul0 : 0 ≤ (U.length : Int) * (L.length : Int) := by omega
      have mul2 : (U.length : Int) * (L.length : Int) ≤ 40000 := by omega
      by_cases hbig : 200 < X.length + U.length * L.length
      · have d1 : decide ((200 : Int) < (X.length : Int) + (U.length : Int) * (L.length : Int)) = true := by simp; omega
        have HB := hid (HN1.out hbig)
        clear hbig cst mul1
        go_wp2
        go_ret2
        exact ElimP.no HB.out hb
      · have d1 : decide ((200 : Int) < (X.length : Int) + (U.length : Int) * (L.length : Int)) = false := by simp; omega
        have HB := hid hbig
        clear hbig cst mul1
        have HC := hid (show X.length ≤ 200 ∧ U.length ≤ 200 ∧ L.length ≤ 200 from hk200)
        clear hk200
        have hu200 := HC.out.2.1
        have hl200 := HC.out.2.2
        have hx200 := HC.out.1
        have hE0 := HE.out
        go_wp2
        clear d1 mul0 mul2
        go_loopw [6, 61] (fun r6 i w2 => ∃ (k : Nat) (qs : List PF), k ≤ U.length ∧ i = .int .i64 k ∧ Below w.heap.size w w2 ∧ El3 w.heap.size r6 (.slice a7 U.length c7) (.slice a8 L.length c8) (X ++ qs) U L w2 ∧ Rws w2 qs ∧ qs.map Prod.snd = bothP v (prF U L k 0) ∧ okP v (prF U L k 0) = true ∧ qs.length ≤ k * 200) (fun _ i _ => U.length - (intOf i).toNat)
        case atStart => exact ⟨0, [], Nat.zero_le _, rfl, hb, by simpa using hE0, (fun p hp => by cases hp), by rw [prF_zero]; rfl, by rw [prF_zero]; rfl, Nat.zero_le _⟩
        case round =>
          clear hE0 hb HE
          obtain ⟨k, qs, hk, rfl, hb, hE, hQ, hqm, hqo, hql⟩ := hrel
          have HE := hid hE
          have HQ := hid hQ; have HQM := hid hqm; have HQO := hid hqo
          clear hE hQ hqm hqo
          by_cases hlt : k < U.length
          · obtain ⟨⟨a, ra⟩, hp⟩ : ∃ p, U[k]? = some p := ⟨_, List.getElem?_eq_getElem hlt⟩
            have HP := hid hp
            have hua := hid (HU.out _ (List.mem_of_getElem? hp))
            have hma := hid (List.mem_of_getElem? hp)
            rcases own_slF HE.out.ob with h0 | ⟨g, off, rfl, hg, hcA⟩
            · rw [h0] at hp; cases hp
            have cp := hcA k _ hp
            have lg := cell_lt cp
            clear hcA hp hg
            unfold ptF at cp
            have hE0 := HE.out; have hQ0 := HQ.out; have hM0 := HQM.out; have hO0 := HQO.out
            obtain ⟨k200, hk200⟩ : ∃ x, x = k * 200 := ⟨_, rfl⟩
            have hk3 : k200 ≤ 40000 := by omega
            rw [← hk200] at hql
            have HK200 := hid hk200; clear hk200
            go_wp2
            go_loopw [6, 67] (fun r6 i w2 => ∃ (j : Nat) (qs : List PF), j ≤ L.length ∧ i = .int .i64 j ∧ Below w.heap.size w w2 ∧ El3 w.heap.size r6 (.slice (some ⟨g, off, none⟩) U.length c7) (.slice a8 L.length c8) (X ++ qs) U L w2 ∧ Rws w2 qs ∧ qs.map Prod.snd = bothP v (prF U L k j) ∧ okP v (prF U L k j) = true ∧ qs.length ≤ k200 + j) (fun _ i _ => L.length - (intOf i).toNat)
            case atStart => exact ⟨0, qs, Nat.zero_le _, rfl, hb, hE0, hQ0, hM0, hO0, hql⟩
            case round =>
              clear hE0 hb HE hQ0 hM0 hO0 hql HQ HQM HQO cp lg
              obtain ⟨j, qs, hj, rfl, hb, hE, hQ, hqm, hqo, hql⟩ := hrel
              have HE := hid hE
              have HQ := hid hQ; have HQM := hid hqm; have HQO := hid hqo
              clear hE hQ hqm hqo
              by_cases hltj : j < L.length
              · obtain ⟨⟨b, rb⟩, hp⟩ : ∃ p, L[j]? = some p := ⟨_, List.getElem?_eq_getElem hltj⟩
                have HPB := hid hp
                have hub := hid (HL.out _ (List.mem_of_getElem? hp))
                have hmb := hid (List.mem_of_getElem? hp)
                rcases own_slF HE.out.oc with h0 | ⟨g8, off8, rfl, hg, hcA⟩
                · rw [h0] at hp; cases hp
                have cp := hcA j _ hp
                have lg := cell_lt cp
                clear hcA hp hg
                unfold ptF at cp
                have hJ := joined_any a b v n ra rb _ hv hn (hua.out.1.below hb) (hub.out.1.below hb) hua.out.2.1 hub.out.2.1 hua.out.2.2 hub.out.2.2
                go_wp2_with fail
                refine hJ.mono ?_
                clear hJ
                rintro e w5 ⟨x, rfl, hq, hx⟩
                cases hokv : okF ra rb v with
                | false =>
                  have HF := hid (HN2.out _ _ hma.out hmb.out hokv)
                  clear hx hokv
                  go_wp2
                  go_ret2
                  exact ElimP.no HF.out (btr hb hq)
                | true =>
                  obtain ⟨g5, rfl, hg5⟩ := hx hokv
                  have HOV := hid hokv
                  clear hx hokv cp lg
                  have hb5 := btr hb hq
                  have hbA := bal (Below.refl w5.heap.size w5) (.cells #[.pointer (some ⟨g5, 0, none⟩)] 61)
                  have hEA := hid ((HE.out.below hq).below hbA)
                  have hQA := hid (((HQ.out.below hq).app (Rws.one (p := (g5, bothF ra rb v)) hg5)).below hbA)
                  have hn1 := hid (cell_one_new w5 (ptF (g5, bothF ra rb v)) 61)
                  have hszA : w.heap.size ≤ (w5.alloc (.cells #[.pointer (some ⟨g5, 0, none⟩)] 61)).heap.size := Nat.le_trans hb5.size hbA.size
                  have hbb := hid (btr hb5 hbA)
                  clear hbA hg5
                  have hxq : (X ++ qs).length ≤ 50000 := by rw [List.length_append]; omega
                  go_wp2_with ((at_builtin; go_loud (refine wpList_append_own_at _ rfl _ _ 58 rfl w.heap.size 61 i0 (.pointer none) 1 8 Try.underlying58 hi hz0 hz1 hz2 rfl (by decide) _ _ _ rfl hEA.out.oa ⟨w5.heap.size, 0, none⟩ 1 1 [ptF (g5, bothF ra rb v)] rfl rfl hn1.out (one_pt _) (by unfold maxLen; omega) (by omega) hszA ?_); intro v' w6 hown hgrow _ hblk; have hE5 := hid (hEA.out.app hown hgrow hblk); have hb6 := hid (fl_grow hbb.out hgrow (fun g e => fl_low hEA.out.oa e)); have hQ6 := hid (hQA.out.grow hEA.out.oa hgrow)))
                  go_roundw
                  case rel =>
                    have hs := prF_succ (us := U) (ls := L) HP.out HPB.out
                    refine ⟨j + 1, qs ++ [(g5, bothF ra rb v)], by omega, by go_num, hb6.out, by rw [← List.append_assoc]; exact hE5.out, hQ6.out, ?_, ?_, by simp; omega⟩
                    · rw [hs, bothP_app, List.map_append, HQM.out]; rfl
                    · rw [hs, okP_app, HQO.out, Bool.true_and]; simp [okP, HOV.out]
                  case measure => simp [intOf]; omega
              · have hje : j = L.length := by omega
                have HJE := hid hje
                clear hje
                go_wp2
                go_roundw
                case rel =>
                  have hs := prF_next (us := U) (ls := L) HP.out
                  have h1 := HQM.out; have h2 := HQO.out
                  rw [HJE.out, ← hs] at h1 h2
                  exact ⟨k + 1, qs, by omega, by go_num, hb, HE.out, HQ.out, h1, h2, by have := HK200.out; have := HJE.out; omega⟩
                case measure => simp [intOf]; omega
          · have hke : k = U.length := by omega
            have HKE := hid hke
            obtain ⟨a6, c6, e6⟩ := fl_sl HE.out.oa
            subst e6
            clear hke
            go_wp2
            go_ret2
            have h1 := HQM.out; have h2 := HQO.out
            rw [HKE.out] at h1 h2
            exact ElimP.yes (qs := X ++ qs) (HY.out (by have := HB.out; omega) h2) hb rfl (own_slF HE.out.oa) ((HX.out.below hb).app HQ.out) (by rw [List.map_append, h1, HD.out])
end Go.Proofs.Ytplocljoanaoeaa

namespace Go.Proofs.Ytplocljoanaoeaa
set_option linter.unusedVariables false
set_option linter.unusedSimpArgs false
open Go.RowKit
/-- what FarLess answers: new memory -/
def LessP (w : World) (r : List FRw × Bool) (e : Ending) (w' : World) : Prop :=
  ∃ A m c, e = .returned (.tuple #[.slice A m c, .bool r.2]) ∧ m = r.1.length ∧ Below w.heap.size w w' ∧ (m = 0 ∨ LsB w.heap.size w'.heap.size w' A m (lstF r.1))
theorem LessP.no {w w' : World} {r : List FRw × Bool} (h : r = ([], false)) (hb : Below w.heap.size w w') : LessP w r (.returned (.tuple #[.slice none 0 0, .bool false])) w' := by
  subst h; exact ⟨none, 0, 0, rfl, rfl, hb, .inl rfl⟩
theorem LessP.yes {w w' : World} {r : List FRw × Bool} {l : List FRw} {A : Option Addr} {m c : Nat} (h : r = (l, true)) (hm : m = l.length) (hb : Below w.heap.size w w') (hl : LsB w.heap.size w'.heap.size w' A m (lstF l)) : LessP w r (.returned (.tuple #[.slice A m c, .bool true])) w' := by
  subst h; exact ⟨A, m, c, rfl, hm, hb, .inr hl⟩
theorem lessR_no1 {n : Nat} {L : Lst} {v : Int} (h : okS n L = false) : lessR n L v = ([], false) := by unfold lessR; rw [if_neg (by rw [h]; simp)]
theorem lessR_no2 {n : Nat} {L : Lst} {v : Int} (h : v < 0) : lessR n L v = ([], false) := by unfold lessR; rw [if_neg (by omega)]
theorem lessR_no3 {n : Nat} {L : Lst} {v : Int} (h : 4 ≤ v) : lessR n L v = ([], false) := by unfold lessR; rw [if_neg (by omega)]
theorem lessR_no4 {n v : Nat} {L : Lst} (h : dropOk v (givenL n L) = false) : lessR n L (v : Int) = ([], false) := by unfold lessR; rw [if_neg]; rw [Int.toNat_natCast, h]; simp
theorem lessR_yes {n v : Nat} {L : Lst} (h : okS n L = true) (hv : v < 4) (hd : dropOk v (givenL n L) = true) : lessR n L (v : Int) = (dropL v (givenL n L), true) := by
  unfold lessR; rw [if_pos ⟨h, by omega, by omega, by rw [Int.toNat_natCast]; exact hd⟩, Int.toNat_natCast]
/-- the rows of those given, with their places -/
def givenF (n : Nat) (L : Lst) (G : Nat → Nat) : List PF := (List.range n).map (fun k => (G k, ⟨L.Z k, L.B k, L.S k, fun i => if i = k then 1 else 0⟩))
theorem givenF_len (n : Nat) (L : Lst) (G : Nat → Nat) : (givenF n L G).length = n := by simp [givenF]
theorem givenF_map (n : Nat) (L : Lst) (G : Nat → Nat) : (givenF n L G).map Prod.snd = givenL n L := by simp [givenF, givenL]
theorem givenF_get {n k : Nat} {L : Lst} {G : Nat → Nat} {p : PF} (h : (givenF n L G)[k]? = some p) : k < n ∧ p = (G k, ⟨L.Z k, L.B k, L.S k, fun i => if i = k then 1 else 0⟩) := by
  unfold givenF at h
  rw [List.getElem?_map, Option.map_eq_some_iff] at h
  obtain ⟨j, hj, rfl⟩ := h
  have hk : k < n := by
    have := (List.getElem?_eq_some_iff.1 hj).1
    simpa using this
  rw [List.getElem?_range hk] at hj
  injection hj with hj
  subst hj
  exact ⟨hk, rfl⟩
theorem FRows.sl {W w : World} {v : Value} {n : Nat} {L : Lst} (h : FRows W w v n L) : ∃ g G, v = .slice (some ⟨g, 0, none⟩) n n ∧ SlF w (some ⟨g, 0, none⟩) (givenF n L G) ∧ Rws w (givenF n L G) := by
  obtain ⟨g, G, rfl, _, hr, hc⟩ := h
  refine ⟨g, G, rfl, .inr ⟨g, 0, rfl, hr.lt, fun k p hk => ?_⟩, fun p hp => ?_⟩
  · obtain ⟨hkn, rfl⟩ := givenF_get hk
    rw [Nat.zero_add]
    exact hr.cell hkn
  · obtain ⟨k, hk⟩ := List.getElem?_of_mem hp
    obtain ⟨hkn, rfl⟩ := givenF_get hk
    refine (hc k hkn).2.congr fun i hi => ?_
    unfold frowV frV
    by_cases h1 : i < 4
    · rw [if_pos h1, if_pos h1]
    · rw [if_neg h1, if_neg h1]
      by_cases h2 : i = 4
      · rw [if_pos h2, if_pos h2]
      · rw [if_neg h2, if_neg h2]
        by_cases h3 : i = 5
        · rw [if_pos h3, if_pos h3]
        · rw [if_neg h3, if_neg h3]
          by_cases h4 : i = 6 + k
          · rw [if_pos h4]; show Value.int .i64 1 = .int .i64 (if i - 6 = k then 1 else 0); rw [if_pos (by omega)]
          · rw [if_neg h4]; show Value.int .i64 0 = .int .i64 (if i - 6 = k then 1 else 0); rw [if_neg (by omega)]
theorem narrow_row {n : Nat} (r : FRw) (h : r.ok n) (w : World) :
    Calls Try.prog 51 #[.agg #[.int .i64 (r.Z 0), .int .i64 (r.Z 1), .int .i64 (r.Z 2), .int .i64 (r.Z 3), .int .i64 r.B, .bool r.S]] w fun e w' => ∃ A c, e = .returned (.tuple #[.agg #[.slice A 4 c, .int .i64 r.B, .bool r.S], .bool true]) ∧ 4 ≤ c ∧ c ≤ 9223372036854775807 ∧ OwnI w w' A 4 r.Z ∧ Below w.heap.size w w' := by
  refine (lnarrow_any _ _ _ _ _ _ w).mono ?_
  rintro e w' ⟨v, rfl, hv, hb⟩
  have hr : rngB (r.Z 0) (r.Z 1) (r.Z 2) (r.Z 3) r.B = true := (rng_ok r.Z r.B).trans h.1
  unfold narR at hv
  rw [hr, if_pos rfl] at hv
  rw [hr]
  obtain ⟨A, c, rfl, h1, h2, h3⟩ := hv
  refine ⟨A, c, rfl, h1, h2, ?_, hb⟩
  rcases h3 with h3 | ⟨g, ha, h4, h5, hc⟩
  · exact .inl h3
  · refine .inr ⟨g, ha, h4, h5, fun k hk => ⟨(hc k hk).1.trans ?_, (hc k hk).2⟩⟩
    have hk4 : k < 4 := hk
    rcases lt4 hk4 with rfl | rfl | rfl | rfl <;> rfl
theorem lstF_at {l : List FRw} {k : Nat} {r : FRw} (h : l[k]? = some r) : (lstF l).N k = 4 ∧ (lstF l).Z k = r.Z ∧ (lstF l).B k = r.B ∧ (lstF l).S k = r.S := by
  unfold lstF
  simp [List.getD, h]
set_option maxRecDepth 100000 in
set_option maxHeartbeats 8000000 in
theorem farless_any (A : Option Addr) (n c : Nat) (L : Lst) (v : Int) (w : World) (hn : n ≤ 9223372036854775806) (hA : Lins w A n L) (hN : ∀ k, k < n → L.N k ≤ 1048576) :
    Calls Try.prog 23 #[.slice A n c, .int .i64 v] w (LessP w (lessR n L v)) := by
  have hG := given_any A n c L w hn hA hN
  clear hA hN hn
  generalize hr : lessR n L v = R
  have HR := hid hr; clear hr
  cases hok : okS n L with
  | false =>
    have HF := hid (lessR_no1 (v := v) hok)
    rw [HR.out] at HF
    unfold GivenP at hG
    rw [hok] at hG
    clear hok
    go_enter Try.func23, Try.ntmps23
    go_wp2_with fail
    refine hG.mono ?_
    rintro e w1 ⟨x, rfl, hb, _, hx⟩
    obtain rfl := hx (by trivial)
    clear hG
    go_wp2
    go_ret2
    exact LessP.no HF.out hb
  | true =>
    have HOK := hid hok
    unfold GivenP at hG
    rw [hok] at hG
    clear hok
    by_cases h0 : v < 0
    · have HF := hid (lessR_no2 (n := n) (L := L) h0)
      rw [HR.out] at HF
      have d0 : decide (v < 0) = true := by simpa using h0
      clear h0
      go_enter Try.func23, Try.ntmps23
      go_wp2_with fail
      refine hG.mono ?_
      rintro e w1 ⟨x, rfl, hb, hx, _⟩
      obtain ⟨g, G, rfl, _⟩ := (hx (by trivial)).sl
      clear hG
      go_wp2
      go_ret2
      exact LessP.no HF.out hb
    have d0 : decide (v < 0) = false := by simp; omega
    by_cases h4 : 4 ≤ v
    · have HF := hid (lessR_no3 (n := n) (L := L) h4)
      rw [HR.out] at HF
      have d4 : decide (4 ≤ v) = true := by simpa using h4
      clear h4 h0
      go_enter Try.func23, Try.ntmps23
      go_wp2_with fail
      refine hG.mono ?_
      rintro e w1 ⟨x, rfl, hb, hx, _⟩
      obtain ⟨g, G, rfl, _⟩ := (hx (by trivial)).sl
      clear hG
      go_wp2
      go_ret2
      exact LessP.no HF.out hb
    obtain ⟨y, rfl⟩ : ∃ y : Nat, v = y := ⟨v.toNat, by omega⟩
    have hy : y < 4 := by omega
    have hn20 := (okS_iff.1 HOK.out).1
    clear h0 h4 d0
    go_enter Try.func23, Try.ntmps23
    go_wp2_with fail
    refine hG.mono ?_
    rintro e w1 ⟨x, rfl, hb, hx, _⟩
    obtain ⟨g, G, rfl, hS, hRw⟩ := (hx (by trivial)).sl
    clear hG hx
    have hE := elim_any (some ⟨g, 0, none⟩) n y n (givenF n L G) w1 hy hn20 (by rw [givenF_len]; omega) hS hRw (fun p hp => given_ok HOK.out p.2 (by rw [← givenF_map n L G]; exact List.mem_map_of_mem hp))
    unfold ElimP at hE
    rw [givenF_len, givenF_map] at hE
    have d1 : decide ((y : Int) < 0) = false := decide_eq_false (by omega)
    have d2 : decide (4 ≤ (y : Int)) = false := decide_eq_false (by omega)
    clear hS hRw
    go_wp2_with fail
    refine hE.mono ?_
    clear hE
    rintro e w2 ⟨A2, m, c2, qs, rfl, hb2, hq⟩
    cases hd : dropOk y (givenL n L) with
    | false =>
      have HF := hid (lessR_no4 hd)
      rw [HR.out] at HF
      clear hd hq
      go_wp2
      go_ret2
      exact LessP.no HF.out (btr hb hb2)
    | true =>
      have HF := hid (lessR_yes HOK.out hy hd)
      rw [HR.out] at HF
      obtain ⟨hmq, hS2, hR2, hM2⟩ := hq hd
      have hoks := hid (drop_ok hn20 hy (given_ok HOK.out) hd)
      rw [← hM2] at HF hoks
      have hm200 : m ≤ 200 := by
        have h1 := drop_len y (givenL n L)
        unfold dropOk at hd
        rw [Bool.and_eq_true, decide_eq_true_iff] at hd
        rw [← hM2, List.length_map] at h1
        omega
      have HMQ := hid hmq
      clear hd hq hM2 d1 d2 hmq
      have hmk := run_make_lins m (by omega)
      have hrow := rowIs_made3 w2 (m * 3) 28
      have hb0 : Below w.heap.size w (w2.alloc (.cells (madeCells #[.slice none 0 0, .int .i64 0, .bool false] (m * 3)) 28)) := bal (btr hb hb2) _
      have hb1 : Below w2.heap.size w2 (w2.alloc (.cells (madeCells #[.slice none 0 0, .int .i64 0, .bool false] (m * 3)) 28)) := bal (Below.refl _ _) _
      have hz2 := (btr hb hb2).size
      have HR2 := hid hR2
      clear hR2 hb2 hb
      go_wp2
      clear hmk
      go_loopw [39] (fun i wr => ∃ (k : Nat) (LA : Nat → Option Addr) (LC : Nat → Nat), k ≤ m ∧ i = .int .i64 k ∧ Below w.heap.size w wr ∧ Below w2.heap.size w2 wr ∧ wr.rowIs w2.heap.size 28 (m * 3) (fun j => if j < k * 3 then linV LA LC (lstF (qs.map Prod.snd)) j else zeroV j) ∧ ∀ i, i < k → (lstF (qs.map Prod.snd)).N i ≤ LC i ∧ LC i ≤ 9223372036854775807 ∧ (OwnI (w2.alloc (.cells #[] 28)) wr (LA i) ((lstF (qs.map Prod.snd)).N i) ((lstF (qs.map Prod.snd)).Z i)) ∧ ∀ j, j < i → (lstF (qs.map Prod.snd)).N j = 0 ∨ (lstF (qs.map Prod.snd)).N i = 0 ∨ LA j ≠ LA i) (fun i _ => m - (intOf i).toNat)
      case atStart => exact ⟨0, fun _ => none, fun _ => 0, Nat.zero_le _, rfl, hb0, hb1, hrow.congr fun i hi => by simp, fun i hi => by omega⟩
      case round =>
        obtain ⟨k, LA, LC, hk, rfl, hb, hb2, hr, ho⟩ := hrel
        have HO := hid ho; clear ho
        clear hrow hb0 hb1
        by_cases hlt : k < m
        · obtain ⟨⟨a, r⟩, hp⟩ : ∃ p, qs[k]? = some p := ⟨_, List.getElem?_eq_getElem (by have := HMQ.out; omega)⟩
          obtain ⟨hLN, hLZ, hLB, hLS⟩ := lstF_at (l := qs.map Prod.snd) (k := k) (r := r) (by rw [List.getElem?_map, hp]; rfl)
          have HLN := hid hLN; have HLZ := hid hLZ; have HLB := hid hLB; have HLS := hid hLS
          clear hLN hLZ hLB hLS
          have hrok := hoks.out r (List.mem_map_of_mem (f := Prod.snd) (List.mem_of_getElem? hp))
          have hRA := (HR2.out _ (List.mem_of_getElem? hp)).below hb2
          rcases hS2 with h0 | ⟨g2, off2, rfl, hg2, hcA⟩
          · rw [h0] at hp; cases hp
          have cp := carry hb2 (hcA k _ hp)
          unfold ptF at cp
          obtain ⟨c0, c1, c2', c3, c4, c5⟩ := fr_six hRA
          have lg := cell_lt cp
          have la := cell_lt c0
          have hS : w2.heap.size < wr.heap.size := hr.lt
          have hNR := narrow_row r hrok wr
          clear hcA hrok hRA hp
          go_wp2_with (go_at_call 51; refine hNR.mono ?_; rintro e w1 ⟨A3, c3', rfl, hc3, hc4, O3, hq⟩; have hr1 := row_below hr hq; have d0 : w1.cell? ⟨w2.heap.size, k * 3, none⟩ = some (.slice none 0 0) := ((hr1.cell (by omega)).trans (by rw [if_neg (by omega)]; unfold zeroV; rw [if_pos (by omega)])); have d1 : w1.cell? ⟨w2.heap.size, k * 3 + 1, none⟩ = some (.int .i64 0) := ((hr1.cell (by omega)).trans (by rw [if_neg (by omega)]; unfold zeroV; rw [if_neg (by omega), if_pos (by omega)])); have d2 : w1.cell? ⟨w2.heap.size, k * 3 + 2, none⟩ = some (.bool false) := ((hr1.cell (by omega)).trans (by rw [if_neg (by omega)]; unfold zeroV; rw [if_neg (by omega), if_neg (by omega)])); have e0 : w1.frozen? ⟨w2.heap.size, k * 3, none⟩ = false := hr1.frozen _; have e1 : w1.frozen? ⟨w2.heap.size, k * 3 + 1, none⟩ = false := hr1.frozen _; have e2 : w1.frozen? ⟨w2.heap.size, k * 3 + 2, none⟩ = false := hr1.frozen _)
          go_roundw
          case rel =>
            refine ⟨k + 1, fun i => if i = k then A3 else LA i, fun i => if i = k then c3' else LC i, by omega, by go_num, bst (bst (bst (btr hb hq) hz2 _) hz2 _) hz2 _, bst (bst (bst (btr hb2 hq) (Nat.le_refl _) _) (Nat.le_refl _) _) (Nat.le_refl _) _, (((hr1.set (k * 3) _).set (k * 3 + 1) _).set (k * 3 + 2) _).congr fun j hj => ?_, fun i hi => ?_⟩
            · by_cases ec : j = k * 3 + 2
              · subst ec; rw [if_pos rfl, if_pos (by omega), linV_2, HLS.out]
              · rw [if_neg ec]
                by_cases eb : j = k * 3 + 1
                · subst eb; rw [if_pos rfl, if_pos (by omega), linV_1, HLB.out]
                · rw [if_neg eb]
                  by_cases ea : j = k * 3
                  · subst ea; rw [if_pos rfl, if_pos (by omega), linV_0, HLN.out]; simp
                  · rw [if_neg ea]
                    by_cases e2 : j < k * 3
                    · rw [if_pos e2, if_pos (by omega), linV_old (by omega)]
                    · rw [if_neg e2, if_neg (by omega)]
            · by_cases e : i = k
              · subst e
                simp only [if_true]
                have O3' : OwnI wr w1 A3 ((lstF (qs.map Prod.snd)).N i) ((lstF (qs.map Prod.snd)).Z i) := by rw [HLN.out, HLZ.out]; exact O3
                refine ⟨by rw [HLN.out]; exact hc3, hc4, (((O3'.old (by simp; omega)).set _ (by simp)).set _ (by simp)).set _ (by simp), fun j hj => ?_⟩
                rw [if_neg (by omega)]
                exact apart_new (HO.out j hj).2.2.1 O3' (Nat.le_refl _)
              · simp only [if_neg e]
                obtain ⟨h1, h2, h3, h4⟩ := HO.out i (by omega)
                refine ⟨h1, h2, (((h3.below hq).set _ (by simp)).set _ (by simp)).set _ (by simp), fun j hj => ?_⟩
                rw [if_neg (by omega)]
                exact h4 j hj
          case measure => simp [intOf]; omega
        · have hke : k = m := by omega
          subst hke
          go_wp2
          go_ret2
          refine LessP.yes HF.out (by rw [List.length_map]; exact HMQ.out) hb ⟨w2.heap.size, LA, LC, rfl, by omega, hr.lt, hr.congr (fun j hj => by rw [if_pos hj]), fun i hi => ⟨(HO.out i hi).1, (HO.out i hi).2.1, (HO.out i hi).2.2.1.ownB.wider (by simp; omega) (Nat.le_refl _)⟩, fun i hi => ?_, fun i j hi hj => (HO.out j hj).2.2.2 i hi⟩
          rcases (HO.out i hi).2.2.1 with h0 | ⟨g, e, hg, _⟩
          · exact .inl h0
          · refine .inr fun e2 => ?_
            rw [e] at e2
            have := congrArg (fun x => (x.getD ⟨0, 0, none⟩).block) e2
            simp at this hg
            omega
end Go.Proofs.Ytplocljoanaoeaa
