/- Several texts in one: FrA, FrB, FrC, FrD, FrE, FrF, FrG, FrH. -/
import Derived.Test.YtplocljoanaoeaaBX
import Derived.Test.YtplocljoanaoeaaBM
import Derived.Test.YtplocljoanaoeaaFarF
import Derived.Test.YtplocljoanaoeaaB6
import Derived.Test.YtplocljoanaoeaaLinW
import Derived.Test.YtplocljoanaoeaaBY
import Derived.Test.YtplocljoanaoeaaPlanC
import Derived.Laws.EntriesVeiled
import Derived.Recover
namespace Go.Proofs.Ytplocljoanaoeaa
set_option linter.unusedVariables false
set_option linter.unusedSimpArgs false
open Go.RowKit
/-- the rest of a row behind its first k numbers, the v-th left out -/
def rstS (r : FRw) (v : Nat) (N D : Nat → Int) : Nat → Int × Int × Bool
  | 0 => (r.B, 1, true)
  | k + 1 => if k = v then rstS r v N D k else stepR (rstS r v N D k) (-(r.Z k)) (N k) (D k)
/-- what a row leaves as a bound of the v-th number -/
def bndR (r : FRw) (v : Nat) (N D : Nat → Int) : Int × Int × Bool :=
  if (rstS r v N D 4).2.2 = true then mulR (rstS r v N D 4).1 (rstS r v N D 4).2.1 (ofR 1 (r.Z v)).1 (ofR 1 (r.Z v)).2.1 else (0, 0, false)
/-- between what a number may be -/
structure Rm where
  lo : Option (Int × Int)
  hi : Option (Int × Int)
def Rm.lowHi (m : Rm) (x y : Int) : Rm := match m.hi with
  | none => ⟨m.lo, some (x, y)⟩
  | some h => if lessB x y h.1 h.2 = true then ⟨m.lo, some (x, y)⟩ else m
def Rm.raiseLo (m : Rm) (x y : Int) : Rm := match m.lo with
  | none => ⟨some (x, y), m.hi⟩
  | some h => if lessB h.1 h.2 x y = true then ⟨some (x, y), m.hi⟩ else m
def roomT (v : Nat) (N D : Nat → Int) (r : FRw) (m : Rm) : Option Rm :=
  if r.Z v = 0 then some m
  else if (bndR r v N D).2.2 = true then
    if 0 < r.Z v then some (m.lowHi (bndR r v N D).1 (bndR r v N D).2.1) else some (m.raiseLo (bndR r v N D).1 (bndR r v N D).2.1)
  else none
def roomS (v : Nat) (N D : Nat → Int) : List FRw → Rm → Option Rm
  | [], m => some m
  | r :: l, m => (roomT v N D r m).bind (roomS v N D l)
theorem roomS_app (v : Nat) (N D : Nat → Int) : ∀ (l l' : List FRw) (m : Rm), roomS v N D (l ++ l') m = (roomS v N D l m).bind (roomS v N D l')
  | [], l', m => rfl
  | r :: l, l', m => by
    show (roomT v N D r m).bind (roomS v N D (l ++ l')) = ((roomT v N D r m).bind (roomS v N D l)).bind (roomS v N D l')
    cases roomT v N D r m with
    | none => rfl
    | some m' => exact roomS_app v N D l l' m'
def rm0 : Rm := ⟨none, none⟩
theorem roomS_take {v k : Nat} {N D : Nat → Int} {l : List FRw} {r : FRw} (h : l[k]? = some r) : roomS v N D (l.take (k + 1)) rm0 = (roomS v N D (l.take k) rm0).bind (roomT v N D r) := by
  rw [List.take_add_one, h, roomS_app]
  congr 1
  funext m
  show (roomT v N D r m).bind (roomS v N D []) = _
  cases roomT v N D r m <;> rfl
theorem roomS_none {v k : Nat} {N D : Nat → Int} {l : List FRw} (h : roomS v N D (l.take k) rm0 = none) : roomS v N D l rm0 = none := by
  rw [← List.take_append_drop k l, roomS_app, h]; rfl
/-- a number between ends -/
def pickR (m : Rm) : Int × Int × Bool := match m.lo, m.hi with
  | some a, some b => midR a.1 a.2 b.1 b.2
  | none, some b => addR b.1 b.2 (-1) 1
  | some a, none => addR a.1 a.2 1 1
  | none, none => (0, 1, true)
/-- the rows, j numbers being left out -/
def rowsE (l : List FRw) : Nat → List FRw
  | 0 => l
  | j + 1 => dropL (3 - j) (rowsE l j)
def okE (l : List FRw) : Nat → Bool
  | 0 => true
  | j + 1 => okE l j && dropOk (3 - j) (rowsE l j)
def updV (F : Nat → Int) (k : Nat) (x : Int) : Nat → Int := fun i => if i = k then x else F i
/-- the first k numbers chosen, by the rows in which just these count -/
def backV (l : List FRw) : Nat → Option ((Nat → Int) × (Nat → Int))
  | 0 => some (fun _ => 0, fun _ => 1)
  | k + 1 => match backV l k with
    | none => none
    | some V => match roomS k V.1 V.2 (rowsE l (3 - k)) rm0 with
      | none => none
      | some m => if (pickR m).2.2 = true then some (updV V.1 k (pickR m).1, updV V.2 k (pickR m).2.1) else none
def badF (r : FRw) : Bool := badB 4 r.Z r.B r.S
/-- how FarRun ends, and with what -/
inductive FarE where
  | yes (N D : Nat → Int)
  | no (U : Nat → Int)
  | much
  | form
def runE (n : Nat) (L : Lst) : FarE :=
  if okS n L = false then .form
  else if okE (givenL n L) 4 = false then .much
  else match (rowsE (givenL n L) 4).find? badF with
    | some r => if farOkB (farS n L n r.U) = true then .no r.U else .much
    | none => match backV (givenL n L) 4 with
      | none => .much
      | some V => if allB n L 4 V.1 V.2 = true then .yes V.1 V.2 else .much
theorem okE_le {l : List FRw} {i j : Nat} (h : okE l j = true) (hi : i ≤ j) : okE l i = true := by
  induction j with
  | zero => have : i = 0 := by omega
            subst this; exact h
  | succ j ih =>
    by_cases e : i = j + 1
    · subst e; exact h
    · exact ih (by unfold okE at h; rw [Bool.and_eq_true] at h; exact h.1) (by omega)
theorem okE_no {l : List FRw} {i j : Nat} (h : okE l i = false) (hi : i ≤ j) : okE l j = false := by
  cases e : okE l j with
  | false => rfl
  | true => rw [okE_le e hi] at h; cases h
theorem rowsE_ok {n : Nat} {l : List FRw} (hn : n ≤ 20) (hl : ∀ r ∈ l, r.ok n) : ∀ j, j ≤ 4 → okE l j = true → ∀ r ∈ rowsE l j, r.ok n
  | 0, _, _ => hl
  | j + 1, hj, h => by
    have h2 := h
    unfold okE at h2
    rw [Bool.and_eq_true] at h2
    exact drop_ok hn (by omega) (rowsE_ok hn hl j (by omega) h2.1) h2.2
theorem rowsE_len {l : List FRw} (hl : l.length ≤ 200) : ∀ j, okE l j = true → (rowsE l j).length ≤ 200
  | 0, _ => hl
  | j + 1, h => by
    unfold okE at h
    rw [Bool.and_eq_true] at h
    have h1 := h.2
    unfold dropOk at h1
    rw [Bool.and_eq_true, decide_eq_true_iff] at h1
    show (dropL (3 - j) (rowsE l j)).length ≤ 200
    rw [drop_len]
    exact h1.1
theorem ofR_one {z : Int} (h0 : z ≠ 0) (h1 : -1000000 ≤ z ∧ z ≤ 1000000) : (ofR 1 z).2.2 = true := by
  have hg : ∀ d : Int, Int.gcd 1 d = 1 := fun d => Int.one_gcd
  have hg2 : ∀ d : Int, Int.gcd (-1) d = 1 := fun d => by rw [Int.neg_gcd]; exact Int.one_gcd
  unfold ofR
  rw [if_neg (by omega)]
  by_cases hz : z < 0
  · rw [if_pos hz]
    unfold leastR
    rw [hg2]
    rw [if_pos (by simp; omega)]
  · rw [if_neg hz]
    unfold leastR
    rw [hg]
    rw [if_pos (by simp; omega)]
theorem stepR_no1 {s : Int × Int × Bool} {z n d : Int} (h : (mulR z 1 n d).2.2 = false) : (stepR s z n d).2.2 = false := by
  unfold stepR; rw [if_neg (by rw [h]; simp)]
theorem stepR_yes {x y : Int} {z n d p q : Int} (hm : mulR z 1 n d = (p, q, true)) : stepR (x, y, true) z n d = addR x y p q := by
  unfold stepR; rw [hm]; simp
theorem mulR_cases' (a b c d : Int) : (mulR a b c d).2.2 = false ∨ ∃ p q, mulR a b c d = (p, q, true) := by
  cases e : (mulR a b c d).2.2 with
  | false => exact .inl rfl
  | true => exact .inr ⟨(mulR a b c d).1, (mulR a b c d).2.1, by rw [← e]⟩
theorem addR_cases' (a b c d : Int) : (addR a b c d).2.2 = false ∨ ∃ p q, addR a b c d = (p, q, true) := by
  cases e : (addR a b c d).2.2 with
  | false => exact .inl rfl
  | true => exact .inr ⟨(addR a b c d).1, (addR a b c d).2.1, by rw [← e]⟩
theorem rstS_no {r : FRw} {v k m : Nat} {N D : Nat → Int} (h : (rstS r v N D k).2.2 = false) (hk : k ≤ m) : (rstS r v N D m).2.2 = false := by
  induction m with
  | zero => have : k = 0 := by omega
            subst this; exact h
  | succ m ih =>
    by_cases e : k = m + 1
    · subst e; exact h
    · have h2 := ih (by omega)
      unfold rstS
      by_cases e2 : m = v
      · rw [if_pos e2]; exact h2
      · rw [if_neg e2]; unfold stepR; rw [if_neg (by rw [h2]; simp)]
theorem bndR_no {r : FRw} {v k : Nat} {N D : Nat → Int} (h : (rstS r v N D k).2.2 = false) (hk : k ≤ 4) : bndR r v N D = (0, 0, false) := by
  unfold bndR; rw [if_neg (by rw [rstS_no h hk]; simp)]
theorem bndR_yes {r : FRw} {v : Nat} {N D : Nat → Int} {x y : Int} (h : rstS r v N D 4 = (x, y, true)) : bndR r v N D = mulR x y (ofR 1 (r.Z v)).1 (ofR 1 (r.Z v)).2.1 := by
  unfold bndR; rw [h]; simp
end Go.Proofs.Ytplocljoanaoeaa

namespace Go.Proofs.Ytplocljoanaoeaa
set_option linter.unusedVariables false
set_option linter.unusedSimpArgs false
open Go.RowKit
/-- at the loop's head: the result still empty, the rest -/
def BdS (w : World) (r : FRw) (v : Nat) (N D : Nat → Int) (k : Nat) (wr : World) : Prop :=
  Below w.heap.size w wr ∧ wr.cell? ⟨w.heap.size, 0, none⟩ = some (.int .i64 0) ∧ wr.cell? ⟨w.heap.size, 1, none⟩ = some (.int .i64 0) ∧ wr.frozen? ⟨w.heap.size, 0, none⟩ = false ∧ wr.frozen? ⟨w.heap.size, 1, none⟩ = false ∧
  wr.frozen? ⟨w.heap.size + 1, 0, none⟩ = false ∧ wr.frozen? ⟨w.heap.size + 1, 1, none⟩ = false ∧
  ∃ x y, rstS r v N D k = (x, y, true) ∧ wr.cell? ⟨w.heap.size + 1, 0, none⟩ = some (.int .i64 x) ∧ wr.cell? ⟨w.heap.size + 1, 1, none⟩ = some (.int .i64 y)
theorem rst_skip {r : FRw} {v k : Nat} {N D : Nat → Int} (h : k = v) : rstS r v N D (k + 1) = rstS r v N D k := by
  show (if k = v then _ else _) = _; rw [if_pos h]
theorem rst_step {r : FRw} {v k : Nat} {N D : Nat → Int} (h : k ≠ v) : rstS r v N D (k + 1) = stepR (rstS r v N D k) (-(r.Z k)) (N k) (D k) := by
  show (if k = v then _ else _) = _; rw [if_neg h]
set_option maxRecDepth 100000 in
set_option maxHeartbeats 8000000 in
theorem bound_any (a v n : Nat) (r : FRw) (V : Option Addr) (c : Nat) (N D : Nat → Int) (w : World) (hv : v < 4) (ha : RowA w a r) (ok : r.ok n) (hA : Rats w V 4 N D) :
    Calls Try.prog 112 #[.pointer (some ⟨a, 0, none⟩), .int .i64 v, .slice V 4 c] w (AtP w (bndR r v N D)) := by
  have HZ := hid (fun k (h : k < 4) => ok.z h)
  obtain ⟨zv1, zv2⟩ := ok.z hv
  have HRA := hid ha
  have cb : w.cell? ⟨a, 4, none⟩ = some (.int .i64 r.B) := (fr_six ha).2.2.2.2.1
  have la := cell_lt cb
  have hst : BdS w r v N D 0 ((w.alloc (.cells #[.int .i64 0, .int .i64 0] 52)).alloc (.cells #[.int .i64 r.B, .int .i64 1] 52)) := by
    refine ⟨bal (bal (Below.refl _ _) _) _, ?_, ?_, ?_, ?_, ?_, ?_, r.B, 1, rfl, ?_, ?_⟩ <;> simp [go_sem]
  obtain ⟨a0, a1, a2, a3, _, _⟩ := fr_six ha
  clear ha ok
  go_enter Try.func112, Try.ntmps112
  go_wp2
  clear cb a0 a1 a2 a3 la
  go_loopw [26] (fun i wr => ∃ k : Nat, k ≤ 4 ∧ i = .int .i64 k ∧ BdS w r v N D k wr) (fun i _ => 4 - (intOf i).toNat)
  case atStart => exact ⟨0, Nat.zero_le _, rfl, hst⟩
  case round =>
    obtain ⟨k, hk, rfl, hb, r0, r1, f0, f1, g0, g1, x, y, hs, s0, s1⟩ := hrel
    clear hst
    have HS := hid hs; clear hs
    by_cases hlt : k < 4
    · have ik : ∀ W, (Instr.index 72 (.agg #[.int .i64 (r.Z 0), .int .i64 (r.Z 1), .int .i64 (r.Z 2), .int .i64 (r.Z 3)]) (.int .i64 (k : Int))).run Try.prog W = .ok (.int .i64 (r.Z k)) W := by
        intro W
        rcases lt4 hlt with rfl | rfl | rfl | rfl
        · exact idx0 _ _ _ _ W
        · exact idx1 _ _ _ _ W
        · exact idx2 _ _ _ _ W
        · exact idx3 _ _ _ _ W
      by_cases hkv : k = v
      · have dk : ((k : Int) == (v : Int)) = true := by simp; omega
        have HSK := hid (rst_skip (r := r) (N := N) (D := D) hkv)
        clear hkv
        have l0 := cell_lt r0
        go_wp2
        go_roundw
        case rel => exact ⟨k + 1, by omega, by go_num, hb, r0, r1, f0, f1, g0, g1, x, y, by rw [HSK.out]; exact HS.out, s0, s1⟩
        case measure => simp [intOf]; omega
      have dk : ((k : Int) == (v : Int)) = false := by simp; omega
      have HSK := hid (rst_step (r := r) (N := N) (D := D) hkv)
      clear hkv
      obtain ⟨z1, z2⟩ := HZ.out k hlt
      rcases hA with h0 | ⟨g, off, rfl, hg, hcA⟩
      · omega
      have gg : g < wr.heap.size := Nat.lt_of_lt_of_le hg hb.size
      have a0 : wr.cell? ⟨g, off + k * 2, none⟩ = some (.int .i64 (N k)) := carry hb (hcA k hlt).1
      have a1 : wr.cell? ⟨g, off + k * 2 + 1, none⟩ = some (.int .i64 (D k)) := carry hb (hcA k hlt).2
      clear hcA
      have hM := fun W => rmul_any (-(r.Z k)) 1 (N k) (D k) W
      rcases mulR_cases (-(r.Z k)) 1 (N k) (D k) with hm | ⟨p, q, hm⟩
      · have HF := hid (bndR_no (r := r) (v := v) (N := N) (D := D) (k := k + 1) (by rw [HSK.out]; exact stepR_no1 (by rw [hm])) (by omega))
        rw [hm] at hM; clear hm
        simp only at hM
        go_wp2_with (go_at_call 78; refine (hM _).mono ?_; rintro e w1 ⟨rfl, hq⟩; replace f0 := carryf hq f0 (cell_lt r0); replace f1 := carryf hq f1 (cell_lt r1); replace g0 := carryf hq g0 (cell_lt s0); replace g1 := carryf hq g1 (cell_lt s1); replace r0 := carry hq r0; replace r1 := carry hq r1; replace s0 := carry hq s0; replace s1 := carry hq s1; have l0 := cell_lt r0; have l1 := cell_lt s0; replace hb := btr hb hq)
        obtain ⟨t0, t1⟩ := set2 r0 r1 (.int .i64 0) (.int .i64 0)
        replace t0 := carryA (.cells #[.int .i64 0, .int .i64 0] 52) t0
        replace t1 := carryA (.cells #[.int .i64 0, .int .i64 0] 52) t1
        refine bodyPost_ret (v := .tuple #[.agg #[.int .i64 0, .int .i64 0], .bool false]) (by simp [results, Try.results112, go_sem, t0, t1]) rfl (AtP.mk HF.out ?_)
        exact bal (bst (bst hb (by simp <;> omega) _) (by simp <;> omega) _) _
      · rw [hm] at hM
        simp only at hM
        have hS := fun W => radd_any x y p q W
        rcases addR_cases x y p q with ha | ⟨u, v', ha⟩
        · have HF := hid (bndR_no (r := r) (v := v) (N := N) (D := D) (k := k + 1) (by rw [HSK.out, HS.out, stepR_yes hm, ha]) (by omega))
          rw [ha] at hS; clear ha hm
          simp only at hS
          go_wp2_with (first | (go_at_call 78; refine (hM _).mono ?_; rintro e w1 ⟨rfl, hq⟩; replace f0 := carryf hq f0 (cell_lt r0); replace f1 := carryf hq f1 (cell_lt r1); replace g0 := carryf hq g0 (cell_lt s0); replace g1 := carryf hq g1 (cell_lt s1); replace r0 := carry hq r0; replace r1 := carry hq r1; replace s0 := carry hq s0; replace s1 := carry hq s1; have l0 := cell_lt r0; have l1 := cell_lt s0; replace hb := btr hb hq) | (go_at_call 79; refine (hS _).mono ?_; rintro e w2 ⟨rfl, hq2⟩; replace f0 := carryf hq2 (carryAf2 _ r0 f0) (cell_lt (carryA _ r0)); replace f1 := carryf hq2 (carryAf2 _ r1 f1) (cell_lt (carryA _ r1)); replace g0 := carryf hq2 (carryAf2 _ s0 g0) (cell_lt (carryA _ s0)); replace g1 := carryf hq2 (carryAf2 _ s1 g1) (cell_lt (carryA _ s1)); replace r0 := carry hq2 (carryA _ r0); replace r1 := carry hq2 (carryA _ r1); replace s0 := carry hq2 (carryA _ s0); replace s1 := carry hq2 (carryA _ s1); replace hb := btr (bal hb _) hq2))
          obtain ⟨t0, t1⟩ := set2 (far2 (.int .i64 0) (.int .i64 0) (p := w.heap.size + 1) (by omega) r0) (far2 (.int .i64 0) (.int .i64 0) (p := w.heap.size + 1) (by omega) r1) (.int .i64 0) (.int .i64 0)
          refine bodyPost_ret (v := .tuple #[.agg #[.int .i64 0, .int .i64 0], .bool false]) (by simp [results, Try.results112, go_sem, t0, t1]) rfl (AtP.mk HF.out ?_)
          exact bst (bst (bst (bst hb (by simp <;> omega) _) (by simp <;> omega) _) (by simp <;> omega) _) (by simp <;> omega) _
        · have HS2 := hid (show rstS r v N D (k + 1) = (u, v', true) by rw [HSK.out, HS.out, stepR_yes hm, ha])
          rw [ha] at hS; clear ha hm
          simp only at hS
          go_wp2_with (first | (go_at_call 78; refine (hM _).mono ?_; rintro e w1 ⟨rfl, hq⟩; replace f0 := carryf hq f0 (cell_lt r0); replace f1 := carryf hq f1 (cell_lt r1); replace g0 := carryf hq g0 (cell_lt s0); replace g1 := carryf hq g1 (cell_lt s1); replace r0 := carry hq r0; replace r1 := carry hq r1; replace s0 := carry hq s0; replace s1 := carry hq s1; have l0 := cell_lt r0; have l1 := cell_lt s0; replace hb := btr hb hq) | (go_at_call 79; refine (hS _).mono ?_; rintro e w2 ⟨rfl, hq2⟩; replace f0 := carryf hq2 (carryAf2 _ r0 f0) (cell_lt (carryA _ r0)); replace f1 := carryf hq2 (carryAf2 _ r1 f1) (cell_lt (carryA _ r1)); replace g0 := carryf hq2 (carryAf2 _ s0 g0) (cell_lt (carryA _ s0)); replace g1 := carryf hq2 (carryAf2 _ s1 g1) (cell_lt (carryA _ s1)); replace r0 := carry hq2 (carryA _ r0); replace r1 := carry hq2 (carryA _ r1); replace s0 := carry hq2 (carryA _ s0); replace s1 := carry hq2 (carryA _ s1); replace hb := btr (bal hb _) hq2))
          go_roundw
          case rel =>
            obtain ⟨t0, t1⟩ := set2 s0 s1 (.int .i64 u) (.int .i64 v')
            exact ⟨k + 1, by omega, by go_num, bst (bst hb (by simp <;> omega) _) (by simp <;> omega) _, far2 _ _ (by omega) r0, far2 _ _ (by omega) r1, frz2 _ _ f0, frz2 _ _ f1, frz2 _ _ g0, frz2 _ _ g1, u, v', HS2.out, t0, t1⟩
          case measure => simp [intOf]; omega
    · have hke : k = 4 := by omega
      subst hke
      have HF := hid (bndR_yes HS.out)
      have cv := carry hb (fr_z HRA.out hv)
      have lcv := cell_lt cv
      have hO := fun W => rof_any 1 (r.Z v) W
      obtain ⟨⟨ox, oy, oo⟩, ho⟩ : ∃ o, o = ofR 1 (r.Z v) := ⟨_, rfl⟩
      rw [← ho] at hO HF
      clear ho
      simp only at hO HF
      have hM := fun W => rmul_any x y ox oy W
      obtain ⟨⟨mx, my, mo⟩, hmm⟩ : ∃ o, o = mulR x y ox oy := ⟨_, rfl⟩
      rw [← hmm] at hM HF
      clear hmm
      simp only at hM
      go_wp2_with (first | (go_at_call 116; refine (hO _).mono ?_; rintro e w1 ⟨rfl, hq⟩; replace f0 := carryf hq f0 (cell_lt r0); replace f1 := carryf hq f1 (cell_lt r1); replace r0 := carry hq r0; replace r1 := carry hq r1; replace s0 := carry hq s0; replace s1 := carry hq s1; have l0 := cell_lt r0; have l1 := cell_lt s0; replace hb := btr hb hq) | (go_at_call 78; refine (hM _).mono ?_; rintro e w2 ⟨rfl, hq2⟩; replace f0 := carryf hq2 (carryAf2 _ r0 f0) (cell_lt (carryA _ r0)); replace f1 := carryf hq2 (carryAf2 _ r1 f1) (cell_lt (carryA _ r1)); replace r0 := carry hq2 (carryA _ r0); replace r1 := carry hq2 (carryA _ r1); have l2 := cell_lt r0; replace hb := btr (bal hb _) hq2))
      obtain ⟨t0, t1⟩ := set2 r0 r1 (.int .i64 mx) (.int .i64 my)
      refine bodyPost_ret (v := .tuple #[.agg #[.int .i64 mx, .int .i64 my], .bool mo]) (by simp [results, Try.results112, go_sem, t0, t1]) rfl (AtP.mk HF.out ?_)
      exact bst (bst hb (by simp <;> omega) _) (by simp <;> omega) _
end Go.Proofs.Ytplocljoanaoeaa

namespace Go.Proofs.Ytplocljoanaoeaa
set_option linter.unusedVariables false
set_option linter.unusedSimpArgs false
open Go.RowKit
/-- a pointer to a fraction, or none -/
def PtQ (w : World) (p : Option Addr) : Option (Int × Int) → Prop
  | none => p = none
  | some q => ∃ g, p = some ⟨g, 0, none⟩ ∧ w.cell? ⟨g, 0, none⟩ = some (.int .i64 q.1) ∧ w.cell? ⟨g, 1, none⟩ = some (.int .i64 q.2)
/-- where a value may be, in block b -/
def RmA (w : World) (b : Nat) (m : Rm) : Prop :=
  ∃ p q, w.cell? ⟨b, 0, none⟩ = some (.pointer p) ∧ w.cell? ⟨b, 1, none⟩ = some (.pointer q) ∧ PtQ w p m.lo ∧ PtQ w q m.hi ∧ w.frozen? ⟨b, 0, none⟩ = false ∧ w.frozen? ⟨b, 1, none⟩ = false
theorem PtQ.below {w w' : World} {p : Option Addr} {q : Option (Int × Int)} (h : PtQ w p q) (hb : Below w.heap.size w w') : PtQ w' p q := by
  cases q with
  | none => exact h
  | some q => obtain ⟨g, e, h0, h1⟩ := h
              exact ⟨g, e, carry hb h0, carry hb h1⟩
theorem RmA.below {w w' : World} {b : Nat} {m : Rm} (h : RmA w b m) (hb : Below w.heap.size w w') : RmA w' b m := by
  obtain ⟨p, q, h0, h1, h2, h3, h4, h5⟩ := h
  exact ⟨p, q, carry hb h0, carry hb h1, h2.below hb, h3.below hb, carryf hb h4 (cell_lt h0), carryf hb h5 (cell_lt h1)⟩
theorem PtQ.set {w : World} {b o : Nat} {p x : Option Addr} {q : Option (Int × Int)} {u : Value} (h : PtQ w p q) (hb : w.cell? ⟨b, 0, none⟩ = some (.pointer x)) : PtQ (w.setCell ⟨b, o, none⟩ u) p q := by
  cases q with
  | none => exact h
  | some q =>
    obtain ⟨g, e, h0, h1⟩ := h
    have hne : g ≠ b := fun e => by subst e; rw [h0] at hb; cases hb
    refine ⟨g, e, ?_, ?_⟩
    · rw [World.cell?_setCell_other _ _ _ _ (by simp [hne])]; exact h0
    · rw [World.cell?_setCell_other _ _ _ _ (by simp [hne])]; exact h1
theorem PtQ.new (w : World) (x y : Int) (t : TypeId) : PtQ (w.alloc (.cells #[.int .i64 x, .int .i64 y] t)) (some ⟨w.heap.size, 0, none⟩) (some (x, y)) := ⟨_, rfl, by simp [go_sem], by simp [go_sem]⟩
theorem RmA.setHi {w : World} {b : Nat} {m : Rm} {x y : Int} {p : Option Addr} (h : RmA w b m) (hp : PtQ w p (some (x, y))) : RmA (w.setCell ⟨b, 1, none⟩ (.pointer p)) b ⟨m.lo, some (x, y)⟩ := by
  obtain ⟨p0, q0, h0, h1, h2, h3, h4, h5⟩ := h
  refine ⟨p0, p, ?_, World.cell?_setCell_same _ _ _ h1, h2.set h0, hp.set h0, by simpa [go_sem] using h4, by simpa [go_sem] using h5⟩
  rw [World.cell?_setCell_other _ _ _ _ (by simp)]; exact h0
theorem RmA.setLo {w : World} {b : Nat} {m : Rm} {x y : Int} {p : Option Addr} (h : RmA w b m) (hp : PtQ w p (some (x, y))) : RmA (w.setCell ⟨b, 0, none⟩ (.pointer p)) b ⟨some (x, y), m.hi⟩ := by
  obtain ⟨p0, q0, h0, h1, h2, h3, h4, h5⟩ := h
  refine ⟨p, q0, World.cell?_setCell_same _ _ _ h0, ?_, hp.set h0, h3.set h0, by simpa [go_sem] using h4, by simpa [go_sem] using h5⟩
  rw [World.cell?_setCell_other _ _ _ _ (by simp)]; exact h1

theorem lowHi_none {m : Rm} {x y : Int} (h : m.hi = none) : m.lowHi x y = ⟨m.lo, some (x, y)⟩ := by unfold Rm.lowHi; rw [h]
theorem lowHi_yes {m : Rm} {x y : Int} {h : Int × Int} (e : m.hi = some h) (k : lessB x y h.1 h.2 = true) : m.lowHi x y = ⟨m.lo, some (x, y)⟩ := by unfold Rm.lowHi; rw [e]; simp only; rw [if_pos k]
theorem lowHi_no {m : Rm} {x y : Int} {h : Int × Int} (e : m.hi = some h) (k : lessB x y h.1 h.2 = false) : m.lowHi x y = m := by unfold Rm.lowHi; rw [e]; simp only; rw [if_neg (by rw [k]; simp)]
set_option maxRecDepth 100000 in
set_option maxHeartbeats 4000000 in
theorem lowerhigh_any (b : Nat) (m : Rm) (x y : Int) (w : World) (h : RmA w b m) :
    Calls Try.prog 113 #[.pointer (some ⟨b, 0, none⟩), .agg #[.int .i64 x, .int .i64 y]] w fun e w' => e = .returned (.tuple #[]) ∧ RmA w' b (m.lowHi x y) ∧ w.grownBy w' (some b) := by
  have al := bal (Below.refl w.heap.size w) (.cells #[.int .i64 x, .int .i64 y] 52)
  have hA := h.below al
  have HA := hid hA
  have hN := PtQ.new w x y 52
  have HN := hid hN
  have c30 : (w.alloc (.cells #[.int .i64 x, .int .i64 y] 52)).cell? ⟨w.heap.size, 0, none⟩ = some (.int .i64 x) := by simp [go_sem]
  have c31 : (w.alloc (.cells #[.int .i64 x, .int .i64 y] 52)).cell? ⟨w.heap.size, 1, none⟩ = some (.int .i64 y) := by simp [go_sem]
  have l3 : w.heap.size < (w.alloc (.cells #[.int .i64 x, .int .i64 y] 52)).heap.size := by simp
  have hg0 := World.grownBy_alloc w (.cells #[.int .i64 x, .int .i64 y] 52) (some b)
  obtain ⟨p, q, h0, h1, h2, h3, h4, h5⟩ := hA
  have lb := cell_lt h0
  clear h al hN
  cases ehi : m.hi with
  | none =>
    have HF := hid (lowHi_none (x := x) (y := y) ehi)
    rw [ehi] at h3
    obtain rfl : q = none := h3
    clear ehi h2
    go_enter Try.func113, Try.ntmps113
    go_upto_region 1 with fail
    generalize w.alloc (.cells #[.int .i64 x, .int .i64 y] 52) = w1 at *
    go_quiet (fail)
    have qd : Below w1.heap.size w1 (w1.drewN nq) := bdn (Below.refl _ _) nq
    replace h0 := carry qd h0
    replace h1 := carry qd h1
    replace h4 := carryf qd h4 lb
    replace h5 := carryf qd h5 lb
    have HA2 := hid (HA.out.below qd)
    have HN2 := hid (HN.out.below qd)
    have hg1 : w.grownBy (w1.drewN nq) (some b) := grow_trans hg0 ⟨qd.os, qd.tape, qd.output, qd.size, fun k hk _ => qd.block k hk⟩
    have lb2 := cell_lt h0
    clear HA HN c30 c31 qd hg0 l3 lb
    generalize w1.drewN nq = w2 at *
    go_wp2
    go_end0
    refine ⟨rfl, ?_, grow_trans hg1 (grow_set _ b 1 _)⟩
    rw [HF.out]
    exact HA2.out.setHi HN2.out
  | some hq =>
    obtain ⟨u, v⟩ := hq
    rw [ehi] at h3
    obtain ⟨g, rfl, k0, k1⟩ := h3
    simp only at k0 k1
    have lg := cell_lt k0
    have hL := fun W => rless_any x y u v W
    have HY := hid (fun k => lowHi_yes (x := x) (y := y) ehi k)
    have HNo := hid (fun k => lowHi_no (x := x) (y := y) ehi k)
    simp only at HY HNo
    clear ehi h2
    generalize lessB x y u v = lv at hL HY HNo
    go_enter Try.func113, Try.ntmps113
    go_upto_region 1 with fail
    generalize w.alloc (.cells #[.int .i64 x, .int .i64 y] 52) = w1 at *
    have gc := @gro_cell w1
    refine wp_region_grow_lit (by kernel_rfl) (by kernel_rfl) ?_
    repeat (go_big_quiet_step ((go_at_call 48; exact grow_call _ (hL _))))
    refine wpQuiet_nil ?_
    rintro w2 ⟨⟨w2, qd⟩, rfl⟩
    simp only [gro] at *
    replace h0 := carry qd h0
    replace h1 := carry qd h1
    replace h4 := carryf qd h4 lb
    replace h5 := carryf qd h5 lb
    have HA2 := hid (HA.out.below qd)
    have HN2 := hid (HN.out.below qd)
    have hg1 : w.grownBy w2 (some b) := grow_trans hg0 ⟨qd.os, qd.tape, qd.output, qd.size, fun k hk _ => qd.block k hk⟩
    have lb2 := cell_lt h0
    clear HA HN c30 c31 qd hg0 l3 lb gc k0 k1 lg hL
    cases lv with
    | true =>
      have HF := hid (HY.out rfl)
      clear HY HNo
      go_wp2
      go_end0
      refine ⟨rfl, ?_, grow_trans hg1 (grow_set _ b 1 _)⟩
      rw [HF.out]
      exact HA2.out.setHi HN2.out
    | false =>
      have HF := hid (HNo.out rfl)
      clear HY HNo
      go_wp2
      go_end0
      refine ⟨rfl, ?_, hg1⟩
      rw [HF.out]
      exact HA2.out

theorem raiseLo_none {m : Rm} {x y : Int} (h : m.lo = none) : m.raiseLo x y = ⟨some (x, y), m.hi⟩ := by unfold Rm.raiseLo; rw [h]
theorem raiseLo_yes {m : Rm} {x y : Int} {h : Int × Int} (e : m.lo = some h) (k : lessB h.1 h.2 x y = true) : m.raiseLo x y = ⟨some (x, y), m.hi⟩ := by unfold Rm.raiseLo; rw [e]; simp only; rw [if_pos k]
theorem raiseLo_no {m : Rm} {x y : Int} {h : Int × Int} (e : m.lo = some h) (k : lessB h.1 h.2 x y = false) : m.raiseLo x y = m := by unfold Rm.raiseLo; rw [e]; simp only; rw [if_neg (by rw [k]; simp)]
set_option maxRecDepth 100000 in
set_option maxHeartbeats 4000000 in
theorem raiselow_any (b : Nat) (m : Rm) (x y : Int) (w : World) (h : RmA w b m) :
    Calls Try.prog 114 #[.pointer (some ⟨b, 0, none⟩), .agg #[.int .i64 x, .int .i64 y]] w fun e w' => e = .returned (.tuple #[]) ∧ RmA w' b (m.raiseLo x y) ∧ w.grownBy w' (some b) := by
  have al := bal (Below.refl w.heap.size w) (.cells #[.int .i64 x, .int .i64 y] 52)
  have hA := h.below al
  have HA := hid hA
  have hN := PtQ.new w x y 52
  have HN := hid hN
  have c30 : (w.alloc (.cells #[.int .i64 x, .int .i64 y] 52)).cell? ⟨w.heap.size, 0, none⟩ = some (.int .i64 x) := by simp [go_sem]
  have c31 : (w.alloc (.cells #[.int .i64 x, .int .i64 y] 52)).cell? ⟨w.heap.size, 1, none⟩ = some (.int .i64 y) := by simp [go_sem]
  have l3 : w.heap.size < (w.alloc (.cells #[.int .i64 x, .int .i64 y] 52)).heap.size := by simp
  have hg0 := World.grownBy_alloc w (.cells #[.int .i64 x, .int .i64 y] 52) (some b)
  obtain ⟨p, q, h0, h1, h2, h3, h4, h5⟩ := hA
  have lb := cell_lt h0
  clear h al hN
  cases elo : m.lo with
  | none =>
    have HF := hid (raiseLo_none (x := x) (y := y) elo)
    rw [elo] at h2
    obtain rfl : p = none := h2
    clear elo h3
    go_enter Try.func114, Try.ntmps114
    go_upto_region 1 with fail
    generalize w.alloc (.cells #[.int .i64 x, .int .i64 y] 52) = w1 at *
    go_quiet (fail)
    have qd : Below w1.heap.size w1 (w1.drewN nq) := bdn (Below.refl _ _) nq
    replace h0 := carry qd h0
    replace h1 := carry qd h1
    replace h4 := carryf qd h4 lb
    replace h5 := carryf qd h5 lb
    have HA2 := hid (HA.out.below qd)
    have HN2 := hid (HN.out.below qd)
    have hg1 : w.grownBy (w1.drewN nq) (some b) := grow_trans hg0 ⟨qd.os, qd.tape, qd.output, qd.size, fun k hk _ => qd.block k hk⟩
    have lb2 := cell_lt h0
    clear HA HN c30 c31 qd hg0 l3 lb
    generalize w1.drewN nq = w2 at *
    go_wp2
    go_end0
    refine ⟨rfl, ?_, grow_trans hg1 (grow_set _ b 0 _)⟩
    rw [HF.out]
    exact HA2.out.setLo HN2.out
  | some hq =>
    obtain ⟨u, v⟩ := hq
    rw [elo] at h2
    obtain ⟨g, rfl, k0, k1⟩ := h2
    simp only at k0 k1
    have lg := cell_lt k0
    have hL := fun W => rless_any u v x y W
    have HY := hid (fun k => raiseLo_yes (x := x) (y := y) elo k)
    have HNo := hid (fun k => raiseLo_no (x := x) (y := y) elo k)
    simp only at HY HNo
    clear elo h3
    generalize lessB u v x y = lv at hL HY HNo
    go_enter Try.func114, Try.ntmps114
    go_upto_region 1 with fail
    generalize w.alloc (.cells #[.int .i64 x, .int .i64 y] 52) = w1 at *
    have gc := @gro_cell w1
    refine wp_region_grow_lit (by kernel_rfl) (by kernel_rfl) ?_
    repeat (go_big_quiet_step ((go_at_call 48; exact grow_call _ (hL _))))
    refine wpQuiet_nil ?_
    rintro w2 ⟨⟨w2, qd⟩, rfl⟩
    simp only [gro] at *
    replace h0 := carry qd h0
    replace h1 := carry qd h1
    replace h4 := carryf qd h4 lb
    replace h5 := carryf qd h5 lb
    have HA2 := hid (HA.out.below qd)
    have HN2 := hid (HN.out.below qd)
    have hg1 : w.grownBy w2 (some b) := grow_trans hg0 ⟨qd.os, qd.tape, qd.output, qd.size, fun k hk _ => qd.block k hk⟩
    have lb2 := cell_lt h0
    clear HA HN c30 c31 qd hg0 l3 lb gc k0 k1 lg hL
    cases lv with
    | true =>
      have HF := hid (HY.out rfl)
      clear HY HNo
      go_wp2
      go_end0
      refine ⟨rfl, ?_, grow_trans hg1 (grow_set _ b 0 _)⟩
      rw [HF.out]
      exact HA2.out.setLo HN2.out
    | false =>
      have HF := hid (HNo.out rfl)
      clear HY HNo
      go_wp2
      go_end0
      refine ⟨rfl, ?_, hg1⟩
      rw [HF.out]
      exact HA2.out
end Go.Proofs.Ytplocljoanaoeaa

namespace Go.Proofs.Ytplocljoanaoeaa
set_option linter.unusedVariables false
set_option linter.unusedSimpArgs false
open Go.RowKit
theorem grownBy_setCell2F (w : World) (b : Nat) (x0 x1 : Value) : w.grownBy ((w.setCell ⟨b, 0, none⟩ x0).setCell ⟨b, 1, none⟩ x1) (some b) := grow_trans (grow_set w b 0 x0) (grow_set _ b 1 x1)
theorem plan_store2F {P : Program} {ops : Array Oper} {l : List Oper} {K : Act → World → Prop} {W w : World} {a : Act} {m : Nat} {k : Pl} {om : Oper} (hl : l[m]? = some om) (hg : om.guard = none) (ty : TypeId) (x y : Operand) (ho : om.op = .store ty x y) (b : Nat) (x0 x1 : Value) (hx : a.eval x = .pointer (some ⟨b, 0, none⟩)) (hy : a.eval y = .agg #[x0, x1])
    (ht : w.there b 0 2) (hi : (P.info? ty).map (·.size) = some 2) (h1 : (#[x0, x1] : Array Value).all (·.oneCell') = true) (hB : Below W.heap.size W w) (hb : W.heap.size ≤ b)
    (hk : ∀ w', w.grownBy w' (some b) → Below W.heap.size W w' → KcL [(b, 0, x0), (b, 1, x1)] w' → ObPl P ops (fun w' => ∃ X, w' = gro W X) l K k (a.put om.dst undef) w') : ObPl P ops (fun w' => ∃ X, w' = gro W X) l K (.make m k) a w := by
  refine ⟨om, hl, .inl ⟨wanted_none hg, ?_⟩⟩
  have e : (execOp a.eval om).run P w = .ok .skip (w.setCells b 0 [x0, x1]) := by
    unfold execOp
    simp only [ho, hx, hy, Instr.storeAt, Instr.sureAddr, Sem.run_bind, Sem.run_pure, Result.andThen_ok, run_storeVar_mid w b 0 ty #[x0, x1] ht hi h1]
  rw [e]
  obtain ⟨u0, e0⟩ := Option.isSome_iff_exists.1 (ht 0 (by omega)).1
  obtain ⟨u1, e1⟩ := Option.isSome_iff_exists.1 (ht 1 (by omega)).1
  obtain ⟨t0, t1⟩ := set2 e0 e1 x0 x1
  have hBb : Below W.heap.size W (w.setCells b 0 [x0, x1]) := bst (bst hB hb x0) hb x1
  exact ⟨⟨⟨_, hBb⟩, rfl⟩, hk _ (grownBy_setCell2F w b x0 x1) hBb ⟨t0, t1, trivial⟩⟩
theorem there_new2F (w : World) (x y : Value) (t : TypeId) : (w.alloc (.cells #[x, y] t)).there w.heap.size 0 2 := by
  intro j hj
  match j, hj with
  | 0, _ => simp [go_sem]
  | 1, _ => simp [go_sem]
theorem there_below2F {w w' : World} {b : Nat} (hq : Below w.heap.size w w') (hb : b < w.heap.size) (h : w.there b 0 2) : w'.there b 0 2 := fun j hj => by
  rw [hq.cell (p := ⟨b, 0 + j, none⟩) hb, hq.frozen (p := ⟨b, 0 + j, none⟩) hb]; exact h j hj
set_option maxRecDepth 100000 in
set_option maxHeartbeats 8000000 in
theorem roompick_any (b : Nat) (m : Rm) (w : World) (h : RmA w b m) :
    Calls Try.prog 99 #[.pointer (some ⟨b, 0, none⟩)] w (AtP w (pickR m)) := by
  obtain ⟨mlo, mhi⟩ := m
  obtain ⟨p, q, h0, h1, h2, h3, _, _⟩ := h
  simp only at h2 h3
  have lb := cell_lt h0
  have al := bal (Below.refl w.heap.size w) (.cells #[.int .i64 0, .int .i64 0] 52)
  have r0 : (w.alloc (.cells #[.int .i64 0, .int .i64 0] 52)).cell? ⟨w.heap.size, 0, none⟩ = some (.int .i64 0) := by simp [go_sem]
  have r1 : (w.alloc (.cells #[.int .i64 0, .int .i64 0] 52)).cell? ⟨w.heap.size, 1, none⟩ = some (.int .i64 0) := by simp [go_sem]
  have lr : w.heap.size < (w.alloc (.cells #[.int .i64 0, .int .i64 0] 52)).heap.size := by simp
  have f0 : (w.alloc (.cells #[.int .i64 0, .int .i64 0] 52)).frozen? ⟨w.heap.size, 0, none⟩ = false := by simp [go_sem]
  have f1 : (w.alloc (.cells #[.int .i64 0, .int .i64 0] 52)).frozen? ⟨w.heap.size, 1, none⟩ = false := by simp [go_sem]
  cases mlo with
  | none =>
    obtain rfl : p = none := h2
    cases mhi with
    | none =>
      obtain rfl : q = none := h3
      have h0' := carry al h0
      have h1' := carry al h1
      have lb' := cell_lt h0'
      go_enter Try.func99, Try.ntmps99
      go_wp2
      obtain ⟨t0, t1⟩ := set2 r0 r1 (.int .i64 0) (.int .i64 1)
      refine bodyPost_ret (v := .tuple #[.agg #[.int .i64 0, .int .i64 1], .bool true]) (by simp [results, Try.results99, go_sem, t0, t1]) rfl (AtP.mk rfl ?_)
      exact bal (Below.refl _ _) _
    | some hq =>
      obtain ⟨u, v⟩ := hq
      obtain ⟨g, rfl, k0, k1⟩ := h3
      simp only at k0 k1
      have h0' := carry al h0
      have h1' := carry al h1
      have k0' := carry al k0
      have k1' := carry al k1
      have lb' := cell_lt h0'
      have lg' := cell_lt k0'
      have hA := fun W => radd_any u v (-1) 1 W
      have hP := hid (show pickR ⟨none, some (u, v)⟩ = addR u v (-1) 1 from rfl)
      obtain ⟨⟨ax, ay, ao⟩, ha⟩ : ∃ o, o = addR u v (-1) 1 := ⟨_, rfl⟩
      rw [← ha] at hA hP
      clear ha
      simp only at hA
      go_enter Try.func99, Try.ntmps99
      go_wp2_with (go_at_call 79; refine (hA _).mono ?_; rintro e w1 ⟨rfl, hq⟩; replace f0 := carryf hq f0 lr; replace f1 := carryf hq f1 lr; replace r0 := carry hq r0; replace r1 := carry hq r1; have lr2 := cell_lt r0)
      obtain ⟨t0, t1⟩ := set2 r0 r1 (.int .i64 ax) (.int .i64 ay)
      refine bodyPost_ret (v := .tuple #[.agg #[.int .i64 ax, .int .i64 ay], .bool ao]) (by simp [results, Try.results99, go_sem, t0, t1]) rfl (AtP.mk hP.out ?_)
      exact bst (bst (btr al hq) (by simp <;> omega) _) (by simp <;> omega) _
  | some lq =>
    obtain ⟨x, y⟩ := lq
    obtain ⟨gl, rfl, j0, j1⟩ := h2
    simp only at j0 j1
    have h0' := carry al h0
    have h1' := carry al h1
    have j0' := carry al j0
    have j1' := carry al j1
    have lb' := cell_lt h0'
    have lj' := cell_lt j0'
    cases mhi with
    | none =>
      obtain rfl : q = none := h3
      have hA := fun W => radd_any x y 1 1 W
      have hP := hid (show pickR ⟨some (x, y), none⟩ = addR x y 1 1 from rfl)
      obtain ⟨⟨ax, ay, ao⟩, ha⟩ : ∃ o, o = addR x y 1 1 := ⟨_, rfl⟩
      rw [← ha] at hA hP
      clear ha
      simp only at hA
      go_enter Try.func99, Try.ntmps99
      go_wp2_with (go_at_call 79; refine (hA _).mono ?_; rintro e w1 ⟨rfl, hq⟩; replace f0 := carryf hq f0 lr; replace f1 := carryf hq f1 lr; replace r0 := carry hq r0; replace r1 := carry hq r1; have lr2 := cell_lt r0)
      obtain ⟨t0, t1⟩ := set2 r0 r1 (.int .i64 ax) (.int .i64 ay)
      refine bodyPost_ret (v := .tuple #[.agg #[.int .i64 ax, .int .i64 ay], .bool ao]) (by simp [results, Try.results99, go_sem, t0, t1]) rfl (AtP.mk hP.out ?_)
      exact bst (bst (btr al hq) (by simp <;> omega) _) (by simp <;> omega) _
    | some hq =>
      obtain ⟨u, v⟩ := hq
      obtain ⟨g, rfl, k0, k1⟩ := h3
      simp only at k0 k1
      have lk := cell_lt k0
      have lj := cell_lt j0
      have hA := fun W => rmid_any x y u v W
      have hP := hid (show pickR ⟨some (x, y), some (u, v)⟩ = midR x y u v from rfl)
      obtain ⟨⟨ax, ay, ao⟩, ha⟩ : ∃ o, o = midR x y u v := ⟨_, rfl⟩
      rw [← ha] at hA hP
      clear ha
      simp only at hA
      have Zt := there_new2F w (.int .i64 0) (.int .i64 0) 52
      have gc := @gro_cell w
      go_enter Try.func99, Try.ntmps99
      go_upto_region 2 with fail
      generalize w.alloc (.cells #[.int .i64 0, .int .i64 0] 52) = w1 at *
      clear h0' h1' j0' j1' lb' lj' r0 r1 f0 f1
      have hB0 := al.trans ((Below.refl w1.heap.size w1).drew.mono al.size)
      refine region_planC (fun w' => ∃ X, w' = gro w X) (.takes [0, 1, 2, 3, 4, 5, 6, 7, 8, 9, 10, 11] (.make 12 (.takes [13, 14] (.make 15 .fin)))) 16 rfl (by kernel_rfl) ⟨⟨w1.drew, hB0⟩, rfl⟩ ?_
      refine plan_takes ?_; simp only [pickOps, List.getElem?_cons_zero, List.getElem?_cons_succ]; (repeat (go_big_quiet_step (fail))); refine wpQuiet_nil ?_
      clear gc
      have Zt1 := there_below2F (Below.refl w1.heap.size w1).drew lr Zt
      have lr1 : w.heap.size < w1.drew.heap.size := lr
      refine plan_call rfl rfl 115 #[.agg #[.int .i64 x, .int .i64 y], .agg #[.int .i64 u, .int .i64 v]] (by kernel_rfl) ?_
      refine (hA _).mono ?_
      rintro e u3 ⟨rfl, hq⟩
      refine ⟨_, rfl, hB0.trans (hq.mono hB0.size), ?_⟩
      replace Zt1 := there_below2F hq lr1 Zt1
      replace hB0 := hB0.trans (hq.mono hB0.size)
      refine plan_takes ?_; simp only [pickOps, List.getElem?_cons_zero, List.getElem?_cons_succ]
      refine quiet_do rfl (.agg #[.int .i64 ax, .int .i64 ay]) (fun _ => by kernel_rfl) ?_
      refine quiet_do rfl (.bool ao) (fun _ => by kernel_rfl) ?_
      refine wpQuiet_nil ?_
      refine plan_store2F rfl rfl _ _ _ rfl _ (.int .i64 ax) (.int .i64 ay) (by kernel_rfl) (by kernel_rfl) Zt1 (by kernel_rfl) (by simp [Value.oneCell']) hB0 (Nat.le_refl _) ?_
      intro wx hg hBx hK
      obtain ⟨t0, t1, _⟩ := hK
      refine plan_fin ?_
      simp only [List.drop_succ_cons, List.drop_zero]
      go_wp2_with fail
      refine bodyPost_ret (v := .tuple #[.agg #[.int .i64 ax, .int .i64 ay], .bool ao]) (by simp [results, Try.results99, go_sem, t0, t1]) rfl (AtP.mk hP.out hBx)
end Go.Proofs.Ytplocljoanaoeaa

namespace Go.Proofs.Ytplocljoanaoeaa
set_option linter.unusedVariables false
set_option linter.unusedSimpArgs false
open Go.RowKit
def RoomP (w : World) (R : Option Rm) (e : Ending) (w' : World) : Prop :=
  ∃ p, e = .returned (.tuple #[.pointer p, .bool R.isSome]) ∧ Below w.heap.size w w' ∧ ∀ M, R = some M → ∃ b, p = some ⟨b, 0, none⟩ ∧ RmA w' b M
theorem RoomP.no {w w' : World} {R : Option Rm} (h : R = none) (hb : Below w.heap.size w w') : RoomP w R (.returned (.tuple #[.pointer none, .bool false])) w' := by
  subst h; exact ⟨none, rfl, hb, fun M e => by cases e⟩
theorem RoomP.yes {w w' : World} {R : Option Rm} {M : Rm} {b : Nat} (h : R = some M) (hb : Below w.heap.size w w') (hr : RmA w' b M) : RoomP w R (.returned (.tuple #[.pointer (some ⟨b, 0, none⟩), .bool true])) w' := by
  subst h; exact ⟨_, rfl, hb, fun M' e => ⟨b, rfl, by injection e with e; rw [← e]; exact hr⟩⟩
theorem build_room (w : World) : (Instr.build 147 #[]).run Try.prog w = .ok (.agg #[.pointer none, .pointer none]) w := by kernel_rfl
theorem RmA.new (w : World) (t : TypeId) : RmA (w.alloc (.cells #[.pointer none, .pointer none] t)) w.heap.size rm0 := ⟨none, none, by simp [go_sem], by simp [go_sem], rfl, rfl, by simp [go_sem], by simp [go_sem]⟩
theorem RmA.lt {w : World} {b : Nat} {m : Rm} (h : RmA w b m) : b < w.heap.size := by
  obtain ⟨p, q, h0, _⟩ := h
  exact cell_lt h0
set_option maxRecDepth 100000 in
set_option maxHeartbeats 8000000 in
theorem roomof_any (A : Option Addr) (c v n : Nat) (ps : List PF) (V : Option Addr) (d : Nat) (N D : Nat → Int) (w : World) (hv : v < 4) (hl : ps.length ≤ 200) (hA : SlF w A ps) (hR : Rws w ps) (hok : ∀ p ∈ ps, p.2.ok n) (hV : Rats w V 4 N D) :
    Calls Try.prog 98 #[.slice A ps.length c, .int .i64 v, .slice V 4 d] w (RoomP w (roomS v N D (ps.map Prod.snd) rm0)) := by
  have HR := hid hR; have HOK := hid hok; clear hR hok
  obtain ⟨m, hm⟩ : ∃ m, m = ps.length := ⟨_, rfl⟩
  rw [← hm] at hl ⊢
  have HM := hid hm
  clear hm
  have HG := hid (fun k (p : PF) (h : ps[k]? = some p) => (show (ps.map Prod.snd)[k]? = some p.2 by rw [List.getElem?_map, h]; rfl))
  have HLN := hid (show (ps.map Prod.snd).length = m by rw [List.length_map]; exact HM.out.symm)
  generalize ps.map Prod.snd = l at *
  have hb0 := bal (Below.refl w.heap.size w) (.cells #[.pointer none, .pointer none] 147)
  have hm0 := RmA.new w 147
  have hbr := build_room
  go_enter Try.func98, Try.ntmps98
  go_wp2
  clear hbr
  generalize w.alloc (.cells #[.pointer none, .pointer none] 147) = w0 at *
  go_loopw [18] (fun i wr => ∃ (k : Nat) (M : Rm), k ≤ m ∧ i = .int .i64 k ∧ Below w.heap.size w wr ∧ RmA wr w.heap.size M ∧ roomS v N D (l.take k) rm0 = some M) (fun i _ => m - (intOf i).toNat)
  case atStart => exact ⟨0, rm0, Nat.zero_le _, rfl, hb0, hm0, rfl⟩
  case round =>
    clear hb0 hm0
    obtain ⟨k, M, hk, rfl, hb, hM, hs⟩ := hrel
    have HMA := hid hM; have HS := hid hs
    clear hM hs
    by_cases hlt : k < m
    · obtain ⟨⟨a, r⟩, hp⟩ : ∃ p, ps[k]? = some p := ⟨_, List.getElem?_eq_getElem (by have := HM.out; omega)⟩
      have hRA := hid ((HR.out _ (List.mem_of_getElem? hp)).below hb)
      have hrok := hid (HOK.out _ (List.mem_of_getElem? hp))
      have hst := hid (roomS_take (v := v) (N := N) (D := D) (HG.out k _ hp))
      obtain ⟨z1, z2⟩ := hrok.out.z hv
      rcases hA with h0 | ⟨g, off, rfl, hg, hcA⟩
      · rw [h0] at hp; cases hp
      have cp := carry hb (hcA k _ hp)
      have cz := fr_z hRA.out hv
      have lg := cell_lt cp
      have la := cell_lt cz
      clear hcA hp
      unfold ptF at cp
      by_cases hz : r.Z v = 0
      · have dz : (r.Z v == 0) = true := by simpa using hz
        have hT := hid (show roomT v N D r M = some M by unfold roomT; rw [if_pos hz])
        clear hz
        go_wp2
        go_roundw
        case rel => exact ⟨k + 1, M, by omega, by go_num, hb, HMA.out, by rw [hst.out, HS.out]; exact hT.out⟩
        case measure => simp [intOf]; omega
      have dz : (r.Z v == 0) = false := by simpa using hz
      have HZ := hid hz; clear hz
      have hB := bound_any a v n r V d N D wr hv hRA.out hrok.out (hV.below hb)
      have hT0 := hid (fun (h : (bndR r v N D).2.2 = false) => (show roomT v N D r M = none by unfold roomT; rw [if_neg HZ.out, if_neg (by rw [h]; simp)]))
      have hT1 := hid (fun (h : (bndR r v N D).2.2 = true) (hp : 0 < r.Z v) => (show roomT v N D r M = some (M.lowHi (bndR r v N D).1 (bndR r v N D).2.1) by unfold roomT; rw [if_neg HZ.out, if_pos h, if_pos hp]))
      have hT2 := hid (fun (h : (bndR r v N D).2.2 = true) (hp : ¬ 0 < r.Z v) => (show roomT v N D r M = some (M.raiseLo (bndR r v N D).1 (bndR r v N D).2.1) by unfold roomT; rw [if_neg HZ.out, if_pos h, if_neg hp]))
      unfold AtP at hB
      generalize bndR r v N D = B at *
      obtain ⟨x, y, ok⟩ := B
      simp only at hB hT0 hT1 hT2
      cases ok with
      | false =>
        have hF := hid (show roomS v N D l rm0 = none from roomS_none (k := k + 1) (by rw [hst.out, HS.out]; exact hT0.out rfl))
        clear hT0 hT1 hT2
        go_wp2_with fail
        refine hB.mono ?_
        rintro e w2 ⟨rfl, hq⟩
        go_wp2
        go_ret2
        exact RoomP.no hF.out (bal (btr hb hq) _)
      | true =>
        by_cases hpos : 0 < r.Z v
        · have dp : decide (0 < r.Z v) = true := by simpa using hpos
          have hT := hid (hT1.out rfl hpos)
          clear hpos hT0 hT1 hT2
          have hL := fun W (h : RmA W w.heap.size M) => lowerhigh_any w.heap.size M x y W h
          go_wp2_with fail
          refine hB.mono ?_
          clear hB
          rintro e w2 ⟨rfl, hq⟩
          have hm2 := HMA.out.below hq
          have hb2 := btr hb hq
          clear cp cz lg la hq
          have al := bal (Below.refl w2.heap.size w2) (.cells #[.int .i64 x, .int .i64 y] 52)
          have hm3 := hm2.below al
          have hb3 := hid (btr hb2 al)
          have c0 : (w2.alloc (.cells #[.int .i64 x, .int .i64 y] 52)).cell? ⟨w2.heap.size, 0, none⟩ = some (.int .i64 x) := by simp [go_sem]
          have c1 : (w2.alloc (.cells #[.int .i64 x, .int .i64 y] 52)).cell? ⟨w2.heap.size, 1, none⟩ = some (.int .i64 y) := by simp [go_sem]
          clear al hm2 hb2
          have hL3 := hL _ hm3
          clear hL hm3
          go_wp2_with fail
          refine hL3.mono ?_
          clear hL3
          rintro e w4 ⟨rfl, hm4, hg4⟩
          have hb4 := hid (fl_grow (v := .slice (some ⟨w.heap.size, 0, none⟩) 0 0) hb3.out hg4 (fun g e => by simp [Value.ownBlock] at e; omega))
          have HM4 := hid hm4
          clear hm4 hg4 c0 c1
          go_wp2
          go_roundw
          case rel => exact ⟨k + 1, _, by omega, by go_num, hb4.out, HM4.out, by rw [hst.out, HS.out]; exact hT.out⟩
          case measure => simp [intOf]; omega
        · have dp : decide (0 < r.Z v) = false := by simpa using hpos
          have hT := hid (hT2.out rfl hpos)
          clear hpos hT0 hT1 hT2
          have hL := fun W (h : RmA W w.heap.size M) => raiselow_any w.heap.size M x y W h
          go_wp2_with fail
          refine hB.mono ?_
          clear hB
          rintro e w2 ⟨rfl, hq⟩
          have hm2 := HMA.out.below hq
          have hb2 := btr hb hq
          clear cp cz lg la hq
          have al := bal (Below.refl w2.heap.size w2) (.cells #[.int .i64 x, .int .i64 y] 52)
          have hm3 := hm2.below al
          have hb3 := hid (btr hb2 al)
          have c0 : (w2.alloc (.cells #[.int .i64 x, .int .i64 y] 52)).cell? ⟨w2.heap.size, 0, none⟩ = some (.int .i64 x) := by simp [go_sem]
          have c1 : (w2.alloc (.cells #[.int .i64 x, .int .i64 y] 52)).cell? ⟨w2.heap.size, 1, none⟩ = some (.int .i64 y) := by simp [go_sem]
          clear al hm2 hb2
          have hL3 := hL _ hm3
          clear hL hm3
          go_wp2_with fail
          refine hL3.mono ?_
          clear hL3
          rintro e w4 ⟨rfl, hm4, hg4⟩
          have hb4 := hid (fl_grow (v := .slice (some ⟨w.heap.size, 0, none⟩) 0 0) hb3.out hg4 (fun g e => by simp [Value.ownBlock] at e; omega))
          have HM4 := hid hm4
          clear hm4 hg4 c0 c1
          go_wp2
          go_roundw
          case rel => exact ⟨k + 1, _, by omega, by go_num, hb4.out, HM4.out, by rw [hst.out, HS.out]; exact hT.out⟩
          case measure => simp [intOf]; omega
    · have hke : k = m := by omega
      have HF := hid (show roomS v N D l rm0 = some M by have := HS.out; rwa [List.take_of_length_le (by rw [HLN.out]; omega)] at this)
      clear hke
      go_wp2
      go_ret2
      exact RoomP.yes HF.out hb HMA.out
theorem contra_any (a n : Nat) (r : FRw) (w : World) (ha : RowA w a r) (ok : r.ok n) :
    Calls Try.prog 97 #[.pointer (some ⟨a, 0, none⟩)] w fun e w' => e = .returned (.bool (badF r)) ∧ Below w.heap.size w w' := by
  obtain ⟨a0, a1, a2, a3, a4, a5⟩ := fr_six ha
  have la := cell_lt a0
  have hE := fun W => zero_any (r.Z 0) (r.Z 1) (r.Z 2) (r.Z 3) W
  have hF := fun W => refuses_any (r.Z 0) (r.Z 1) (r.Z 2) (r.Z 3) r.B r.S W
  have hb : badF r = (decide (r.Z 0 = 0 ∧ r.Z 1 = 0 ∧ r.Z 2 = 0 ∧ r.Z 3 = 0) && refB r.B r.S) := by
    unfold badF badB emptyB; rw [ok.1, Bool.true_and]
  rw [hb]
  clear hb ok
  generalize decide (r.Z 0 = 0 ∧ r.Z 1 = 0 ∧ r.Z 2 = 0 ∧ r.Z 3 = 0) = z at *
  generalize refB r.B r.S = f at *
  have HA := hid ha; clear ha
  cases z with
  | false =>
    go_enter Try.func97, Try.ntmps97
    go_wp2_with (go_at_call 60; refine (hE _).mono ?_; rintro e w1 ⟨rfl, hq⟩)
    go_ret
    exact ⟨rfl, hq⟩
  | true =>
    go_enter Try.func97, Try.ntmps97
    go_wp2_with (first | (go_at_call 60; refine (hE _).mono ?_; rintro e w1 ⟨rfl, hq⟩; replace a0 := carry hq a0; replace a1 := carry hq a1; replace a2 := carry hq a2; replace a3 := carry hq a3; replace a4 := carry hq a4; replace a5 := carry hq a5; have la1 := cell_lt a0) | (go_at_call 61; refine (hF _).mono ?_; rintro e w2 ⟨rfl, hq2⟩))
    go_ret
    exact ⟨by simp, btr hq hq2⟩
set_option maxRecDepth 100000 in
set_option maxHeartbeats 4000000 in
theorem mults_any (a n : Nat) (r : FRw) (w : World) (hn : n ≤ 20) (ha : RowA w a r) :
    Calls Try.prog 37 #[.pointer (some ⟨a, 0, none⟩), .int .i64 n] w (NewI 3 w n r.U) := by
  have hmk := run_make_row' (P := Try.prog) 24 3 (.int .i64 0) 8 Try.underlying24 infoI rfl .i64 .i64 n (by omega) (by omega)
  have hrow := World.rowIs_made w (.int .i64 0) n 3
  have hb0 : Below w.heap.size w (w.alloc (.cells (madeCells #[.int .i64 0] n) 3)) := bal (Below.refl _ _) _
  have HA := hid ha; clear ha
  go_enter Try.func37, Try.ntmps37
  go_wp2
  clear hmk
  go_loopw [11] (fun i wr => ∃ k : Nat, k ≤ n ∧ i = .int .i64 k ∧ Below w.heap.size w wr ∧ wr.rowIs w.heap.size 3 n (fun j => if j < k then .int .i64 (r.U j) else .int .i64 0)) (fun i _ => n - (intOf i).toNat)
  case atStart => exact ⟨0, Nat.zero_le _, rfl, hb0, hrow.congr fun i hi => by simp⟩
  case round =>
    obtain ⟨k, hk, rfl, hb, hr⟩ := hrel
    clear hrow hb0
    by_cases hlt : k < n
    · have cu := carry hb (fr_u (i := k) HA.out (by omega))
      have lu := cell_lt cu
      have hk20 : k < 20 := by omega
      have c0 : wr.cell? ⟨w.heap.size, k, none⟩ = some (.int .i64 0) := (hr.cell hlt).trans (by rw [if_neg (by omega)])
      have f0 : wr.frozen? ⟨w.heap.size, k, none⟩ = false := hr.frozen _
      have l0 := hr.lt
      go_wp2
      go_roundw
      case rel =>
        refine ⟨k + 1, by omega, by go_num, bst hb (p := ⟨w.heap.size, k, none⟩) (Nat.le_refl _) _, (hr.set k _).congr fun j hj => ?_⟩
        by_cases e : j = k
        · subst e; rw [if_pos rfl, if_pos (by omega)]
        · rw [if_neg e]
          by_cases e2 : j < k
          · rw [if_pos e2, if_pos (by omega)]
          · rw [if_neg e2, if_neg (by omega)]
      case measure => simp [intOf]; omega
    · have hke : k = n := by omega
      subst hke
      go_wp2
      go_ret
      exact ⟨w.heap.size, rfl, Nat.le_refl _, hr.congr (fun j hj => by rw [if_pos hj]), hb⟩
end Go.Proofs.Ytplocljoanaoeaa

namespace Go.Proofs.Ytplocljoanaoeaa
set_option linter.unusedVariables false
set_option linter.unusedSimpArgs false
open Go.RowKit
theorem backV_no {l : List FRw} {k j : Nat} (h : backV l k = none) (hk : k ≤ j) : backV l j = none := by
  induction j with
  | zero => have : k = 0 := by omega
            subst this; exact h
  | succ j ih =>
    by_cases e : k = j + 1
    · subst e; exact h
    · have h2 := ih (by omega)
      unfold backV
      rw [h2]
theorem backV_a {l : List FRw} {k : Nat} {V : (Nat → Int) × (Nat → Int)} (h : backV l k = some V) (hr : roomS k V.1 V.2 (rowsE l (3 - k)) rm0 = none) : backV l (k + 1) = none := by
  unfold backV; rw [h]; simp only; rw [hr]
theorem backV_b {l : List FRw} {k : Nat} {V : (Nat → Int) × (Nat → Int)} {M : Rm} (h : backV l k = some V) (hr : roomS k V.1 V.2 (rowsE l (3 - k)) rm0 = some M) (hp : (pickR M).2.2 = false) : backV l (k + 1) = none := by
  unfold backV; rw [h]; simp only; rw [hr]; simp only; rw [if_neg (by rw [hp]; simp)]
theorem backV_c {l : List FRw} {k : Nat} {V : (Nat → Int) × (Nat → Int)} {M : Rm} {x y : Int} (h : backV l k = some V) (hr : roomS k V.1 V.2 (rowsE l (3 - k)) rm0 = some M) (hp : pickR M = (x, y, true)) : backV l (k + 1) = some (updV V.1 k x, updV V.2 k y) := by
  unfold backV; rw [h]; simp only; rw [hr]; simp only; rw [hp]; simp
def AssP (w : World) (V : Option ((Nat → Int) × (Nat → Int))) (e : Ending) (w' : World) : Prop :=
  ∃ A m c, e = .returned (.slice A m c) ∧ Below w.heap.size w w' ∧ (V = none → A = none ∧ m = 0 ∧ c = 0) ∧ ∀ X, V = some X → m = 4 ∧ c = 4 ∧ ∃ g, A = some ⟨g, 0, none⟩ ∧ w.heap.size ≤ g ∧ w'.rowIs g 52 8 (ratV X.1 X.2)
theorem AssP.no {w w' : World} {V : Option ((Nat → Int) × (Nat → Int))} (h : V = none) (hb : Below w.heap.size w w') : AssP w V (.returned (.slice none 0 0)) w' := by
  subst h; exact ⟨none, 0, 0, rfl, hb, fun _ => ⟨rfl, rfl, rfl⟩, fun X e => by cases e⟩
theorem AssP.yes {w w' : World} {V : Option ((Nat → Int) × (Nat → Int))} {X : (Nat → Int) × (Nat → Int)} {g : Nat} (h : V = some X) (hb : Below w.heap.size w w') (hg : w.heap.size ≤ g) (hr : w'.rowIs g 52 8 (ratV X.1 X.2)) : AssP w V (.returned (.slice (some ⟨g, 0, none⟩) 4 4)) w' := by
  subst h; exact ⟨_, 4, 4, rfl, hb, (fun e => by cases e), fun Y e => by injection e with e; subst e; exact ⟨rfl, rfl, g, rfl, hg, hr⟩⟩
/-- the lists that the steps were given -/
def BefA (w : World) (B : Nat) (ps : Nat → List PF) : Prop := ∀ i, i < 4 → ∃ A c, w.cell? ⟨B, i, none⟩ = some (.slice A (ps i).length c) ∧ SlF w A (ps i) ∧ Rws w (ps i)
theorem BefA.below {w w' : World} {B : Nat} {ps : Nat → List PF} (h : BefA w B ps) (hb : Below w.heap.size w w') : BefA w' B ps := fun i hi => by
  obtain ⟨A, c, h0, h1, h2⟩ := h i hi
  exact ⟨A, c, carry hb h0, h1.below hb, h2.below hb⟩
theorem mkr4 (w : World) : (Instr.makeSlice 29 (.int .i64 4) (.int .i64 4)).run Try.prog w = .ok (.slice (some ⟨w.heap.size, 0, none⟩) 4 4) (w.alloc (.cells #[.int .i64 0, .int .i64 0, .int .i64 0, .int .i64 0, .int .i64 0, .int .i64 0, .int .i64 0, .int .i64 0] 52)) := by kernel_rfl
theorem cells8 : ∀ i, i < 8 → (#[Value.int .i64 0, .int .i64 0, .int .i64 0, .int .i64 0, .int .i64 0, .int .i64 0, .int .i64 0, .int .i64 0] : Array Value)[i]? = some ((fun _ => Value.int .i64 0) i)
  | 0, _ => rfl
  | 1, _ => rfl
  | 2, _ => rfl
  | 3, _ => rfl
  | 4, _ => rfl
  | 5, _ => rfl
  | 6, _ => rfl
  | 7, _ => rfl
  | n + 8, h => absurd h (by omega)
theorem ratV_upd {N D : Nat → Int} {k j : Nat} {x y : Int} : ratV (updV N k x) (updV D k y) j = if j = k * 2 + 1 then .int .i64 y else if j = k * 2 then .int .i64 x else ratV N D j := by
  by_cases e1 : j = k * 2 + 1
  · subst e1; rw [if_pos rfl, ratV_odd]; simp [updV]
  · rw [if_neg e1]
    by_cases e2 : j = k * 2
    · subst e2; rw [if_pos rfl, ratV_even]; simp [updV]
    · rw [if_neg e2]
      unfold ratV updV
      have : j / 2 ≠ k := by omega
      simp [this]
set_option maxRecDepth 100000 in
set_option maxHeartbeats 8000000 in
theorem assign_any (B n : Nat) (l : List FRw) (ps : Nat → List PF) (w : World) (hB : BefA w B ps) (hlen : ∀ i, i < 4 → (ps i).length ≤ 200) (hok : ∀ i, i < 4 → ∀ p ∈ ps i, p.2.ok n) (hmap : ∀ i, i < 4 → (ps i).map Prod.snd = rowsE l (3 - i)) :
    Calls Try.prog 70 #[.pointer (some ⟨B, 0, none⟩)] w (AssP w (backV l 4)) := by
  have HB := hid hB; have HLEN := hid hlen; have HOK := hid hok; have HMAP := hid hmap
  clear hB hlen hok hmap
  have hmk := mkr4
  have hb0 := bal (Below.refl w.heap.size w) (.cells #[.int .i64 0, .int .i64 0, .int .i64 0, .int .i64 0, .int .i64 0, .int .i64 0, .int .i64 0, .int .i64 0] 52)
  have hr0 : (w.alloc (.cells #[.int .i64 0, .int .i64 0, .int .i64 0, .int .i64 0, .int .i64 0, .int .i64 0, .int .i64 0, .int .i64 0] 52)).rowIs w.heap.size 52 8 (fun _ => .int .i64 0) := World.rowIs_alloc w _ _ _ cells8
  go_enter Try.func70, Try.ntmps70
  go_wp2
  clear hmk
  generalize w.alloc (.cells #[.int .i64 0, .int .i64 0, .int .i64 0, .int .i64 0, .int .i64 0, .int .i64 0, .int .i64 0, .int .i64 0] 52) = w0 at *
  go_loopw [12] (fun i wr => ∃ k : Nat, k ≤ 4 ∧ i = .int .i64 k ∧ Below w.heap.size w wr ∧ wr.rowIs w.heap.size 52 8 (fun j => if j < k * 2 then ratV (fun _ => 0) (fun _ => 1) j else .int .i64 0)) (fun i _ => 4 - (intOf i).toNat)
  case atStart => exact ⟨0, Nat.zero_le _, rfl, hb0, hr0.congr fun i hi => by simp⟩
  case round =>
    clear hb0 hr0
    obtain ⟨k, hk, rfl, hb, hr⟩ := hrel
    by_cases hlt : k < 4
    · have c0 : wr.cell? ⟨w.heap.size, k * 2, none⟩ = some (.int .i64 0) := (hr.cell (by omega)).trans (by rw [if_neg (by omega)])
      have c1 : wr.cell? ⟨w.heap.size, k * 2 + 1, none⟩ = some (.int .i64 0) := (hr.cell (by omega)).trans (by rw [if_neg (by omega)])
      have f0 : wr.frozen? ⟨w.heap.size, k * 2, none⟩ = false := hr.frozen _
      have f1 : wr.frozen? ⟨w.heap.size, k * 2 + 1, none⟩ = false := hr.frozen _
      have l0 := hr.lt
      go_wp2
      go_roundw
      case rel =>
        refine ⟨k + 1, by omega, by go_num, bst (bst hb (p := ⟨w.heap.size, k * 2, none⟩) (Nat.le_refl _) _) (p := ⟨w.heap.size, k * 2 + 1, none⟩) (Nat.le_refl _) _, ((hr.set (k * 2) _).set (k * 2 + 1) _).congr fun j hj => ?_⟩
        by_cases e1 : j = k * 2 + 1
        · subst e1; rw [if_pos rfl, if_pos (by omega), ratV_odd]
        · rw [if_neg e1]
          by_cases e2 : j = k * 2
          · subst e2; rw [if_pos rfl, if_pos (by omega), ratV_even]
          · rw [if_neg e2]
            by_cases e3 : j < k * 2
            · rw [if_pos e3, if_pos (by omega)]
            · rw [if_neg e3, if_neg (by omega)]
      case measure => simp [intOf]; omega
    · have hke : k = 4 := by omega
      have hr2 : wr.rowIs w.heap.size 52 8 (ratV (fun _ => 0) (fun _ => 1)) := hr.congr fun j hj => by rw [if_pos (by omega)]
      clear hr hke
      have hV0 := hid (show backV l 0 = some (fun _ => 0, fun _ => 1) from rfl)
      have lB : B < wr.heap.size := by
        obtain ⟨A, c, h0, _⟩ := HB.out.below hb 0 (by omega)
        exact cell_lt h0
      go_wp2
      go_loopw [22] (fun i wr => ∃ (k : Nat) (V : (Nat → Int) × (Nat → Int)), k ≤ 4 ∧ i = .int .i64 k ∧ Below w.heap.size w wr ∧ wr.rowIs w.heap.size 52 8 (ratV V.1 V.2) ∧ backV l k = some V) (fun i _ => 4 - (intOf i).toNat)
      case atStart => exact ⟨0, _, Nat.zero_le _, rfl, hb, hr2, hV0.out⟩
      case round =>
        clear hr2 hV0 hb lB
        obtain ⟨q, V, hq, rfl, hb, hr, hV⟩ := hrel
        have HV := hid hV; have HRW := hid hr
        clear hV hr
        by_cases hltq : q < 4
        · obtain ⟨A, c, c0, hS, hW⟩ := HB.out.below hb q hltq
          have lB := cell_lt c0
          have hRO := fun W (h : Below wr.heap.size wr W) => roomof_any A c q n (ps q) (some ⟨w.heap.size, 0, none⟩) 4 V.1 V.2 W hltq (HLEN.out q hltq) (hS.below h) (hW.below h) (HOK.out q hltq) (Rats.of_row (n := 4) (row_below HRW.out h))
          rw [HMAP.out q hltq] at hRO
          clear hS hW
          go_upto_region 9 with fail
          go_quiet (fail)
          have qd : Below wr.heap.size wr (wr.drewN nq) := bdn (Below.refl _ _) nq
          have hR2 := hRO _ qd
          replace hb := btr hb qd
          have hr2 := row_below HRW.out qd
          clear hRO c0 lB HRW qd
          generalize wr.drewN nq = w2 at *
          have HRW := hid hr2; clear hr2
          go_wp2_with fail
          refine hR2.mono ?_
          clear hR2
          rintro e w3 ⟨p, rfl, hq3, hM⟩
          replace hb := btr hb hq3
          have hr3 := row_below HRW.out hq3
          clear HRW hq3
          cases hR : roomS q V.1 V.2 (rowsE l (3 - q)) rm0 with
          | none =>
            have HF := hid (show backV l 4 = none from backV_no (backV_a HV.out hR) (by omega))
            rw [hR] at hM
            clear hR hM hr3
            go_wp2
            go_ret
            exact AssP.no HF.out hb
          | some M =>
            obtain ⟨b, rfl, hMb⟩ := hM M hR
            have hPK := roompick_any b M w3 hMb
            have HA := hid (fun h => backV_b HV.out hR (M := M) h)
            have HC := hid (fun x y h => backV_c HV.out hR (M := M) (x := x) (y := y) h)
            unfold AtP at hPK
            clear hR hM hMb
            generalize pickR M = P at *
            obtain ⟨x, y, ok⟩ := P
            simp only at hPK HA HC
            go_wp2_with fail
            refine hPK.mono ?_
            clear hPK
            rintro e w4 ⟨rfl, hq4⟩
            replace hb := btr hb hq4
            have hr4 := row_below hr3 hq4
            clear hr3 hq4
            have c0 : w4.cell? ⟨w.heap.size, q * 2, none⟩ = some (.int .i64 (V.1 q)) := (hr4.cell (by omega)).trans (by rw [ratV_even])
            have c1 : w4.cell? ⟨w.heap.size, q * 2 + 1, none⟩ = some (.int .i64 (V.2 q)) := (hr4.cell (by omega)).trans (by rw [ratV_odd])
            have f0 : w4.frozen? ⟨w.heap.size, q * 2, none⟩ = false := hr4.frozen _
            have f1 : w4.frozen? ⟨w.heap.size, q * 2 + 1, none⟩ = false := hr4.frozen _
            have l0 := hr4.lt
            have HRW := hid hr4; clear hr4
            cases ok with
            | false =>
              have HF := hid (show backV l 4 = none from backV_no (HA.out rfl) (by omega))
              go_wp2
              go_ret
              exact AssP.no HF.out (bst (bst hb (p := ⟨w.heap.size, q * 2, none⟩) (Nat.le_refl _) _) (p := ⟨w.heap.size, q * 2 + 1, none⟩) (Nat.le_refl _) _)
            | true =>
              have HF := hid (HC.out x y rfl)
              go_wp2
              go_roundw
              case rel => exact ⟨q + 1, _, by omega, by go_num, bst (bst hb (p := ⟨w.heap.size, q * 2, none⟩) (Nat.le_refl _) _) (p := ⟨w.heap.size, q * 2 + 1, none⟩) (Nat.le_refl _) _, ((HRW.out.set (q * 2) _).set (q * 2 + 1) _).congr fun j hj => by simp only [ratV_upd], HF.out⟩
              case measure => simp [intOf]; omega
        · have hqe : q = 4 := by omega
          have HF := hid (show backV l 4 = some V by rw [← hqe]; exact HV.out)
          clear hqe
          go_wp2
          go_ret
          exact AssP.yes HF.out hb (Nat.le_refl _) HRW.out
end Go.Proofs.Ytplocljoanaoeaa

namespace Go.Proofs.Ytplocljoanaoeaa
set_option linter.unusedVariables false
set_option linter.unusedSimpArgs false
open Go.RowKit
theorem infoFS : (Try.prog.info? 108).map (fun i => (i.zero, i.size, i.bytes)) = some (some .nilFunc, 1, 8) := by kernel_rfl
/-- the step that keeps its rows in B, its number in y -/
def stepV (x y : Nat) : Value := .func (.func 96) #[] #[.pointer (some ⟨x, 0, none⟩), .pointer (some ⟨y, 0, none⟩)]
def lenV : Value → Nat
  | .slice _ n _ => n
  | _ => 0
/-- what farSteps answers -/
def StepsP (w : World) (B : Nat) (e : Ending) (w' : World) : Prop :=
  ∃ g c x, ∃ ys : List Nat, e = .returned (.slice (some ⟨g, 0, none⟩) 4 c) ∧ Below w.heap.size w w' ∧ ys.length = 4 ∧ w'.cell? ⟨x, 0, none⟩ = some (.pointer (some ⟨B, 0, none⟩)) ∧ w.heap.size ≤ x ∧ w.heap.size ≤ g ∧
    ∀ (k y : Nat), ys[k]? = some y → w.heap.size ≤ y ∧ w'.cell? ⟨g, k, none⟩ = some (stepV x y) ∧ w'.cell? ⟨y, 0, none⟩ = some (.int .i64 (3 - (k : Int)))
set_option maxRecDepth 100000 in
set_option maxHeartbeats 8000000 in
theorem farsteps_any (B : Nat) (w : World) :
    Calls Try.prog 68 #[.pointer (some ⟨B, 0, none⟩)] w (StepsP w B) := by
  obtain ⟨i0, hi, hz0, hz1, hz2⟩ := info_parts infoFS
  have hmf : ∀ (fn : Fn) (first cap : Array Value) (w : World), (Instr.makeFunc fn first cap).run Try.prog w = .ok (.func fn first cap) w := fun _ _ _ _ => rfl
  have hb0 := bal (bal (Below.refl w.heap.size w) (.cells #[.pointer (some ⟨B, 0, none⟩)] 106)) (.cells #[.int .i64 3] 3)
  have hx0 : ((w.alloc (.cells #[.pointer (some ⟨B, 0, none⟩)] 106)).alloc (.cells #[.int .i64 3] 3)).cell? ⟨w.heap.size, 0, none⟩ = some (.pointer (some ⟨B, 0, none⟩)) := by simp [go_sem]
  have hy0 : ((w.alloc (.cells #[.pointer (some ⟨B, 0, none⟩)] 106)).alloc (.cells #[.int .i64 3] 3)).cell? ⟨w.heap.size + 1, 0, none⟩ = some (.int .i64 3) := by simp [go_sem]
  have hf0 : ((w.alloc (.cells #[.pointer (some ⟨B, 0, none⟩)] 106)).alloc (.cells #[.int .i64 3] 3)).frozen? ⟨w.heap.size + 1, 0, none⟩ = false := by simp [go_sem]
  have ho0 := World.ownsRow_nil ((w.alloc (.cells #[.pointer (some ⟨B, 0, none⟩)] 106)).alloc (.cells #[.int .i64 3] 3)) w.heap.size 108 1
  go_enter Try.func68, Try.ntmps68
  go_wp2
  generalize (w.alloc (.cells #[.pointer (some ⟨B, 0, none⟩)] 106)).alloc (.cells #[.int .i64 3] 3) = w0 at *
  go_loopw [3, 4] (fun r3 p wr => ∃ (k y : Nat) (ys : List Nat), k ≤ 4 ∧ p = .pointer (some ⟨y, 0, none⟩) ∧ Below w.heap.size w wr ∧ ys.length = k ∧ wr.ownsRow w.heap.size 108 1 r3 k (ys.map (stepV w.heap.size)) ∧ wr.cell? ⟨w.heap.size, 0, none⟩ = some (.pointer (some ⟨B, 0, none⟩)) ∧ wr.cell? ⟨y, 0, none⟩ = some (.int .i64 (3 - k)) ∧ wr.frozen? ⟨y, 0, none⟩ = false ∧ w.heap.size < y ∧ apA r3 (some ⟨y, 0, none⟩) ∧ apA r3 (some ⟨w.heap.size, 0, none⟩) ∧ (∀ (j z : Nat), ys[j]? = some z → w.heap.size < z ∧ wr.cell? ⟨z, 0, none⟩ = some (.int .i64 (3 - (j : Int))) ∧ apA r3 (some ⟨z, 0, none⟩) ∧ z ≠ y)) (fun r3 _ _ => 4 - lenV r3)
  case atStart => exact ⟨0, w.heap.size + 1, [], Nat.zero_le _, rfl, hb0, rfl, ho0, hx0, hy0, hf0, by omega, (fun g off e e2 => by cases e2), (fun g off e e2 => by cases e2), (fun j z h => by cases h)⟩
  case round =>
    clear hb0 hx0 hy0 hf0 ho0
    obtain ⟨k, y, ys, hk, rfl, hb, hyl, ho, hx, hy, hf, hwy, hay, hax, hys⟩ := hrel
    obtain ⟨a3, c3, e3⟩ := fl_sl ho
    subst e3
    have HO := hid ho; have HY := hid hys; have HYL := hid hyl; have HAY := hid hay; have HAX := hid hax
    have ly := cell_lt hy
    have lx := cell_lt hx
    clear ho hys hyl hay hax
    by_cases hlt : k < 4
    · have d0 : decide ((0 : Int) ≤ 3 - (k : Int)) = true := decide_eq_true (by omega)
      have hbA := bal (Below.refl wr.heap.size wr) (.cells #[stepV w.heap.size y] 108)
      have hoA := hid (own_below hbA HO.out)
      have hn1 := hid (cell_one_new wr (stepV w.heap.size y) 108)
      have h1c : Hid (∀ u ∈ [stepV w.heap.size y], u.oneCell' = true) := hid (fun u hu => by simp at hu; subst hu; rfl)
      have hszA : w.heap.size ≤ (wr.alloc (.cells #[stepV w.heap.size y] 108)).heap.size := Nat.le_trans hb.size hbA.size
      have HBA := hid hbA; clear hbA
      have hbb := hid (btr hb HBA.out)
      unfold stepV at hn1 h1c hoA hszA HBA hbb
      go_upto_region 6 with ((at_builtin; go_loud (refine wpList_append_own_at _ rfl _ _ 104 rfl w.heap.size 108 i0 .nilFunc 1 8 Try.underlying104 hi hz0 hz1 hz2 rfl (by decide) _ _ _ rfl hoA.out ⟨wr.heap.size, 0, none⟩ 1 1 [.func (.func 96) #[] #[.pointer (some ⟨w.heap.size, 0, none⟩), .pointer (some ⟨y, 0, none⟩)]] rfl rfl hn1.out h1c.out (by unfold maxLen; omega) (by omega) hszA ?_); intro v' w5 hown hgrow _ hblk))
      have kc : ∀ b v, apA (.slice a3 k c3) (some ⟨b, 0, none⟩) → wr.cell? ⟨b, 0, none⟩ = some v → w5.cell? ⟨b, 0, none⟩ = some v := fun b v ha h => hgrow.cell (carry HBA.out h) (fun e => ha b 0 rfl e.symm)
      have hx5 := kc _ _ HAX.out hx
      have hy5 := kc _ _ HAY.out hy
      have hb5 := fl_growM hbb.out hgrow (fun g e => (hoA.out.lt g e).1)
      have hnext : ∀ A, apA (.slice a3 k c3) A → (∀ g off, A = some ⟨g, off, none⟩ → g < wr.heap.size) → apA v' A := fun A h1 h2 => h1.next hblk (fun g off e => Nat.lt_of_lt_of_le (h2 g off e) HBA.out.size)
      have hax5 := hnext _ HAX.out (fun g off e => by injection e with e; injection e with e _ _; subst e; exact lx)
      have hys5 := hid (show ∀ (j z : Nat), (ys ++ [y])[j]? = some z → w.heap.size < z ∧ z < w5.heap.size ∧ w5.cell? ⟨z, 0, none⟩ = some (.int .i64 (3 - (j : Int))) ∧ apA v' (some ⟨z, 0, none⟩) from fun j z hj => by
        have hlt5 : ∀ b v, wr.cell? ⟨b, 0, none⟩ = some v → b < w5.heap.size := fun b v h => Nat.lt_of_lt_of_le (cell_lt h) (Nat.le_trans HBA.out.size hgrow.size)
        by_cases hjk : j < k
        · rw [List.getElem?_append_left (by rw [HYL.out]; exact hjk)] at hj
          obtain ⟨h1, h2, h3, _⟩ := HY.out j z hj
          exact ⟨h1, hlt5 _ _ h2, kc _ _ h3 h2, hnext _ h3 (fun g off e => by injection e with e; injection e with e _ _; subst e; exact cell_lt h2)⟩
        · have hje : j = k := by
            have := (List.getElem?_eq_some_iff.1 hj).1
            rw [List.length_append, HYL.out] at this
            simp at this
            omega
          subst hje
          rw [List.getElem?_append_right (by rw [HYL.out]; exact Nat.le_refl _), HYL.out] at hj
          simp at hj
          subst hj
          exact ⟨hwy, hlt5 _ _ hy, hy5, hnext _ HAY.out (fun g off e => by injection e with e; injection e with e _ _; subst e; exact ly)⟩)
      obtain ⟨a5, c5, e5⟩ := fl_sl hown
      subst e5
      have HOW := hid hown
      have hapn : apA (.slice a5 (k + 1) c5) (some ⟨w5.heap.size, 0, none⟩) := apA_new hown (Nat.le_refl _)
      have ly5 := cell_lt hy5
      have HX5 := hid hx5; have HAX5 := hid hax5; have HAPN := hid hapn; have HB5 := hid hb5
      clear kc hnext hown hgrow hblk hx hy hf hx5 hax5 hapn hb5 lx ly
      go_wp2
      go_roundw
      case rel =>
        have al := bal (Below.refl w5.heap.size w5) (.cells #[.int .i64 (3 - (k : Int) - 1)] 3)
        refine ⟨k + 1, w5.heap.size, ys ++ [y], by omega, rfl, ?_, ?_, ?_, ?_, ?_, ?_, ?_, HAPN.out, HAX5.out, fun j z hj => ?_⟩
        · exact bal HB5.out _
        · rw [List.length_append, HYL.out]; rfl
        · rw [List.map_append]; exact own_below al HOW.out
        · exact carry al HX5.out
        · simp [go_sem]; omega
        · simp [go_sem]
        · have := HB5.out.size; have := cell_lt HX5.out; omega
        · obtain ⟨h1, h2, h3, h4⟩ := hys5.out j z hj
          exact ⟨h1, carry al h3, h4, by omega⟩
      case measure => simp [lenV]; omega
    · have hke : k = 4 := by omega
      subst hke
      have d0 : decide ((0 : Int) ≤ 3 - ((4 : Nat) : Int)) = false := by decide
      have HF := hid (show ∀ (j z : Nat), ys[j]? = some z → w.heap.size ≤ z ∧ ∃ g, a3 = some ⟨g, 0, none⟩ ∧ wr.cell? ⟨g, j, none⟩ = some (stepV w.heap.size z) ∧ wr.cell? ⟨z, 0, none⟩ = some (.int .i64 (3 - (j : Int))) from fun j z hj => by
        obtain ⟨h1, h2, _⟩ := HY.out j z hj
        have hc := fun g hg => HO.out.cells (g := g) hg
        obtain ⟨_, ⟨e, h0⟩ | ⟨g, cap, cur, e, _⟩⟩ := HO.out
        · omega
        · injection e with e _ _
          subst e
          have := hc g rfl j (stepV w.heap.size z) (by rw [List.getElem?_map, hj]; rfl)
          rw [show (⟨g, 0, none⟩ : Addr).add j = ⟨g, j, none⟩ by unfold Addr.add; split <;> simp_all] at this
          exact ⟨by omega, g, rfl, this, h2⟩)
      have HG := hid (show ∃ g, a3 = some ⟨g, 0, none⟩ ∧ w.heap.size ≤ g from by
        obtain ⟨_, ⟨e, h0⟩ | ⟨g, cap, cur, e, hg, _⟩⟩ := HO.out
        · omega
        · injection e with e _ _
          exact ⟨g, e, hg⟩)
      obtain ⟨g, rfl, hg⟩ := HG.out
      go_wp2
      go_ret
      refine ⟨g, c3, w.heap.size, ys, rfl, hb, HYL.out, hx, Nat.le_refl _, hg, fun j z hj => ?_⟩
      obtain ⟨h1, g', e, h2, h3⟩ := HF.out j z hj
      injection e with e
      injection e with e _ _
      subst e
      exact ⟨h1, h2, h3⟩
/-- what a step answers: what eliminate does, and the rows kept -/
def StepP (w : World) (B v : Nat) (A : Option Addr) (c : Nat) (ps : List PF) (e : Ending) (w' : World) : Prop :=
  ∃ w0, Below w.heap.size w w0 ∧ ElimP (w0.setCell ⟨B, v, none⟩ (.slice A ps.length c)) v ps e w'
set_option maxRecDepth 100000 in
set_option maxHeartbeats 8000000 in
theorem step_any (A : Option Addr) (c v n B x y : Nat) (ps : List PF) (u : Value) (w : World) (hv : v < 4) (hn : n ≤ 20) (hl : ps.length ≤ 200) (hok : ∀ p ∈ ps, p.2.ok n)
    (hx : w.cell? ⟨x, 0, none⟩ = some (.pointer (some ⟨B, 0, none⟩))) (hy : w.cell? ⟨y, 0, none⟩ = some (.int .i64 v)) (hB : w.cell? ⟨B, v, none⟩ = some u) (hf : w.frozen? ⟨B, v, none⟩ = false) (hyB : y ≠ B)
    (hK : ∀ w0, Below w.heap.size w w0 → SlF (w0.setCell ⟨B, v, none⟩ (.slice A ps.length c)) A ps ∧ Rws (w0.setCell ⟨B, v, none⟩ (.slice A ps.length c)) ps) :
    Calls Try.prog 96 #[.slice A ps.length c, .pointer (some ⟨x, 0, none⟩), .pointer (some ⟨y, 0, none⟩)] w (StepP w B v A c ps) := by
  have lx := cell_lt hx
  have ly := cell_lt hy
  have lB := cell_lt hB
  have HE := hid (fun w0 (h : Below w.heap.size w w0) => elim_any A c v n ps _ hv hn hl (hK w0 h).1 (hK w0 h).2 hok)
  clear hok hK
  have hyB' := hid hyB
  go_enter Try.func96, Try.ntmps96
  go_upto_region 1 with fail
  refine region_drew_tail 5 (by kernel_rfl) (by kernel_rfl) ?_; simp only [List.take_succ_cons, List.take_zero, List.drop_succ_cons, List.drop_zero]; (repeat (go_big_quiet_step (fail))); refine wpQuiet_nil ?_; intro nq
  have q2 : Below w.heap.size w (w.drewN nq) := bdn (Below.refl _ _) nq
  have hB2 := carry q2 hB
  have hf2 := carryf q2 hf lB
  have hy2 := carry q2 hy
  have hE3 := HE.out _ q2
  have HQ2 := hid q2
  clear hx hy lx ly q2 hf hB HE
  generalize w.drewN nq = w1 at *
  have lB1 := cell_lt hB2
  have ly1 := cell_lt hy2
  have hyc : (w1.setCell ⟨B, v, none⟩ (.slice A ps.length c)).cell? ⟨y, 0, none⟩ = some (.int .i64 v) := by rw [World.cell?_setCell_other _ _ _ _ (by simp [hyB])]; exact hy2
  have lyc : y < (w1.setCell ⟨B, v, none⟩ (.slice A ps.length c)).heap.size := cell_lt hyc
  clear hyB
  go_wp2_with fail
  refine hE3.mono ?_
  rintro e w4 ⟨A4, m4, c4, qs, rfl, hb4, hq⟩
  clear hE3
  go_wp2
  go_ret2
  exact ⟨_, HQ2.out, A4, m4, c4, qs, rfl, hb4, hq⟩
end Go.Proofs.Ytplocljoanaoeaa

namespace Go.Proofs.Ytplocljoanaoeaa
set_option linter.unusedVariables false
set_option linter.unusedSimpArgs false
open Go.RowKit
theorem ta_yes (a : Addr) (w : World) : (Instr.typeAssert (.iface 61 (.pointer (some a))) 20 61 true).run Try.prog w = .ok (.tuple #[.pointer (some a), .bool true]) w := by kernel_rfl
theorem ta_no (w : World) : (Instr.typeAssert .nilIface 20 61 true).run Try.prog w = .ok (.tuple #[.pointer none, .bool false]) w := by kernel_rfl
theorem catch_panicking (p a : Addr) (x : Value) (older : List PanicEntry) (w : World) (hc : w.cell? p = some x) (hz : w.frozen? p = false) :
    CallsD Try.prog 67 #[.pointer (some p)] (.panicking ({ v := .iface 61 (.pointer (some a)), recovered := false } :: older)) w fun e u' w' =>
      e = .returned (.tuple #[]) ∧ u' = .panicking ({ v := .iface 61 (.pointer (some a)), recovered := true } :: older) ∧ w' = w.setCell p (.pointer (some a)) := by
  have hty := ta_yes a
  refine callsD_of_wpS Try.func67 rfl fun c₀ cs hu => ?_
  apply wpS_seq
  apply wpS_region
  simp [wpOpsS, go_sem, recoverD, hu, Try.ntmps67, Exit.thenS, hty]
  apply wpS_seq
  apply wpS_region
  simp [wpOpsS, go_sem, Exit.thenS]
  refine wpS_cond (t := true) (by simp [Act.eval, Array.replicate]) ?_
  simp only [if_true]
  apply wpS_region
  simp [wpOpsS, go_sem, hc, hz, bodyPostS, results, Try.results67]
theorem catch_idle (p : Addr) (w : World) :
    CallsD Try.prog 67 #[.pointer (some p)] .returning w fun e u' w' => e = .returned (.tuple #[]) ∧ u' = .returning ∧ w' = w := by
  have htn := ta_no
  refine callsD_of_wpS Try.func67 rfl fun c₀ cs hu => ?_
  apply wpS_seq
  apply wpS_region
  simp [wpOpsS, go_sem, recoverD, hu, Try.ntmps67, Exit.thenS, htn]
  apply wpS_seq
  apply wpS_region
  simp [wpOpsS, go_sem, Exit.thenS]
  refine wpS_cond (t := false) (by simp [Act.eval, Array.replicate]) ?_
  simp only [Bool.false_eq_true, if_false]
  refine wpS_of_wp (wp_skip ?_)
  cases c₀
  simp_all [bodyPostS, results, Try.results67]
def RefP (w : World) (R : Option FRw) (e : Ending) (w' : World) : Prop :=
  Below w.heap.size w w' ∧ match R with
  | none => e = .returned (.tuple #[])
  | some r => ∃ g, e = .panicked [{ v := .iface 61 (.pointer (some ⟨g, 0, none⟩)), recovered := false }] ∧ RowA w' g r
theorem find_take {p : FRw → Bool} {l : List FRw} {k : Nat} {r : FRw} (h : l[k]? = some r) : (l.take (k + 1)).find? p = ((l.take k).find? p).or (if p r = true then some r else none) := by
  rw [List.take_add_one, h, List.find?_append]
  cases e : p r <;> simp [e]
set_option maxRecDepth 100000 in
set_option maxHeartbeats 8000000 in
theorem refute_any (A : Option Addr) (c n : Nat) (ps : List PF) (w : World) (hl : ps.length ≤ 200) (hA : SlF w A ps) (hR : Rws w ps) (hok : ∀ p ∈ ps, p.2.ok n) :
    Calls Try.prog 69 #[.slice A ps.length c] w (RefP w ((ps.map Prod.snd).find? badF)) := by
  have HR := hid hR; have HOK := hid hok; clear hR hok
  obtain ⟨m, hm⟩ : ∃ m, m = ps.length := ⟨_, rfl⟩
  rw [← hm] at hl ⊢
  have HM := hid hm
  clear hm
  have HG := hid (fun k (p : PF) (h : ps[k]? = some p) => (show (ps.map Prod.snd)[k]? = some p.2 by rw [List.getElem?_map, h]; rfl))
  have HLN := hid (show (ps.map Prod.snd).length = m by rw [List.length_map]; exact HM.out.symm)
  generalize ps.map Prod.snd = l at *
  go_enter Try.func69, Try.ntmps69
  go_wp2
  go_loopw [6] (fun i wr => ∃ k : Nat, k ≤ m ∧ i = .int .i64 k ∧ Below w.heap.size w wr ∧ (l.take k).find? badF = none) (fun i _ => m - (intOf i).toNat)
  case atStart => exact ⟨0, Nat.zero_le _, rfl, Below.refl _ _, rfl⟩
  case round =>
    obtain ⟨k, hk, rfl, hb, hs⟩ := hrel
    have HS := hid hs; clear hs
    by_cases hlt : k < m
    · obtain ⟨⟨a, r⟩, hp⟩ : ∃ p, ps[k]? = some p := ⟨_, List.getElem?_eq_getElem (by have := HM.out; omega)⟩
      have hRA := hid ((HR.out _ (List.mem_of_getElem? hp)).below hb)
      have hrok := hid (HOK.out _ (List.mem_of_getElem? hp))
      have hst := hid (find_take (p := badF) (HG.out k _ hp))
      have HLK := hid (HG.out k _ hp)
      rcases hA with h0 | ⟨g, off, rfl, hg, hcA⟩
      · rw [h0] at hp; cases hp
      have cp := carry hb (hcA k _ hp)
      have lg := cell_lt cp
      clear hcA hp
      unfold ptF at cp
      have hC := contra_any a n r wr hRA.out hrok.out
      have hbf := hid (fun (h : badF r = true) => (show l.find? badF = some r from by
        have e := hst.out
        rw [HS.out] at e
        simp only [h, if_true, Option.none_or] at e
        rw [← List.take_append_drop (k + 1) l, List.find?_append, e]; rfl))
      have hbn := hid (fun (h : badF r = false) => (show (l.take (k + 1)).find? badF = none from by
        have e := hst.out
        rw [HS.out] at e
        simp only [h, Bool.false_eq_true, if_false, Option.none_or] at e
        exact e))
      generalize badF r = bd at hC hbf hbn
      cases bd with
      | true =>
        have HF := hid (hbf.out rfl)
        clear hbf hbn
        go_wp2_with fail
        refine hC.mono ?_
        rintro e w2 ⟨rfl, hq⟩
        have hR2 := hid (hRA.out.below hq)
        clear hC
        go_wp2
        rw [HF.out]
        exact ⟨rfl, btr hb hq, a, rfl, hR2.out⟩
      | false =>
        have HF := hid (hbn.out rfl)
        clear hbf hbn
        go_wp2_with fail
        refine hC.mono ?_
        rintro e w2 ⟨rfl, hq⟩
        clear hC
        go_wp2
        go_roundw
        case rel => exact ⟨k + 1, by omega, by go_num, btr hb hq, HF.out⟩
        case measure => simp [intOf]; omega
    · have hke : k = m := by omega
      have HF := hid (show l.find? badF = none by have := HS.out; rwa [List.take_of_length_le (by rw [HLN.out]; omega)] at this)
      clear hke
      go_wp2
      go_end0
      rw [HF.out]
      exact ⟨hb, rfl⟩
end Go.Proofs.Ytplocljoanaoeaa
