/- Contracts of the program's ModelSame and what it calls. -/
import Derived.Test.YtmeglflbjedndaaMoB
namespace Go.Proofs.Ytmeglflbjedndaa
set_option linter.unusedVariables false
set_option linter.unusedSimpArgs false
open Go.RowKit
theorem eqrat_run3 (x y u v : Int) (w : World) : (Op.equalIn 10000 48 (.agg #[.int .i64 x, .int .i64 y]) (.agg #[.int .i64 u, .int .i64 v])).run Try.prog w = .ok (x == u && y == v) w := by
  have u3 := Try.underlying3
  have a3 := Try.isAgg3
  have z3 := Try.sizeOf3
  rw [show (10000 : Nat) = 9999 + 1 from rfl, Op.equalIn]
  simp only [Sem.run_bind, run_underlying Try.underlying48, Result.andThen_ok]
  by_cases h0 : x = u <;> by_cases h1 : y = v <;> simp [go_sem, u3, a3, z3, h0, h1]
theorem eqrat_yes {x y u v : Int} (h : x = u ∧ y = v) (w : World) : (Op.equalIn 10000 48 (.agg #[.int .i64 x, .int .i64 y]) (.agg #[.int .i64 u, .int .i64 v])).run Try.prog w = .ok true w := by
  rw [eqrat_run3]; simp [h.1, h.2]
theorem eqrat_no {x y u v : Int} (h : ¬ (x = u ∧ y = v)) (w : World) : (Op.equalIn 10000 48 (.agg #[.int .i64 x, .int .i64 y]) (.agg #[.int .i64 u, .int .i64 v])).run Try.prog w = .ok false w := by
  rw [eqrat_run3]
  congr 1
  simpa using h
/-- two lists of fractions are one -/
def ratsE (n : Nat) (P Q : Nat → Int) (m : Nat) (P' Q' : Nat → Int) : Bool := decide (n = m ∧ ∀ k, k < n → P k = P' k ∧ Q k = Q' k)
theorem ratsE_iff {n m : Nat} {P Q P' Q' : Nat → Int} : ratsE n P Q m P' Q' = true ↔ n = m ∧ ∀ k, k < n → P k = P' k ∧ Q k = Q' k := by unfold ratsE; exact decide_eq_true_iff
theorem ratsE_no {n m : Nat} {P Q P' Q' : Nat → Int} (h : ¬ (n = m ∧ ∀ k, k < n → P k = P' k ∧ Q k = Q' k)) : ratsE n P Q m P' Q' = false := by
  cases e : ratsE n P Q m P' Q'
  · rfl
  · exact absurd (ratsE_iff.1 e) h
set_option maxHeartbeats 1000000 in
theorem eqrats_any (A B : Option Addr) (n m c d : Nat) (P Q P' Q' : Nat → Int) (w : World) (hn : n ≤ 9223372036854775807) (hm : m ≤ 9223372036854775807) (hA : Rats w A n P Q) (hB : Rats w B m P' Q') :
    Calls Try.prog 147 #[.slice A n c, .slice B m d] w fun e w' => e = .returned (.bool (ratsE n P Q m P' Q')) ∧ Below w.heap.size w w' := by
  by_cases hnm : n = m
  · subst hnm
    generalize hr : ratsE n P Q n P' Q' = res
    have HR := hid hr; clear hr
    go_enter Try.func147, Try.ntmps147
    go_wp2
    go_loopw [13] (fun i wr => ∃ k : Nat, k ≤ n ∧ i = .int .i64 k ∧ Below w.heap.size w wr ∧ ∀ j, j < k → P j = P' j ∧ Q j = Q' j) (fun i _ => n - (intOf i).toNat)
    case atStart => exact ⟨0, Nat.zero_le _, rfl, Below.refl _ _, fun j hj => by omega⟩
    case round =>
      obtain ⟨k, hk, rfl, hb, he⟩ := hrel
      have HE := hid he; clear he
      by_cases hlt : k < n
      · rcases hA with h0 | ⟨g, off, rfl, hg, hcA⟩
        · omega
        rcases hB with h0 | ⟨g2, off2, rfl, hg2, hcB⟩
        · omega
        have c1 := carry hb (hcA k hlt).1
        have c2 := carry hb (hcA k hlt).2
        have c3 := carry hb (hcB k hlt).1
        have c4 := carry hb (hcB k hlt).2
        have gg : g < wr.heap.size := Nat.lt_of_lt_of_le hg hb.size
        have gg2 : g2 < wr.heap.size := Nat.lt_of_lt_of_le hg2 hb.size
        clear hcA hcB
        by_cases heq : P k = P' k ∧ Q k = Q' k
        · have e1 := eqrat_yes heq
          have HQ := hid heq; clear heq
          go_wp2
          go_region
          all_goals
            go_wp2
            go_roundw
            case rel =>
              refine ⟨k + 1, by omega, by go_num, hb.drew, fun j hj => ?_⟩
              by_cases e : j = k
              · subst e; exact HQ.out
              · exact HE.out j (by omega)
            case measure => simp [intOf]; omega
        · have e1 := eqrat_no heq
          have HF := hid (ratsE_no (n := n) (m := n) (fun h => heq (h.2 k hlt))); clear heq
          go_wp2
          go_region
          all_goals
            go_wp2
            go_ret
            exact ⟨ret_bool (by rw [← HR.out, HF.out]), hb.drew⟩
      · have hke : k = n := by omega
        subst hke
        have HT := hid (ratsE_iff.2 ⟨rfl, HE.out⟩)
        go_wp2
        go_ret
        exact ⟨ret_bool (by rw [← HR.out, HT.out]), hb⟩
  · have HF := hid (ratsE_no (P := P) (Q := Q) (P' := P') (Q' := Q') (fun h => hnm h.1))
    have d1 : ((n : Int) != m) = true := by simp; omega
    clear hnm
    go_enter Try.func147, Try.ntmps147
    go_wp2
    go_ret
    exact ⟨ret_bool HF.out.symm, Below.refl _ _⟩
/-- two rows are one -/
def rowE (nm nm2 : ByteArray) (n : Nat) (P Q : Nat → Int) (m : Nat) (P' Q' : Nat → Int) (u v u2 v2 : Int) : Bool := decide (nm.toList = nm2.toList ∧ ratsE n P Q m P' Q' = true ∧ u = u2 ∧ v = v2)
theorem rowE_iff {nm nm2 : ByteArray} {n m : Nat} {P Q P' Q' : Nat → Int} {u v u2 v2 : Int} : rowE nm nm2 n P Q m P' Q' u v u2 v2 = true ↔ nm.toList = nm2.toList ∧ ratsE n P Q m P' Q' = true ∧ u = u2 ∧ v = v2 := by unfold rowE; exact decide_eq_true_iff
theorem rowE_no {nm nm2 : ByteArray} {n m : Nat} {P Q P' Q' : Nat → Int} {u v u2 v2 : Int} (h : ¬ (nm.toList = nm2.toList ∧ ratsE n P Q m P' Q' = true ∧ u = u2 ∧ v = v2)) : rowE nm nm2 n P Q m P' Q' u v u2 v2 = false := by
  cases e : rowE nm nm2 n P Q m P' Q' u v u2 v2
  · rfl
  · exact absurd (rowE_iff.1 e) h
set_option maxRecDepth 100000 in
set_option maxHeartbeats 2000000 in
theorem same_row (nm nm2 : ByteArray) (A B : Option Addr) (n m c d : Nat) (P Q P' Q' : Nat → Int) (u v u2 v2 : Int) (w : World) (hn : n ≤ 9223372036854775806) (hm : m ≤ 9223372036854775806) (hA : Rats w A n P Q) (hB : Rats w B m P' Q') :
    Calls Try.prog 80 #[.agg #[.string nm, .slice A n c, .int .i64 u, .int .i64 v], .agg #[.string nm2, .slice B m d, .int .i64 u2, .int .i64 v2]] w fun e w' => e = .returned (.bool (rowE nm nm2 n P Q m P' Q' u v u2 v2)) ∧ Below w.heap.size w w' := by
  have hS := fun W (hb : Below w.heap.size w W) => eqrats_any A B n m c d P Q P' Q' W (by omega) (by omega) (hA.below hb) (hB.below hb)
  clear hA hB hn hm
  by_cases h : nm.toList = nm2.toList
  · have d1 : (nm.toList == nm2.toList) = true := by simpa using h
    have HH := hid h; clear h
    cases h2 : ratsE n P Q m P' Q'
    · rw [h2] at hS
      have HF := hid (rowE_no (nm := nm) (nm2 := nm2) (u := u) (v := v) (u2 := u2) (v2 := v2) (fun h => by rw [h2] at h; simp at h)); clear h2
      go_enter Try.func80, Try.ntmps80
      go_wp2_with (go_at_call 147; refine (hS _ (bal (bal (Below.refl _ _) _) _)).mono ?_; rintro e w1 ⟨rfl, hq⟩)
      go_ret
      exact ⟨ret_bool HF.out.symm, btr (bal (bal (Below.refl _ _) _) _) hq⟩
    · rw [h2] at hS
      by_cases e : u = u2 ∧ v = v2
      · have hE := eqrat_yes e
        have HF := hid (rowE_iff.2 ⟨HH.out, h2, e.1, e.2⟩)
        clear h2 e
        go_enter Try.func80, Try.ntmps80
        go_wp2_with (go_at_call 147; refine (hS _ (bal (bal (Below.refl _ _) _) _)).mono ?_; rintro e w1 ⟨rfl, hq⟩; obtain ⟨hc, hf⟩ := bcell hq)
        go_ret
        clear hc hf
        exact ⟨ret_bool HF.out.symm, btr (bal (bal (Below.refl _ _) _) _) hq⟩
      · have hE := eqrat_no e
        have HF := hid (rowE_no (nm := nm) (nm2 := nm2) (n := n) (m := m) (P := P) (Q := Q) (P' := P') (Q' := Q') (u := u) (v := v) (u2 := u2) (v2 := v2) (fun h => e ⟨h.2.2.1, h.2.2.2⟩))
        clear h2 e
        go_enter Try.func80, Try.ntmps80
        go_wp2_with (go_at_call 147; refine (hS _ (bal (bal (Below.refl _ _) _) _)).mono ?_; rintro e w1 ⟨rfl, hq⟩; obtain ⟨hc, hf⟩ := bcell hq)
        go_ret
        clear hc hf
        exact ⟨ret_bool HF.out.symm, btr (bal (bal (Below.refl _ _) _) _) hq⟩
  · have HF := hid (rowE_no (n := n) (m := m) (P := P) (Q := Q) (P' := P') (Q' := Q') (u := u) (v := v) (u2 := u2) (v2 := v2) (fun x => h x.1))
    have d1 : (nm.toList == nm2.toList) = false := by simpa using h
    clear h
    go_enter Try.func80, Try.ntmps80
    go_wp2
    go_ret
    exact ⟨ret_bool HF.out.symm, bal (bal (Below.refl _ _) _) _⟩
/-- two models are one -/
def modE (n : Nat) (L : Mo) (m : Nat) (M : Mo) : Bool := decide (n = m ∧ ∀ k, k < n → rowE (L.Nm k) (M.Nm k) (L.N k) (L.P k) (L.Q k) (M.N k) (M.P k) (M.Q k) (L.U k) (L.V k) (M.U k) (M.V k) = true)
theorem modE_iff {n m : Nat} {L M : Mo} : modE n L m M = true ↔ n = m ∧ ∀ k, k < n → rowE (L.Nm k) (M.Nm k) (L.N k) (L.P k) (L.Q k) (M.N k) (M.P k) (M.Q k) (L.U k) (L.V k) (M.U k) (M.V k) = true := by unfold modE; exact decide_eq_true_iff
theorem modE_no {n m : Nat} {L M : Mo} (h : ¬ (n = m ∧ ∀ k, k < n → rowE (L.Nm k) (M.Nm k) (L.N k) (L.P k) (L.Q k) (M.N k) (M.P k) (M.Q k) (L.U k) (L.V k) (M.U k) (M.V k) = true)) : modE n L m M = false := by
  cases e : modE n L m M
  · rfl
  · exact absurd (modE_iff.1 e) h
theorem same_rowat {nm nm2 : ByteArray} {A B : Option Addr} {n m c d : Nat} {P Q P' Q' : Nat → Int} {u v u2 v2 : Int} {w : World} (hn : n ≤ 1048576) (hm : m ≤ 1048576) (hA : Rats w A n P Q) (hB : Rats w B m P' Q') {r : Bool} (h : rowE nm nm2 n P Q m P' Q' u v u2 v2 = r) (W : World) (hb : Below w.heap.size w W) :
    Calls Try.prog 80 #[.agg #[.string nm, .slice A n c, .int .i64 u, .int .i64 v], .agg #[.string nm2, .slice B m d, .int .i64 u2, .int .i64 v2]] W fun e w' => e = .returned (.bool r) ∧ Below W.heap.size W w' := by
  subst h; exact same_row nm nm2 A B n m c d P Q P' Q' u v u2 v2 W (by omega) (by omega) (hA.below hb) (hB.below hb)
set_option maxRecDepth 100000 in
set_option maxHeartbeats 4000000 in
theorem eqfuncR_any (A B : Option Addr) (n m c d : Nat) (L M : Mo) (w : World) (hn : n ≤ 9223372036854775806) (hm : m ≤ 9223372036854775806) (hA : MRows w A n L) (hB : MRows w B m M) (hL : SmM n L) (hM : SmM m M) :
    Calls Try.prog 79 #[.slice A n c, .slice B m d, .func (.func 80) #[] #[]] w fun e w' => e = .returned (.bool (modE n L m M)) ∧ Below w.heap.size w w' := by
  generalize hr : modE n L m M = res
  have HR := hid hr; clear hr
  have HL := hid hL; have HM := hid hM; clear hL hM
  by_cases hnm : n = m
  · subst hnm
    go_enter Try.func79, Try.ntmps79
    go_wp2
    go_loopw [17] (fun i wr => ∃ k : Nat, k ≤ n ∧ i = .int .i64 k ∧ Below w.heap.size w wr ∧ ∀ j, j < k → rowE (L.Nm j) (M.Nm j) (L.N j) (L.P j) (L.Q j) (M.N j) (M.P j) (M.Q j) (L.U j) (L.V j) (M.U j) (M.V j) = true) (fun i _ => n - (intOf i).toNat)
    case atStart => exact ⟨0, Nat.zero_le _, rfl, Below.refl _ _, fun j hj => by omega⟩
    case round =>
      obtain ⟨k, hk, rfl, hb, he⟩ := hrel
      have HE := hid he; clear he
      by_cases hlt : k < n
      · rcases hA with h0 | ⟨g, off, rfl, hg, hcA⟩
        · omega
        rcases hB with h0 | ⟨g2, off2, rfl, hg2, hcB⟩
        · omega
        obtain ⟨a, ca, a0, a1, a2, a3, _, _, hI⟩ := hcA k hlt
        obtain ⟨b, cb, b0, b1, b2, b3, _, _, hJ⟩ := hcB k hlt
        have gg : g < wr.heap.size := Nat.lt_of_lt_of_le hg hb.size
        have gg2 : g2 < wr.heap.size := Nat.lt_of_lt_of_le hg2 hb.size
        have gg3 : g2 < wr.heap.size + 1 := by omega
        replace a0 := carry hb a0
        replace a1 := carry hb a1
        replace a2 := carry hb a2
        replace a3 := carry hb a3
        replace b0 := carry hb b0
        replace b1 := carry hb b1
        replace b2 := carry hb b2
        replace b3 := carry hb b3
        replace hI := hI.below hb
        replace hJ := hJ.below hb
        clear hcA hcB
        cases hv : rowE (L.Nm k) (M.Nm k) (L.N k) (L.P k) (L.Q k) (M.N k) (M.P k) (M.Q k) (L.U k) (L.V k) (M.U k) (M.V k)
        · have hO := fun W h => same_rowat (c := ca) (d := cb) (HL.out k hlt).1 (HM.out k hlt).1 hI hJ hv W h
          have HF := hid (modE_no (n := n) (m := n) (L := L) (M := M) (fun h => by have := h.2 k hlt; rw [hv] at this; cases this)); clear hv
          go_wp2_with (go_at_call 80; refine (hO _ (bal (bal (Below.refl _ _) _) _)).mono ?_; rintro e w1 ⟨rfl, hq⟩)
          go_ret
          exact ⟨ret_bool (HF.out.symm.trans HR.out), btr hb (btr (bal (bal (Below.refl _ _) _) _) hq)⟩
        · have hO := fun W h => same_rowat (c := ca) (d := cb) (HL.out k hlt).1 (HM.out k hlt).1 hI hJ hv W h
          have HV := hid hv; clear hv
          go_wp2_with (go_at_call 80; refine (hO _ (bal (bal (Below.refl _ _) _) _)).mono ?_; rintro e w1 ⟨rfl, hq⟩)
          go_roundw
          case rel =>
            refine ⟨k + 1, by omega, by go_num, btr hb (btr (bal (bal (Below.refl _ _) _) _) hq), fun j hj => ?_⟩
            by_cases e : j = k
            · subst e; exact HV.out
            · exact HE.out j (by omega)
          case measure => simp [intOf]; omega
      · have hke : k = n := by omega
        subst hke
        have HT := hid (modE_iff.2 ⟨rfl, HE.out⟩)
        go_wp2
        go_ret
        exact ⟨ret_bool (HT.out.symm.trans HR.out), hb⟩
  · have HF := hid (modE_no (L := L) (M := M) (fun h => hnm h.1))
    have d1 : ((n : Int) != m) = true := by simp; omega
    clear hnm
    go_enter Try.func79, Try.ntmps79
    go_wp2
    go_ret
    exact ⟨ret_bool (HF.out.symm.trans HR.out), Below.refl _ _⟩
theorem modelsame_any (A B : Option Addr) (n m c d : Nat) (L M : Mo) (w : World) (hn : n ≤ 9223372036854775806) (hm : m ≤ 9223372036854775806) (hA : MRows w A n L) (hB : MRows w B m M) (hL : SmM n L) (hM : SmM m M) :
    Calls Try.prog 18 #[.agg #[.slice A n c], .agg #[.slice B m d]] w fun e w' => e = .returned (.bool (modE n L m M)) ∧ Below w.heap.size w w' := by
  have hE := fun W (h : Below w.heap.size w W) => eqfuncR_any A B n m c d L M W hn hm (hA.below h) (hB.below h) hL hM
  clear hA hB hL hM
  go_enter Try.func18, Try.ntmps18
  go_wp2_with fail
  refine (hE _ (bal (bal (Below.refl _ _) _) _)).mono ?_
  rintro e w1 ⟨rfl, hq⟩
  clear hE
  go_wp2_with fail
  go_ret
  exact ⟨rfl, btr (bal (bal (Below.refl _ _) _) _) hq⟩
end Go.Proofs.Ytmeglflbjedndaa
