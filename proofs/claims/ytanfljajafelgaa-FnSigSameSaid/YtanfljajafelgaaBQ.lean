/- Several texts in one: SigF, SigG. -/
import Derived.Test.YtanfljajafelgaaBS
namespace Go.Proofs.Ytanfljajafelgaa
set_option linter.unusedVariables false
set_option linter.unusedSimpArgs false
open Go.RowKit
/-- two symbols are one -/
def symE (nm nm2 : ByteArray) (n : Nat) (Z : Nat → Int) (m : Nat) (Y : Nat → Int) (s s2 : Int) : Bool := decide (nm.toList = nm2.toList ∧ eqI n Z m Y = true ∧ s = s2)
theorem symE_iff {nm nm2 : ByteArray} {n m : Nat} {Z Y : Nat → Int} {s s2 : Int} : symE nm nm2 n Z m Y s s2 = true ↔ nm.toList = nm2.toList ∧ eqI n Z m Y = true ∧ s = s2 := by unfold symE; exact decide_eq_true_iff
theorem symE_no {nm nm2 : ByteArray} {n m : Nat} {Z Y : Nat → Int} {s s2 : Int} (h : ¬ (nm.toList = nm2.toList ∧ eqI n Z m Y = true ∧ s = s2)) : symE nm nm2 n Z m Y s s2 = false := by
  cases e : symE nm nm2 n Z m Y s s2
  · rfl
  · exact absurd (symE_iff.1 e) h
set_option maxRecDepth 100000 in
set_option maxHeartbeats 2000000 in
theorem same_sym (nm nm2 : ByteArray) (A B : Option Addr) (n m c d : Nat) (Z Y : Nat → Int) (s s2 : Int) (w : World) (hn : n ≤ 9223372036854775806) (hm : m ≤ 9223372036854775806) (hA : Ints w A n Z) (hB : Ints w B m Y) :
    Calls Try.prog 93 #[.agg #[.string nm, .slice A n c, .int .i64 s], .agg #[.string nm2, .slice B m d, .int .i64 s2]] w fun e w' => e = .returned (.bool (symE nm nm2 n Z m Y s s2)) ∧ Below w.heap.size w w' := by
  have hS := fun W (hb : Below w.heap.size w W) => sleq_any A B n m c d Z Y W (by omega) (by omega) (hA.below hb) (hB.below hb)
  clear hA hB hn hm
  by_cases h : nm.toList = nm2.toList
  · have d1 : (nm.toList == nm2.toList) = true := by simpa using h
    have HH := hid h; clear h
    cases h2 : eqI n Z m Y
    · rw [h2] at hS
      have HF := hid (symE_no (nm := nm) (nm2 := nm2) (s := s) (s2 := s2) (fun h => by rw [h2] at h; simp at h)); clear h2
      go_enter Try.func93, Try.ntmps93
      go_wp2_with (go_at_call 154; refine (hS _ (bal (bal (Below.refl _ _) _) _)).mono ?_; rintro e w1 ⟨rfl, hq⟩)
      go_ret
      exact ⟨ret_bool HF.out.symm, btr (bal (bal (Below.refl _ _) _) _) hq⟩
    · rw [h2] at hS
      have HF : Hid (symE nm nm2 n Z m Y s s2 = (s == s2)) := hid (by
        by_cases e : s = s2
        · subst e; rw [symE_iff.2 ⟨HH.out, h2, rfl⟩]; simp
        · rw [symE_no (fun x => e x.2.2)]; simp [e])
      clear h2
      go_enter Try.func93, Try.ntmps93
      go_wp2_with (go_at_call 154; refine (hS _ (bal (bal (Below.refl _ _) _) _)).mono ?_; rintro e w1 ⟨rfl, hq⟩; obtain ⟨hc, hf⟩ := bcell hq)
      go_ret
      clear hc hf
      exact ⟨ret_bool HF.out.symm, btr (bal (bal (Below.refl _ _) _) _) hq⟩
  · have HF := hid (symE_no (n := n) (m := m) (Z := Z) (Y := Y) (s := s) (s2 := s2) (fun x => h x.1))
    have d1 : (nm.toList == nm2.toList) = false := by simpa using h
    clear h
    go_enter Try.func93, Try.ntmps93
    go_wp2
    go_ret
    exact ⟨ret_bool HF.out.symm, bal (bal (Below.refl _ _) _) _⟩
/-- two vocabularies are one -/
def sigE (n : Nat) (L : Sy) (m : Nat) (M : Sy) : Bool := decide (n = m ∧ ∀ k, k < n → symE (L.Nm k) (M.Nm k) (L.N k) (L.Z k) (M.N k) (M.Z k) (L.S k) (M.S k) = true)
theorem sigE_iff {n m : Nat} {L M : Sy} : sigE n L m M = true ↔ n = m ∧ ∀ k, k < n → symE (L.Nm k) (M.Nm k) (L.N k) (L.Z k) (M.N k) (M.Z k) (L.S k) (M.S k) = true := by unfold sigE; exact decide_eq_true_iff
theorem sigE_no {n m : Nat} {L M : Sy} (h : ¬ (n = m ∧ ∀ k, k < n → symE (L.Nm k) (M.Nm k) (L.N k) (L.Z k) (M.N k) (M.Z k) (L.S k) (M.S k) = true)) : sigE n L m M = false := by
  cases e : sigE n L m M
  · rfl
  · exact absurd (sigE_iff.1 e) h
theorem same_symat {nm nm2 : ByteArray} {A B : Option Addr} {n m c d : Nat} {Z Y : Nat → Int} {s s2 : Int} {w : World} (hn : n ≤ 1048576) (hm : m ≤ 1048576) (hA : Ints w A n Z) (hB : Ints w B m Y) {v : Bool} (h : symE nm nm2 n Z m Y s s2 = v) (W : World) (hb : Below w.heap.size w W) :
    Calls Try.prog 93 #[.agg #[.string nm, .slice A n c, .int .i64 s], .agg #[.string nm2, .slice B m d, .int .i64 s2]] W fun e w' => e = .returned (.bool v) ∧ Below W.heap.size W w' := by
  subst h; exact same_sym nm nm2 A B n m c d Z Y s s2 W (by omega) (by omega) (hA.below hb) (hB.below hb)
set_option maxRecDepth 100000 in
set_option maxHeartbeats 4000000 in
theorem eqfunc_any (A B : Option Addr) (n m c d : Nat) (L M : Sy) (w : World) (hn : n ≤ 9223372036854775806) (hm : m ≤ 9223372036854775806) (hA : Syms w A n L) (hB : Syms w B m M) (hL : SmY n L) (hM : SmY m M) :
    Calls Try.prog 92 #[.slice A n c, .slice B m d, .func (.func 93) #[] #[]] w fun e w' => e = .returned (.bool (sigE n L m M)) ∧ Below w.heap.size w w' := by
  generalize hr : sigE n L m M = res
  have HR := hid hr; clear hr
  have HL := hid hL; have HM := hid hM; clear hL hM
  by_cases hnm : n = m
  · subst hnm
    go_enter Try.func92, Try.ntmps92
    go_wp2
    go_loopw [17] (fun i wr => ∃ k : Nat, k ≤ n ∧ i = .int .i64 k ∧ Below w.heap.size w wr ∧ ∀ j, j < k → symE (L.Nm j) (M.Nm j) (L.N j) (L.Z j) (M.N j) (M.Z j) (L.S j) (M.S j) = true) (fun i _ => n - (intOf i).toNat)
    case atStart => exact ⟨0, Nat.zero_le _, rfl, Below.refl _ _, fun j hj => by omega⟩
    case round =>
      obtain ⟨k, hk, rfl, hb, he⟩ := hrel
      have HE := hid he; clear he
      by_cases hlt : k < n
      · rcases hA with h0 | ⟨g, off, rfl, hg, hcA⟩
        · omega
        rcases hB with h0 | ⟨g2, off2, rfl, hg2, hcB⟩
        · omega
        obtain ⟨a, ca, a0, a1, a2, _, _, hI⟩ := hcA k hlt
        obtain ⟨b, cb, b0, b1, b2, _, _, hJ⟩ := hcB k hlt
        have gg : g < wr.heap.size := Nat.lt_of_lt_of_le hg hb.size
        have gg2 : g2 < wr.heap.size := Nat.lt_of_lt_of_le hg2 hb.size
        have gg3 : g2 < wr.heap.size + 1 := by omega
        replace a0 := carry hb a0
        replace a1 := carry hb a1
        replace a2 := carry hb a2
        replace b0 := carry hb b0
        replace b1 := carry hb b1
        replace b2 := carry hb b2
        replace hI := hI.below hb
        replace hJ := hJ.below hb
        clear hcA hcB
        cases hv : symE (L.Nm k) (M.Nm k) (L.N k) (L.Z k) (M.N k) (M.Z k) (L.S k) (M.S k)
        · have hO := fun W h => same_symat (c := ca) (d := cb) (HL.out k hlt).1 (HM.out k hlt).1 hI hJ hv W h
          have HF := hid (sigE_no (n := n) (m := n) (L := L) (M := M) (fun h => by have := h.2 k hlt; rw [hv] at this; cases this)); clear hv
          go_wp2_with (go_at_call 93; refine (hO _ (bal (bal (Below.refl _ _) _) _)).mono ?_; rintro e w1 ⟨rfl, hq⟩)
          go_ret
          exact ⟨ret_bool (HF.out.symm.trans HR.out), btr hb (btr (bal (bal (Below.refl _ _) _) _) hq)⟩
        · have hO := fun W h => same_symat (c := ca) (d := cb) (HL.out k hlt).1 (HM.out k hlt).1 hI hJ hv W h
          have HV := hid hv; clear hv
          go_wp2_with (go_at_call 93; refine (hO _ (bal (bal (Below.refl _ _) _) _)).mono ?_; rintro e w1 ⟨rfl, hq⟩)
          go_roundw
          case rel =>
            refine ⟨k + 1, by omega, by go_num, btr hb (btr (bal (bal (Below.refl _ _) _) _) hq), fun j hj => ?_⟩
            by_cases e : j = k
            · subst e; exact HV.out
            · exact HE.out j (by omega)
          case measure => simp [intOf]; omega
      · have hke : k = n := by omega
        subst hke
        have HT := hid (sigE_iff.2 ⟨rfl, HE.out⟩)
        go_wp2
        go_ret
        exact ⟨ret_bool (HT.out.symm.trans HR.out), hb⟩
  · have HF := hid (sigE_no (L := L) (M := M) (fun h => hnm h.1))
    have d1 : ((n : Int) != m) = true := by simp; omega
    clear hnm
    go_enter Try.func92, Try.ntmps92
    go_wp2
    go_ret
    exact ⟨ret_bool (HF.out.symm.trans HR.out), Below.refl _ _⟩
theorem sigsame_any (A B : Option Addr) (n m c d : Nat) (L M : Sy) (w : World) (hn : n ≤ 9223372036854775806) (hm : m ≤ 9223372036854775806) (hA : Syms w A n L) (hB : Syms w B m M) (hL : SmY n L) (hM : SmY m M) :
    Calls Try.prog 17 #[.agg #[.slice A n c], .agg #[.slice B m d]] w fun e w' => e = .returned (.bool (sigE n L m M)) ∧ Below w.heap.size w w' := by
  have hE := fun W (h : Below w.heap.size w W) => eqfunc_any A B n m c d L M W hn hm (hA.below h) (hB.below h) hL hM
  clear hA hB hL hM
  go_enter Try.func17, Try.ntmps17
  go_wp2_with fail
  refine (hE _ (bal (bal (Below.refl _ _) _) _)).mono ?_
  rintro e w1 ⟨rfl, hq⟩
  clear hE
  go_wp2_with fail
  go_ret
  exact ⟨rfl, btr (bal (bal (Below.refl _ _) _) _) hq⟩
end Go.Proofs.Ytanfljajafelgaa

namespace Go.Proofs.Ytanfljajafelgaa
set_option linter.unusedVariables false
set_option linter.unusedSimpArgs false
open Go.RowKit
set_option maxRecDepth 100000 in
set_option maxHeartbeats 8000000 in
theorem ssigsame_any (A B : Option Addr) (n m c d : Nat) (L M : Sy) (w : World) (hn : n ≤ 9223372036854775806) (hm : m ≤ 9223372036854775806) (hA : Syms w A n L) (hB : Syms w B m M) (hL : SmY n L) (hM : SmY m M) :
    Calls Try.prog 18 #[.agg #[.slice A n c], .agg #[.slice B m d]] w fun e w' => e = .returned (.bool (sigE n L m M)) ∧ Below w.heap.size w w' := by
  generalize hr : sigE n L m M = res
  have HR := hid hr; clear hr
  have HL := hid hL; have HM := hid hM; clear hL hM
  by_cases hnm : n = m
  · subst hnm
    have b0 : ((w.alloc (.cells #[.slice A n c] 25)).alloc (.cells #[.slice B n d] 25)).cell? ⟨w.heap.size, 0, none⟩ = some (.slice A n c) := by simp [go_sem]
    have b1 : ((w.alloc (.cells #[.slice A n c] 25)).alloc (.cells #[.slice B n d] 25)).cell? ⟨w.heap.size + 1, 0, none⟩ = some (.slice B n d) := by simp [go_sem]
    have q0 := bal (bal (Below.refl w.heap.size w) (.cells #[.slice A n c] 25)) (.cells #[.slice B n d] 25)
    have hA2 := hA.below q0
    have hB2 := hB.below q0
    clear hA hB
    go_enter Try.func18, Try.ntmps18
    go_wp2
    generalize (w.alloc (.cells #[.slice A n c] 25)).alloc (.cells #[.slice B n d] 25) = W0 at *
    go_loopw [5] (fun i wr => ∃ k : Nat, k ≤ n ∧ i = .int .i64 k ∧ Below W0.heap.size W0 wr ∧ ∀ j, j < k → symE (L.Nm j) (M.Nm j) (L.N j) (L.Z j) (M.N j) (M.Z j) (L.S j) (M.S j) = true) (fun i _ => n - (intOf i).toNat)
    case atStart => exact ⟨0, Nat.zero_le _, rfl, Below.refl _ _, fun j hj => by omega⟩
    case round =>
      obtain ⟨k, hk, rfl, hb, he⟩ := hrel
      have HE := hid he; clear he
      have g0 := carry hb b0
      have g1 := carry hb b1
      have gs0 : w.heap.size < wr.heap.size := cell_lt g0
      have gs1 : w.heap.size + 1 < wr.heap.size := cell_lt g1
      clear b0 b1
      by_cases hlt : k < n
      · rcases hA2 with h0 | ⟨g, off, rfl, hg, hcA⟩
        · omega
        rcases hB2 with h0 | ⟨g2, off2, rfl, hg2, hcB⟩
        · omega
        obtain ⟨a, ca, a0, a1, a2, _, _, hI⟩ := hcA k hlt
        obtain ⟨b, cb, b0, b1, b2, _, _, hJ⟩ := hcB k hlt
        have gg : g < wr.heap.size := Nat.lt_of_lt_of_le hg hb.size
        have gg2 : g2 < wr.heap.size := Nat.lt_of_lt_of_le hg2 hb.size
        have gg3 : g2 < wr.heap.size + 1 := by omega
        replace a0 := carry hb a0
        replace a1 := carry hb a1
        replace a2 := carry hb a2
        replace b0 := carry hb b0
        replace b1 := carry hb b1
        replace b2 := carry hb b2
        replace hI := hI.below hb
        replace hJ := hJ.below hb
        clear hcA hcB
        go_upto_region 8 with fail
        have H := (KcL.alloc (KcL.new3 wr (.string (L.Nm k)) (.slice a (L.N k) ca) (.int .i64 (L.S k)) 33 rfl) (.cells #[.string (M.Nm k), .slice b (M.N k) cb, .int .i64 (M.S k)] 33)).app (KcL.new3 (wr.alloc (.cells #[.string (L.Nm k), .slice a (L.N k) ca, .int .i64 (L.S k)] 33)) (.string (M.Nm k)) (.slice b (M.N k) cb) (.int .i64 (M.S k)) 33 (n := wr.heap.size + 1) (by simp))
        have al := bal (bal (Below.refl wr.heap.size wr) (.cells #[.string (L.Nm k), .slice a (L.N k) ca, .int .i64 (L.S k)] 33)) (.cells #[.string (M.Nm k), .slice b (M.N k) cb, .int .i64 (M.S k)] 33)
        replace g0 := carry al g0
        replace g1 := carry al g1
        replace hb := btr hb al
        replace hI := hI.below al
        replace hJ := hJ.below al
        clear a0 a1 a2 b0 b1 b2 al gg gg2 gg3 hg hg2
        generalize hxb : wr.heap.size + 1 = yb at H ⊢
        generalize wr.heap.size = xb at H ⊢
        generalize (wr.alloc (.cells #[.string (L.Nm k), .slice a (L.N k) ca, .int .i64 (L.S k)] 33)).alloc (.cells #[.string (M.Nm k), .slice b (M.N k) cb, .int .i64 (M.S k)] 33) = W1 at *
        clear hxb gs0 gs1
        have HH_ := H; obtain ⟨x0, x1, x2, x3, x4, x5, _⟩ := HH_
        clear H
        have no : ∀ {p : Prop}, ¬ p → (sigE n L n M = true → p) → sigE n L n M = false := fun hp h => by
          cases e : sigE n L n M
          · rfl
          · exact absurd (h e) hp
        by_cases h1 : (L.Nm k).toList = (M.Nm k).toList
        · have d1 : ((L.Nm k).toList == (M.Nm k).toList) = true := by simpa using h1
          have d1' : ((L.Nm k).toList != (M.Nm k).toList) = false := by simpa using h1
          have H1 := hid h1; clear h1
          by_cases h2 : L.S k = M.S k
          · have d2 : (L.S k != M.S k) = false := by simpa using h2
            have H2 := hid h2; clear h2
            by_cases h3 : L.N k = M.N k
            · have d3 : ((L.N k : Int) != (M.N k : Int)) = false := by simp; omega
              have d3' : (L.N k != M.N k) = false := by simpa using h3
              have H3 := hid h3; clear h3
              have hLk : L.N k ≤ 1048576 := (HL.out k hlt).1
              go_wp2
              go_loopw [8] (fun i wx => ∃ j : Nat, j ≤ L.N k ∧ i = .int .i64 j ∧ Below W1.heap.size W1 wx ∧ ∀ t, t < j → L.Z k t = M.Z k t) (fun i _ => L.N k - (intOf i).toNat)
              case atStart => exact ⟨0, Nat.zero_le _, rfl, Below.refl _ _, fun t ht => by omega⟩
              case round =>
                obtain ⟨j, hj, rfl, hbx, hz⟩ := hrel
                have HZ := hid hz; clear hz
                replace x1 := carry hbx x1
                replace x4 := carry hbx x4
                replace g0 := carry hbx g0
                replace g1 := carry hbx g1
                by_cases hlt2 : j < L.N k
                · have hlt3 : j < M.N k := by have := H3.out; omega
                  rcases hI with h0 | ⟨p, o, rfl, hp, hcp⟩
                  · omega
                  rcases hJ with h0 | ⟨p2, o2, rfl, hp2, hcp2⟩
                  · omega
                  have c1 := carry hbx (hcp j hlt2)
                  have c2 := carry hbx (hcp2 j hlt3)
                  clear hcp hcp2
                  by_cases h4 : L.Z k j = M.Z k j
                  · have e2 : (L.Z k j != M.Z k j) = false := by simpa using h4
                    have e1 : (L.Z k j == M.Z k j) = true := by simpa using h4
                    have H4 := hid h4; clear h4
                    go_wp2
                    go_quiet (fail)
                    go_wp2
                    go_roundw
                    case rel =>
                      refine ⟨j + 1, by omega, by go_num, bdn hbx _, fun t ht => ?_⟩
                      by_cases e : t = j
                      · subst e; exact H4.out
                      · exact HZ.out t (by omega)
                    case measure => simp [intOf]; omega
                  · have e2 : (L.Z k j != M.Z k j) = true := by simpa using h4
                    have e1 : (L.Z k j == M.Z k j) = false := by simpa using h4
                    have HF := hid (no (p := L.Z k j = M.Z k j) h4 (fun e => (eqI_iff.1 (symE_iff.1 ((sigE_iff.1 e).2 k hlt)).2.1).2 j hlt2)); clear h4
                    go_wp2
                    go_quiet (fail)
                    go_wp2
                    go_ret
                    exact ⟨ret_bool (HF.out.symm.trans HR.out), btr q0 (btr hb (bdn hbx _))⟩
                · have hje : j = L.N k := by omega
                  have HJ := hid hje
                  have d5 : decide ((j : Int) < (L.N k : Int)) = false := by simp; omega
                  have HY := hid (symE_iff.2 ⟨H1.out, eqI_iff.2 ⟨H3.out, fun t ht => HZ.out t (by omega)⟩, H2.out⟩)
                  clear hje
                  go_wp2
                  go_roundw
                  case rel =>
                    refine ⟨k + 1, by omega, by go_num, btr hb hbx, fun t ht => ?_⟩
                    by_cases e : t = k
                    · rw [e]; exact HY.out
                    · exact HE.out t (by omega)
                  case measure => simp [intOf]; omega
            · have d3 : ((L.N k : Int) != (M.N k : Int)) = true := by simp; omega
              have d3' : (L.N k != M.N k) = true := by simpa using h3
              have HF := hid (no (p := L.N k = M.N k) h3 (fun e => (eqI_iff.1 (symE_iff.1 ((sigE_iff.1 e).2 k hlt)).2.1).1)); clear h3
              go_wp2
              go_ret
              exact ⟨ret_bool (HF.out.symm.trans HR.out), btr q0 hb⟩
          · have d2 : (L.S k != M.S k) = true := by simpa using h2
            have HF := hid (no (p := L.S k = M.S k) h2 (fun e => (symE_iff.1 ((sigE_iff.1 e).2 k hlt)).2.2)); clear h2
            go_wp2
            go_ret
            exact ⟨ret_bool (HF.out.symm.trans HR.out), btr q0 hb⟩
        · have d1 : ((L.Nm k).toList == (M.Nm k).toList) = false := by simpa using h1
          have d1' : ((L.Nm k).toList != (M.Nm k).toList) = true := by simpa using h1
          have HF := hid (no (p := (L.Nm k).toList = (M.Nm k).toList) h1 (fun e => (symE_iff.1 ((sigE_iff.1 e).2 k hlt)).1)); clear h1
          go_wp2
          go_ret
          exact ⟨ret_bool (HF.out.symm.trans HR.out), btr q0 hb⟩
      · have hke : k = n := by omega
        subst hke
        have HT := hid (sigE_iff.2 ⟨rfl, HE.out⟩)
        go_wp2
        go_ret
        exact ⟨ret_bool (HT.out.symm.trans HR.out), btr q0 hb⟩
  · have HF := hid (sigE_no (L := L) (M := M) (fun h => hnm h.1))
    have d1 : ((n : Int) != m) = true := by simp; omega
    clear hnm
    go_enter Try.func18, Try.ntmps18
    go_wp2
    go_ret
    exact ⟨ret_bool (HF.out.symm.trans HR.out), bal (bal (Below.refl _ _) _) _⟩
end Go.Proofs.Ytanfljajafelgaa
