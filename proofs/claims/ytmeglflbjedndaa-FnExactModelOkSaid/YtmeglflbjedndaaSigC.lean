/- Contracts of the program's SigOk and what it calls. -/
import Derived.Test.YtmeglflbjedndaaSigB
import Derived.Test.YtmeglflbjedndaaBT
import Derived.Laws.EntriesVeiled
namespace Go.Proofs.Ytmeglflbjedndaa
set_option linter.unusedVariables false
set_option linter.unusedSimpArgs false
open Go.RowKit
def sortB (z : Int) : Bool := decide (z = 0 ∨ z = 1)
theorem sort_any (z : Int) (w : World) : Calls Try.prog 185 #[.int .i64 z] w fun e w' => e = .returned (.bool (sortB z)) ∧ w = w' := by
  by_cases h : z = 0
  · subst h
    go_enter Try.func185, Try.ntmps185
    go_wp2
    go_ret
    exact ⟨rfl, rfl⟩
  · have hs : sortB z = (z == 1) := by unfold sortB; by_cases h1 : z = 1 <;> simp [h, h1]
    rw [hs]
    have d : (z == 0) = false := by simpa using h
    clear hs h
    go_enter Try.func185, Try.ntmps185
    go_wp2
    go_ret
    exact ⟨rfl, rfl⟩
theorem ssort_any (z : Int) (w : World) : Calls Try.prog 138 #[.int .i64 z] w fun e w' => e = .returned (.bool (sortB z)) ∧ w = w' := by
  by_cases h : z = 0
  · subst h
    go_enter Try.func138, Try.ntmps138
    go_wp2
    go_ret
    exact ⟨rfl, rfl⟩
  · have hs : sortB z = (z == 1) := by unfold sortB; by_cases h1 : z = 1 <;> simp [h, h1]
    rw [hs]
    have d : (z == 0) = false := by simpa using h
    clear hs h
    go_enter Try.func138, Try.ntmps138
    go_wp2
    go_ret
    exact ⟨rfl, rfl⟩
theorem sort_at {z : Int} {v : Bool} (h : sortB z = v) (w : World) : Calls Try.prog 185 #[.int .i64 z] w fun e w' => e = .returned (.bool v) ∧ w = w' := by subst h; exact sort_any z w
theorem ssort_at {z : Int} {v : Bool} (h : sortB z = v) (w : World) : Calls Try.prog 138 #[.int .i64 z] w fun e w' => e = .returned (.bool v) ∧ w = w' := by subst h; exact ssort_any z w
theorem name_at {s : ByteArray} {v : Bool} (hs : s.size ≤ 9223372036854775807) (h : nameB s = v) (w : World) : Calls Try.prog 66 #[.string s] w fun e w' => e = .returned (.bool v) ∧ w = w' := by subst h; exact nameok_any s w hs
theorem sname_at {s : ByteArray} {v : Bool} (hs : s.size ≤ 9223372036854775807) (h : nameB s = v) (w : World) : Calls Try.prog 67 #[.string s] w fun e w' => e = .returned (.bool v) ∧ w = w' := by subst h; exact snameok_any s w hs
/-- a symbol is valid -/
def symB (nm : ByteArray) (n : Nat) (Z : Nat → Int) (s : Int) : Bool := decide (nameB nm = true ∧ n ≤ 2 ∧ (∀ k, k < n → sortB (Z k) = true) ∧ sortB s = true)
theorem symB_iff {nm : ByteArray} {n : Nat} {Z : Nat → Int} {s : Int} : symB nm n Z s = true ↔ nameB nm = true ∧ n ≤ 2 ∧ (∀ k, k < n → sortB (Z k) = true) ∧ sortB s = true := by unfold symB; exact decide_eq_true_iff
theorem symB_no {nm : ByteArray} {n : Nat} {Z : Nat → Int} {s : Int} (h : ¬ (nameB nm = true ∧ n ≤ 2 ∧ (∀ k, k < n → sortB (Z k) = true) ∧ sortB s = true)) : symB nm n Z s = false := by
  cases e : symB nm n Z s
  · rfl
  · exact absurd (symB_iff.1 e) h
set_option maxRecDepth 100000 in
set_option maxHeartbeats 2000000 in
theorem valid_sym (nm : ByteArray) (A : Option Addr) (n c : Nat) (Z : Nat → Int) (s : Int) (w : World) (hm : nm.size ≤ 9223372036854775807) (hn : n ≤ 9223372036854775807) (hA : Ints w A n Z) :
    Calls Try.prog 135 #[.agg #[.string nm, .slice A n c, .int .i64 s]] w fun e w' => e = .returned (.bool (symB nm n Z s)) ∧ Below w.heap.size w w' := by
  cases hv : nameB nm
  · have HF := hid (symB_no (nm := nm) (n := n) (Z := Z) (s := s) (by rw [hv]; simp))
    have hO := fun W => name_at hm hv W
    clear hv
    go_enter Try.func135, Try.ntmps135
    go_wp2_with (go_at_call 66; refine (hO _).mono ?_; rintro e w1 ⟨rfl, rfl⟩)
    go_ret
    exact ⟨ret_bool HF.out.symm, bal (Below.refl _ _) _⟩
  have hO := fun W => name_at hm hv W
  by_cases h2 : n ≤ 2
  · have HV := hid hv; clear hv
    generalize hr : symB nm n Z s = res
    have HR := hid hr; clear hr
    have d2 : decide (2 < (n : Int)) = false := by simp; omega
    go_enter Try.func135, Try.ntmps135
    go_wp2_with (go_at_call 66; refine (hO _).mono ?_; rintro e w1 ⟨rfl, rfl⟩)
    clear hO
    go_loop [18] (fun i => ∃ k : Nat, k ≤ n ∧ i = .int .i64 k ∧ ∀ j, j < k → sortB (Z j) = true) (fun i => n - (intOf i).toNat)
    case atStart => exact ⟨0, Nat.zero_le _, rfl, fun j hj => by omega⟩
    case round =>
      obtain ⟨k, hk, rfl, he⟩ := hrel
      have HE := hid he; clear he
      by_cases hlt : k < n
      · rcases hA with h0 | ⟨g, off, rfl, hg, hcell⟩
        · omega
        have c1 := hcell k hlt
        have ca := fun (x : Obj) (o : Nat) => World.cell?_alloc_lt w x ⟨g, o, none⟩ hg
        clear hcell
        cases hs : sortB (Z k)
        · have HF := hid (symB_no (nm := nm) (n := n) (Z := Z) (s := s) (fun h => by have := h.2.2.1 k hlt; rw [hs] at this; cases this))
          have hS := fun W => sort_at hs W
          clear hs
          go_wp2_with (go_at_call 185; refine (hS _).mono ?_; rintro e w1 ⟨rfl, rfl⟩)
          go_ret
          exact ⟨ret_bool (HF.out.symm.trans HR.out), bal (Below.refl _ _) _⟩
        · have hS := fun W => sort_at hs W
          have HS := hid hs; clear hs
          go_wp2_with (go_at_call 185; refine (hS _).mono ?_; rintro e w1 ⟨rfl, rfl⟩)
          go_round
          case rel =>
            refine ⟨k + 1, by omega, by go_num, fun j hj => ?_⟩
            by_cases e : j = k
            · subst e; exact HS.out
            · exact HE.out j (by omega)
          case measure => simp [intOf]; omega
      · have hke : k = n := by omega
        subst hke
        have hS := fun W => sort_any s W
        have HQ : Hid (sortB s = res) := hid (by
          rw [← HR.out]
          cases e : sortB s
          · exact (symB_no (fun h => by rw [e] at h; simp at h)).symm
          · exact (symB_iff.2 ⟨HV.out, h2, HE.out, e⟩).symm)
        go_wp2_with (go_at_call 185; refine (hS _).mono ?_; rintro e w1 ⟨rfl, rfl⟩)
        go_ret
        exact ⟨ret_bool HQ.out, bal (Below.refl _ _) _⟩
  · have HF := hid (symB_no (nm := nm) (n := n) (Z := Z) (s := s) (fun h => h2 h.2.1))
    have d2 : decide (2 < (n : Int)) = true := by simp; omega
    clear hv h2
    go_enter Try.func135, Try.ntmps135
    go_wp2_with (go_at_call 66; refine (hO _).mono ?_; rintro e w1 ⟨rfl, rfl⟩)
    go_ret
    exact ⟨ret_bool HF.out.symm, bal (Below.refl _ _) _⟩
theorem key_any (nm : ByteArray) (A : Option Addr) (n c : Nat) (s : Int) (w : World) :
    Calls Try.prog 186 #[.agg #[.string nm, .slice A n c, .int .i64 s]] w fun e w' => e = .returned (.string nm) ∧ Below w.heap.size w w' := by
  go_enter Try.func186, Try.ntmps186
  go_wp2
  go_ret
  exact ⟨rfl, bal (Below.refl _ _) _⟩
theorem byname_any (A : Option Addr) (n c : Nat) (w : World) :
    Calls Try.prog 136 #[.agg #[.slice A n c]] w fun e w' => e = .returned (.agg #[.slice A n c, .func (.func 186) #[] #[]]) ∧ Below w.heap.size w w' := by
  go_enter Try.func136, Try.ntmps136
  go_wp2
  exact bodyPost_ret (v := .agg #[.slice A n c, .func (.func 186) #[] #[]]) (by simp [results, Try.results136, go_sem]) rfl ⟨rfl, bal (bal (Below.refl _ _) _) _⟩
/-- the names ascend -/
def ascB (n : Nat) (Nm : Nat → ByteArray) : Bool := decide (∀ k, k < n → k + 1 < n → Op.bytesLess (Nm k).toList (Nm (k + 1)).toList = true)
theorem ascB_iff {n : Nat} {Nm : Nat → ByteArray} : ascB n Nm = true ↔ ∀ k, k < n → k + 1 < n → Op.bytesLess (Nm k).toList (Nm (k + 1)).toList = true := by unfold ascB; exact decide_eq_true_iff
theorem ascB_at {n k : Nat} {Nm : Nat → ByteArray} (hk : k + 1 < n) (h : Op.bytesLess (Nm k).toList (Nm (k + 1)).toList = false) : ascB n Nm = false := by
  cases e : ascB n Nm
  · rfl
  · have := ascB_iff.1 e k (by omega) hk; rw [h] at this; cases this
set_option maxRecDepth 100000 in
set_option maxHeartbeats 2000000 in
theorem asc_any (A : Option Addr) (n c : Nat) (L : Sy) (w : World) (hn : n ≤ 9223372036854775806) (hA : Syms w A n L) :
    Calls Try.prog 137 #[.agg #[.slice A n c, .func (.func 186) #[] #[]]] w fun e w' => e = .returned (.bool (ascB n L.Nm)) ∧ Below w.heap.size w w' := by
  generalize hr : ascB n L.Nm = res
  have HR := hid hr; clear hr
  obtain ⟨b0, b1⟩ := pair_new w (.slice A n c) (.func (.func 186) #[] #[]) 220
  have q0 := bal (Below.refl w.heap.size w) (.cells #[.slice A n c, .func (.func 186) #[] #[]] 220)
  have hA2 := hA.below q0
  have hs : w.heap.size < (w.alloc (.cells #[.slice A n c, .func (.func 186) #[] #[]] 220)).heap.size := by simp
  clear hA
  go_enter Try.func137, Try.ntmps137
  go_wp2
  generalize w.alloc (.cells #[.slice A n c, .func (.func 186) #[] #[]] 220) = W0 at *
  go_loopw [3] (fun i wr => ∃ k : Nat, (k + 1 ≤ n ∨ k = 0) ∧ i = .int .i64 ((k : Int) + 1) ∧ Below W0.heap.size W0 wr ∧ ∀ j, j < k → Op.bytesLess (L.Nm j).toList (L.Nm (j + 1)).toList = true) (fun i _ => n - (intOf i).toNat)
  case atStart => exact ⟨0, .inr rfl, rfl, Below.refl _ _, fun j hj => by omega⟩
  case round =>
    obtain ⟨k, hk, rfl, hb, he⟩ := hrel
    have HE := hid he; clear he
    have g0 := carry hb b0
    have g1 := carry hb b1
    have gs : w.heap.size < wr.heap.size := Nat.lt_of_lt_of_le hs hb.size
    by_cases hlt : k + 1 < n
    · rcases hA2 with h0 | ⟨g, off, rfl, hg, hcA⟩
      · omega
      obtain ⟨a, ca, a0, a1, a2, _, hNk, hI⟩ := hcA k (by omega)
      obtain ⟨b, cb, c0, c1, c2, _, _, hJ⟩ := hcA (k + 1) hlt
      have gg : g < wr.heap.size := Nat.lt_of_lt_of_le hg hb.size
      replace a0 := carry hb a0
      replace a1 := carry hb a1
      replace a2 := carry hb a2
      replace c0 := carry hb c0
      replace c1 := carry hb c1
      replace c2 := carry hb c2
      have hE := fun (X : Gro wr) (nm : ByteArray) (A : Option Addr) (n c : Nat) (s : Int) => key_any nm A n c s (gro wr X)
      have gc := @gro_cell wr
      clear hcA hI hJ b0 b1
      have k1 : (k : Int) + 1 < n := by omega
      go_upto_region 4 with fail
      refine wp_region_grow_lit (by kernel_rfl) (by kernel_rfl) ?_
      repeat (go_big_quiet_step ((go_at_call 186; exact grow_call _ (hE _ _ _ _ _ _))))
      refine wpQuiet_nil ?_
      rintro _ ⟨X, rfl⟩
      clear gc
      cases hl : Op.bytesLess (L.Nm k).toList (L.Nm (k + 1)).toList
      · have HF := hid (ascB_at hlt hl)
        go_wp2
        go_ret
        exact ⟨ret_bool (HF.out.symm.trans HR.out), btr q0 (btr hb X.h)⟩
      · have HL := hid hl
        go_wp2
        go_roundw
        case rel =>
          refine ⟨k + 1, .inl (by omega), by go_num, btr hb X.h, fun j hj => ?_⟩
          by_cases e : j = k
          · subst e; exact HL.out
          · exact HE.out j (by omega)
        case measure => simp [intOf]; omega
    · have HT := hid (show ascB n L.Nm = true from ascB_iff.2 (fun j hj hj2 => HE.out j (by omega)))
      have d : decide ((k : Int) + 1 < n) = false := by simp; omega
      clear b0 b1
      go_wp2
      go_ret
      exact ⟨ret_bool (HT.out.symm.trans HR.out), btr q0 hb⟩
/-- a vocabulary is valid -/
def sigB (n : Nat) (L : Sy) : Bool := decide (n ≤ 7 ∧ (∀ k, k < n → symB (L.Nm k) (L.N k) (L.Z k) (L.S k) = true) ∧ ascB n L.Nm = true)
theorem sigB_iff {n : Nat} {L : Sy} : sigB n L = true ↔ n ≤ 7 ∧ (∀ k, k < n → symB (L.Nm k) (L.N k) (L.Z k) (L.S k) = true) ∧ ascB n L.Nm = true := by unfold sigB; exact decide_eq_true_iff
theorem sigB_no {n : Nat} {L : Sy} (h : ¬ (n ≤ 7 ∧ (∀ k, k < n → symB (L.Nm k) (L.N k) (L.Z k) (L.S k) = true) ∧ ascB n L.Nm = true)) : sigB n L = false := by
  cases e : sigB n L
  · rfl
  · exact absurd (sigB_iff.1 e) h
theorem valid_symat {nm : ByteArray} {A : Option Addr} {n c : Nat} {Z : Nat → Int} {s : Int} {w : World} (hm : nm.size ≤ 9223372036854775807) (hn : n ≤ 9223372036854775807) (hA : Ints w A n Z) {v : Bool} (h : symB nm n Z s = v) (W : World) (hb : Below w.heap.size w W) :
    Calls Try.prog 135 #[.agg #[.string nm, .slice A n c, .int .i64 s]] W fun e w' => e = .returned (.bool v) ∧ Below W.heap.size W w' := by
  subst h; exact valid_sym nm A n c Z s W hm hn (hA.below hb)
set_option maxRecDepth 100000 in
set_option maxHeartbeats 2000000 in
theorem sigok_any (A : Option Addr) (n c : Nat) (L : Sy) (w : World) (hn : n ≤ 9223372036854775806) (hA : Syms w A n L) :
    Calls Try.prog 69 #[.agg #[.slice A n c]] w fun e w' => e = .returned (.bool (sigB n L)) ∧ Below w.heap.size w w' := by
  generalize hr : sigB n L = res
  have HR := hid hr; clear hr
  by_cases h7 : 7 < n
  · have HF := hid (sigB_no (L := L) (n := n) (fun h => by omega))
    go_enter Try.func69, Try.ntmps69
    go_wp2
    go_ret
    exact ⟨ret_bool (HF.out.symm.trans HR.out), bal (Below.refl _ _) _⟩
  have d7 : decide (7 < (n : Int)) = false := by simp; omega
  have H7 := hid h7; clear h7
  have b0 : (w.alloc (.cells #[.slice A n c] 39)).cell? ⟨w.heap.size, 0, none⟩ = some (.slice A n c) := by simp [go_sem]
  have q0 := bal (Below.refl w.heap.size w) (.cells #[.slice A n c] 39)
  have hA2 := hA.below q0
  have hs : w.heap.size < (w.alloc (.cells #[.slice A n c] 39)).heap.size := by simp
  clear hA
  go_enter Try.func69, Try.ntmps69
  go_wp2
  generalize w.alloc (.cells #[.slice A n c] 39) = W0 at *
  have hA3 := hA2
  go_loopw [12] (fun i wr => ∃ k : Nat, k ≤ n ∧ i = .int .i64 k ∧ Below W0.heap.size W0 wr ∧ ∀ j, j < k → symB (L.Nm j) (L.N j) (L.Z j) (L.S j) = true) (fun i _ => n - (intOf i).toNat)
  case atStart => exact ⟨0, Nat.zero_le _, rfl, Below.refl _ _, fun j hj => by omega⟩
  case round =>
    obtain ⟨k, hk, rfl, hb, he⟩ := hrel
    have HE := hid he; clear he
    have g0 := carry hb b0
    have gs : w.heap.size < wr.heap.size := Nat.lt_of_lt_of_le hs hb.size
    clear b0
    by_cases hlt : k < n
    · rcases hA2 with h0 | ⟨g, off, rfl, hg, hcA⟩
      · omega
      obtain ⟨a, ca, a0, a1, a2, hMk, hNk, hI⟩ := hcA k hlt
      have gg : g < wr.heap.size := Nat.lt_of_lt_of_le hg hb.size
      replace a0 := carry hb a0
      replace a1 := carry hb a1
      replace a2 := carry hb a2
      replace hI := hI.below hb
      clear hcA hA3
      cases hv : symB (L.Nm k) (L.N k) (L.Z k) (L.S k)
      · have hO := fun W h => valid_symat (c := ca) hMk hNk hI hv W h
        have HF := hid (sigB_no (L := L) (n := n) (fun h => by have := h.2.1 k hlt; rw [hv] at this; cases this)); clear hv
        go_wp2_with (go_at_call 135; refine (hO _ (bal (Below.refl _ _) _)).mono ?_; rintro e w1 ⟨rfl, hq⟩)
        go_ret
        exact ⟨ret_bool (HF.out.symm.trans HR.out), btr q0 (btr hb (btr (bal (Below.refl _ _) _) hq))⟩
      · have hO := fun W h => valid_symat (c := ca) hMk hNk hI hv W h
        have HV := hid hv; clear hv
        go_wp2_with (go_at_call 135; refine (hO _ (bal (Below.refl _ _) _)).mono ?_; rintro e w1 ⟨rfl, hq⟩)
        go_roundw
        case rel =>
          refine ⟨k + 1, by omega, by go_num, btr hb (btr (bal (Below.refl _ _) _) hq), fun j hj => ?_⟩
          by_cases e : j = k
          · subst e; exact HV.out
          · exact HE.out j (by omega)
        case measure => simp [intOf]; omega
    · have hke : k = n := by omega
      subst hke
      have hB := fun W => byname_any A k c W
      have hC := fun W (h : Below W0.heap.size W0 W) => asc_any A k c L W hn (hA3.below h)
      have HQ : Hid (ascB k L.Nm = res) := hid (by
        rw [← HR.out]
        cases e : ascB k L.Nm
        · exact (sigB_no (fun h => by rw [e] at h; simp at h)).symm
        · exact (sigB_iff.2 ⟨by have := H7.out; omega, HE.out, e⟩).symm)
      clear hA2 hA3
      go_wp2_with fail
      refine (hB _).mono ?_
      rintro e w1 ⟨rfl, hq⟩
      go_wp2_with fail
      refine (hC _ (btr hb hq)).mono ?_
      rintro e w2 ⟨rfl, hq2⟩
      clear hB hC
      go_wp2_with fail
      go_ret
      exact ⟨ret_bool HQ.out, btr q0 (btr hb (btr hq hq2))⟩
end Go.Proofs.Ytmeglflbjedndaa
