/- The size of a term, and the contract of the laws' helper that bounds it. -/
import Derived.Test.YtcnlolocppbcjaaTermA
namespace Go.Proofs.Ytcnlolocppbcjaa
set_option linter.unusedVariables false
set_option linter.unusedSimpArgs false
open Go.RowKit
def sumT : Nat → (Nat → Nat) → Nat
  | 0, _ => 0
  | k + 1, f => sumT k f + f k
/-- how many terms there are in a term -/
def tSz : Tm → Nat
  | .mk _ n kid => 1 + sumT n (fun k => tSz (kid k))
  | .bad => 1
theorem tSz_pos : ∀ t : Tm, 1 ≤ tSz t
  | .mk _ _ _ => by rw [tSz]; omega
  | .bad => by rw [tSz]; omega
/-- what the size of a term answers -/
def SzU (w : World) (t : Tm) (l : Int) (e : Ending) (w' : World) : Prop :=
  ∃ r : Int, e = .returned (.int .i64 r) ∧ (r < 0 ∨ (0 ≤ r ∧ r + tSz t ≤ l + 1 ∧ Fits 1048576 t)) ∧ Below w.heap.size w w'
/-- what the size of a list of terms answers -/
def SzUs (w : World) (n : Nat) (kid : Nat → Tm) (l : Int) (e : Ending) (w' : World) : Prop :=
  ∃ r : Int, e = .returned (.int .i64 r) ∧ (r < 0 ∨ (0 ≤ r ∧ r + sumT n (fun k => tSz (kid k)) ≤ l ∧ n ≤ 1048576 ∧ ∀ k, k < n → Fits 1048576 (kid k))) ∧ Below w.heap.size w w'
set_option maxRecDepth 100000 in
set_option maxHeartbeats 1000000 in
theorem sztermsU_of (n : Nat) (kid : Nat → Tm) (hn : n ≤ 9223372036854775807) (IH : ∀ k, k < n → ∀ (a : Option Addr) (c : Nat) (l : Int) (W : World), 0 ≤ l ∧ l ≤ 1048576 → Kids 0 W (kid k) a → Calls Try.prog 21 #[.agg #[.string (kid k).nm, .slice a (kid k).n c], .int .i64 l] W (SzU W (kid k) l))
    (nm : ByteArray) (A : Option Addr) (c : Nat) (l : Int) (w : World) (hl : 0 ≤ l ∧ l ≤ 1048576) (hA : Kids 0 w (.mk nm n kid) A) :
    Calls Try.prog 26 #[.slice A n c, .int .i64 l] w (SzUs w n kid l) := by
  obtain ⟨l1, l2⟩ := hl
  have HI := hid IH; clear IH
  by_cases h : l < n
  · go_enter Try.func26, Try.ntmps26
    go_wp2
    go_ret
    exact ⟨-1, rfl, .inl (by omega), Below.refl _ _⟩
  · have hsub : 0 ≤ l - (n : Int) := by omega
    have H := hid h; clear h
    go_enter Try.func26, Try.ntmps26
    go_wp2
    go_loopw [1, 5] (fun q i wr => ∃ (k : Nat) (r : Int), k ≤ n ∧ i = .int .i64 k ∧ q = .int .i64 r ∧ 0 ≤ r ∧ r + sumT k (fun k => tSz (kid k)) + n ≤ l + k ∧ Below w.heap.size w wr ∧ ∀ j, j < k → Fits 1048576 (kid j)) (fun _ i _ => n - (intOf i).toNat)
    case atStart => exact ⟨0, l - n, Nat.zero_le _, rfl, rfl, by omega, by simp [sumT], Below.refl _ _, fun j hj => by omega⟩
    case round =>
      obtain ⟨k, r, hk, rfl, rfl, r1, r2, hb, hN⟩ := hrel
      have HN := hid hN; clear hN
      by_cases hlt : k < n
      · rcases hA with h0 | ⟨g, off, rfl, _, hg, hcA⟩
        · omega
        obtain ⟨a, cc, a0, a1, hI⟩ := hcA k hlt
        have gg : g < wr.heap.size := Nat.lt_of_lt_of_le hg hb.size
        replace a0 := carry hb a0
        replace a1 := carry hb a1
        replace hI := hI.below hb
        clear hcA
        have hS := HI.out k hlt a cc r wr ⟨r1, by omega⟩ hI
        clear hI
        go_wp2_with fail
        refine hS.mono ?_
        rintro e w1 ⟨r', rfl, hr', hq⟩
        clear hS
        rcases hr' with hr' | ⟨p1, p2, p3⟩
        · go_wp2
          go_ret
          exact ⟨-1, rfl, .inl (by omega), btr hb hq⟩
        · have HP := hid p3; clear p3
          go_wp2
          go_roundw
          case rel =>
            refine ⟨k + 1, r', by omega, by go_num, rfl, p1, by rw [sumT]; omega, btr hb hq, fun j hj => ?_⟩
            by_cases e : j = k
            · subst e; exact HP.out
            · exact HN.out j (by omega)
          case measure => simp [intOf]; omega
      · have hke : k = n := by omega
        subst hke
        go_wp2
        go_ret
        exact ⟨r, rfl, .inr ⟨r1, by omega, by have := H.out; omega, HN.out⟩, hb⟩
set_option maxHeartbeats 1000000 in
theorem sztermU_any : ∀ (t : Tm), Fits 9223372036854775807 t → ∀ (A : Option Addr) (c : Nat) (l : Int) (w : World), 0 ≤ l ∧ l ≤ 1048576 → Kids 0 w t A →
    Calls Try.prog 21 #[.agg #[.string t.nm, .slice A t.n c], .int .i64 l] w (SzU w t l) := by
  intro t
  induction t with
  | bad => intro h; exact False.elim h
  | mk nm n kid ih =>
    rintro ⟨hm, hn, hf⟩ A c l w ⟨l1, l2⟩ hA
    show Calls _ _ #[.agg #[.string nm, .slice A n c], .int .i64 l] w _
    by_cases h : l < nm.size
    · clear ih hf hA
      go_enter Try.func21, Try.ntmps21
      go_wp2
      go_ret
      exact ⟨-1, rfl, .inl (by omega), bal (Below.refl _ _) _⟩
    · have h2 : 0 ≤ l - (nm.size : Int) := by omega
      have hS := fun W (hb : Below w.heap.size w W) => sztermsU_of n kid hn (fun k hk a c l W hl hK => ih k (hf k hk) a c l W hl hK) nm A c (l - nm.size) W ⟨h2, by omega⟩ (hA.below hb)
      have H := hid h; clear h ih hf hA
      go_enter Try.func21, Try.ntmps21
      go_wp2_with fail
      refine (hS _ (bal (Below.refl _ _) _)).mono ?_
      rintro e w1 ⟨r, rfl, hr, hq⟩
      clear hS
      rcases hr with hr | ⟨p1, p2, p3, p4⟩
      · go_wp2
        go_ret
        exact ⟨-1, rfl, .inl (by omega), btr (bal (Below.refl _ _) _) hq⟩
      · have HP := hid p4; clear p4
        go_wp2
        go_ret
        exact ⟨_, rfl, .inr ⟨p1, by rw [tSz]; omega, ⟨by have := H.out; omega, p3, HP.out⟩⟩, btr (bal (Below.refl _ _) _) hq⟩
end Go.Proofs.Ytcnlolocppbcjaa
