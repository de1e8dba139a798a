/- Terms that are read; contracts of the laws' helpers over them: the size, the comparison. -/
import Derived.Test.YtmeglflbjedndaaLinO
import Derived.Test.YtmeglflbjedndaaNameA
namespace Go.Proofs.Ytmeglflbjedndaa
set_option linter.unusedVariables false
set_option linter.unusedSimpArgs false
open Go.RowKit
/-- a term: its name, how many parts, which -/
inductive Tm where
  | mk (nm : ByteArray) (n : Nat) (kid : Nat → Tm)
  | bad
def Tm.nm : Tm → ByteArray
  | .mk nm _ _ => nm
  | .bad => ⟨#[]⟩
def Tm.n : Tm → Nat
  | .mk _ n _ => n
  | .bad => 0
def Tm.kid : Tm → Nat → Tm
  | .mk _ _ kid => kid
  | .bad => fun _ => .bad
/-- the parts of a term are read at A, in blocks from B on -/
def Kids (B : Nat) (w : World) : Tm → Option Addr → Prop
  | .mk _ n kid, A => n = 0 ∨ ∃ g off, A = some ⟨g, off, none⟩ ∧ B ≤ g ∧ g < w.heap.size ∧ ∀ k, k < n → ∃ a c, w.cell? ⟨g, off + k * 2, none⟩ = some (.string (kid k).nm) ∧ w.cell? ⟨g, off + k * 2 + 1, none⟩ = some (.slice a (kid k).n c) ∧ Kids B w (kid k) a
  | .bad, _ => False
theorem Kids.below {B : Nat} {w w1 : World} (hb : Below w.heap.size w w1) : ∀ {t : Tm} {A : Option Addr}, Kids B w t A → Kids B w1 t A := by
  intro t
  induction t with
  | bad => intro A h; exact False.elim h
  | mk nm n kid ih =>
    rintro A (h | ⟨g, off, ha, hB, hg, hc⟩)
    · exact .inl h
    · refine .inr ⟨g, off, ha, hB, Nat.lt_of_lt_of_le hg hb.size, fun k hk => ?_⟩
      obtain ⟨a, c, h0, h1, h2⟩ := hc k hk
      exact ⟨a, c, carry hb h0, carry hb h1, ih k h2⟩
theorem Kids.set {B p o : Nat} {w : World} (v : Value) (hp : p < B) : ∀ {t : Tm} {A : Option Addr}, Kids B w t A → Kids B (w.setCell ⟨p, o, none⟩ v) t A := by
  intro t
  induction t with
  | bad => intro A h; exact False.elim h
  | mk nm n kid ih =>
    rintro A (h | ⟨g, off, ha, hB, hg, hc⟩)
    · exact .inl h
    · refine .inr ⟨g, off, ha, hB, by simpa [World.setCell] using hg, fun k hk => ?_⟩
      obtain ⟨a, c, h0, h1, h2⟩ := hc k hk
      exact ⟨a, c, by rw [World.cell?_setCell_other _ _ _ _ (by simp <;> omega)]; exact h0, by rw [World.cell?_setCell_other _ _ _ _ (by simp <;> omega)]; exact h1, ih k h2⟩
theorem Kids.mono {B B' : Nat} {w : World} (hB : B' ≤ B) : ∀ {t : Tm} {A : Option Addr}, Kids B w t A → Kids B' w t A := by
  intro t
  induction t with
  | bad => intro A h; exact False.elim h
  | mk nm n kid ih =>
    rintro A (h | ⟨g, off, ha, hb, hg, hc⟩)
    · exact .inl h
    · refine .inr ⟨g, off, ha, Nat.le_trans hB hb, hg, fun k hk => ?_⟩
      obtain ⟨a, c, h0, h1, h2⟩ := hc k hk
      exact ⟨a, c, h0, h1, ih k h2⟩
/-- no name and no list of parts is longer than m -/
def Fits (m : Nat) : Tm → Prop
  | .mk nm n kid => nm.size ≤ m ∧ n ≤ m ∧ ∀ k, k < n → Fits m (kid k)
  | .bad => False
theorem Fits.mono {m m' : Nat} (h : m ≤ m') : ∀ {t : Tm}, Fits m t → Fits m' t := by
  intro t
  induction t with
  | bad => intro h; exact False.elim h
  | mk nm n kid ih => rintro ⟨h1, h2, h3⟩; exact ⟨Nat.le_trans h1 h, Nat.le_trans h2 h, fun k hk => ih k (h3 k hk)⟩
theorem Fits.nm {m : Nat} {t : Tm} (h : Fits m t) : t.nm.size ≤ m := by
  cases t with
  | bad => exact False.elim h
  | mk => exact h.1
theorem Fits.n {m : Nat} {t : Tm} (h : Fits m t) : t.n ≤ m := by
  cases t with
  | bad => exact False.elim h
  | mk => exact h.2.1
/-- what the size of a term answers -/
def SzT (w : World) (t : Tm) (l : Int) (e : Ending) (w' : World) : Prop :=
  ∃ r : Int, e = .returned (.int .i64 r) ∧ (r < 0 ∨ (0 ≤ r ∧ r ≤ l ∧ Fits 1048576 t)) ∧ Below w.heap.size w w'
/-- what the size of a list of terms answers -/
def SzTs (w : World) (n : Nat) (kid : Nat → Tm) (l : Int) (e : Ending) (w' : World) : Prop :=
  ∃ r : Int, e = .returned (.int .i64 r) ∧ (r < 0 ∨ (0 ≤ r ∧ r ≤ l ∧ n ≤ 1048576 ∧ ∀ k, k < n → Fits 1048576 (kid k))) ∧ Below w.heap.size w w'
set_option maxRecDepth 100000 in
set_option maxHeartbeats 1000000 in
theorem szterms_of (n : Nat) (kid : Nat → Tm) (hn : n ≤ 9223372036854775807) (IH : ∀ k, k < n → ∀ (a : Option Addr) (c : Nat) (l : Int) (W : World), 0 ≤ l ∧ l ≤ 1048576 → Kids 0 W (kid k) a → Calls Try.prog 25 #[.agg #[.string (kid k).nm, .slice a (kid k).n c], .int .i64 l] W (SzT W (kid k) l))
    (nm : ByteArray) (A : Option Addr) (c : Nat) (l : Int) (w : World) (hl : 0 ≤ l ∧ l ≤ 1048576) (hA : Kids 0 w (.mk nm n kid) A) :
    Calls Try.prog 90 #[.slice A n c, .int .i64 l] w (SzTs w n kid l) := by
  obtain ⟨l1, l2⟩ := hl
  have HI := hid IH; clear IH
  by_cases h : l < n
  · go_enter Try.func90, Try.ntmps90
    go_wp2
    go_ret
    exact ⟨-1, rfl, .inl (by omega), Below.refl _ _⟩
  · have hsub : 0 ≤ l - (n : Int) := by omega
    have H := hid h; clear h
    go_enter Try.func90, Try.ntmps90
    go_wp2
    go_loopw [1, 5] (fun q i wr => ∃ (k : Nat) (r : Int), k ≤ n ∧ i = .int .i64 k ∧ q = .int .i64 r ∧ 0 ≤ r ∧ r ≤ l ∧ Below w.heap.size w wr ∧ ∀ j, j < k → Fits 1048576 (kid j)) (fun _ i _ => n - (intOf i).toNat)
    case atStart => exact ⟨0, l - n, Nat.zero_le _, rfl, rfl, by omega, by omega, Below.refl _ _, fun j hj => by omega⟩
    case round =>
      obtain ⟨k, r, hk, rfl, rfl, r1, r2, hb, hN⟩ := hrel
      have HN := hid hN; clear hN
      by_cases hlt : k < n
      · rcases hA with h0 | ⟨g, off, rfl, _, hg, hcA⟩
        · omega
        obtain ⟨a, cc, a0, a1, hI⟩ := hcA k hlt
        have gg : g < wr.heap.size := Nat.lt_of_lt_of_le hg hb.size
        replace a0 := carry hb a0
        replace a1 := carry hb a1
        replace hI := hI.below hb
        clear hcA
        have hS := HI.out k hlt a cc r wr ⟨r1, by omega⟩ hI
        clear hI
        go_wp2_with fail
        refine hS.mono ?_
        rintro e w1 ⟨r', rfl, hr', hq⟩
        clear hS
        rcases hr' with hr' | ⟨p1, p2, p3⟩
        · go_wp2
          go_ret
          exact ⟨-1, rfl, .inl (by omega), btr hb hq⟩
        · have HP := hid p3; clear p3
          go_wp2
          go_roundw
          case rel =>
            refine ⟨k + 1, r', by omega, by go_num, rfl, p1, by omega, btr hb hq, fun j hj => ?_⟩
            by_cases e : j = k
            · subst e; exact HP.out
            · exact HN.out j (by omega)
          case measure => simp [intOf]; omega
      · have hke : k = n := by omega
        subst hke
        go_wp2
        go_ret
        exact ⟨r, rfl, .inr ⟨r1, r2, by have := H.out; omega, HN.out⟩, hb⟩
set_option maxHeartbeats 1000000 in
theorem szterm_any : ∀ (t : Tm), Fits 9223372036854775807 t → ∀ (A : Option Addr) (c : Nat) (l : Int) (w : World), 0 ≤ l ∧ l ≤ 1048576 → Kids 0 w t A →
    Calls Try.prog 25 #[.agg #[.string t.nm, .slice A t.n c], .int .i64 l] w (SzT w t l) := by
  intro t
  induction t with
  | bad => intro h; exact False.elim h
  | mk nm n kid ih =>
    rintro ⟨hm, hn, hf⟩ A c l w ⟨l1, l2⟩ hA
    show Calls _ _ #[.agg #[.string nm, .slice A n c], .int .i64 l] w _
    by_cases h : l < nm.size
    · clear ih hf hA
      go_enter Try.func25, Try.ntmps25
      go_wp2
      go_ret
      exact ⟨-1, rfl, .inl (by omega), bal (Below.refl _ _) _⟩
    · have h2 : 0 ≤ l - (nm.size : Int) := by omega
      have hS := fun W (hb : Below w.heap.size w W) => szterms_of n kid hn (fun k hk a c l W hl hK => ih k (hf k hk) a c l W hl hK) nm A c (l - nm.size) W ⟨h2, by omega⟩ (hA.below hb)
      have H := hid h; clear h ih hf hA
      go_enter Try.func25, Try.ntmps25
      go_wp2_with fail
      refine (hS _ (bal (Below.refl _ _) _)).mono ?_
      rintro e w1 ⟨r, rfl, hr, hq⟩
      clear hS
      rcases hr with hr | ⟨p1, p2, p3, p4⟩
      · go_wp2
        go_ret
        exact ⟨-1, rfl, .inl (by omega), btr (bal (Below.refl _ _) _) hq⟩
      · have HP := hid p4; clear p4
        go_wp2
        go_ret
        exact ⟨_, rfl, .inr ⟨p1, by omega, ⟨by have := H.out; omega, p3, HP.out⟩⟩, btr (bal (Below.refl _ _) _) hq⟩
set_option maxRecDepth 100000 in
set_option maxHeartbeats 1000000 in
theorem eqterms_of (n : Nat) (kid : Nat → Tm) (hn : n ≤ 9223372036854775807) (IH : ∀ k, k < n → ∀ (a b : Option Addr) (c d : Nat) (W : World), Kids 0 W (kid k) a → Kids 0 W (kid k) b → Calls Try.prog 30 #[.agg #[.string (kid k).nm, .slice a (kid k).n c], .agg #[.string (kid k).nm, .slice b (kid k).n d]] W fun e w' => e = .returned (.bool true) ∧ Below W.heap.size W w')
    (nm : ByteArray) (A B : Option Addr) (c d : Nat) (w : World) (hA : Kids 0 w (.mk nm n kid) A) (hB : Kids 0 w (.mk nm n kid) B) :
    Calls Try.prog 40 #[.slice A n c, .slice B n d] w fun e w' => e = .returned (.bool true) ∧ Below w.heap.size w w' := by
  have HI := hid IH; clear IH
  go_enter Try.func40, Try.ntmps40
  go_wp2
  go_loopw [5] (fun i wr => ∃ k : Nat, k ≤ n ∧ i = .int .i64 k ∧ Below w.heap.size w wr) (fun i _ => n - (intOf i).toNat)
  case atStart => exact ⟨0, Nat.zero_le _, rfl, Below.refl _ _⟩
  case round =>
    obtain ⟨k, hk, rfl, hb⟩ := hrel
    by_cases hlt : k < n
    · rcases hA with h0 | ⟨g, off, rfl, _, hg, hcA⟩
      · omega
      rcases hB with h0 | ⟨g2, off2, rfl, _, hg2, hcB⟩
      · omega
      obtain ⟨a, ca, a0, a1, hI⟩ := hcA k hlt
      obtain ⟨b, cb, b0, b1, hJ⟩ := hcB k hlt
      have gg : g < wr.heap.size := Nat.lt_of_lt_of_le hg hb.size
      have gg2 : g2 < wr.heap.size := Nat.lt_of_lt_of_le hg2 hb.size
      replace a0 := carry hb a0
      replace a1 := carry hb a1
      replace b0 := carry hb b0
      replace b1 := carry hb b1
      have hE := fun X : Gro wr => HI.out k hlt a b ca cb (gro wr X) ((hI.below hb).below X.h) ((hJ.below hb).below X.h)
      clear hcA hcB hI hJ
      have gc := @gro_cell wr
      go_upto_region 6 with fail
      refine wp_region_grow_lit (by kernel_rfl) (by kernel_rfl) ?_
      repeat (go_big_quiet_step ((go_at_call 30; exact grow_call _ (hE _))))
      refine wpQuiet_nil ?_
      rintro _ ⟨X, rfl⟩
      clear gc
      go_wp2
      go_roundw
      case rel => exact ⟨k + 1, by omega, by go_num, btr hb X.h⟩
      case measure => simp [intOf]; omega
    · have hke : k = n := by omega
      subst hke
      go_wp2
      go_ret
      exact ⟨rfl, hb⟩
set_option maxHeartbeats 1000000 in
theorem eqterm_same : ∀ (t : Tm), Fits 9223372036854775807 t → ∀ (A B : Option Addr) (c d : Nat) (w : World), Kids 0 w t A → Kids 0 w t B →
    Calls Try.prog 30 #[.agg #[.string t.nm, .slice A t.n c], .agg #[.string t.nm, .slice B t.n d]] w fun e w' => e = .returned (.bool true) ∧ Below w.heap.size w w' := by
  intro t
  induction t with
  | bad => intro h; exact False.elim h
  | mk nm n kid ih =>
    rintro ⟨hm, hn, hf⟩ A B c d w hA hB
    show Calls _ _ #[.agg #[.string nm, .slice A n c], .agg #[.string nm, .slice B n d]] w _
    have hS := fun W (hb : Below w.heap.size w W) => eqterms_of n kid hn (fun k hk a b c d W h1 h2 => ih k (hf k hk) a b c d W h1 h2) nm A B c d W (hA.below hb) (hB.below hb)
    clear ih hf hA hB
    go_enter Try.func30, Try.ntmps30
    go_wp2_with fail
    refine (hS _ (bal (bal (Below.refl _ _) _) _)).mono ?_
    rintro e w1 ⟨rfl, hq⟩
    clear hS
    go_wp2
    go_ret
    exact ⟨rfl, btr (bal (bal (Below.refl _ _) _) _) hq⟩
end Go.Proofs.Ytmeglflbjedndaa
