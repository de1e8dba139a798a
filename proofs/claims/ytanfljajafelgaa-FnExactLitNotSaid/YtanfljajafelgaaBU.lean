/- Several texts in one: TermA, TermB, TermC, TermD, TermS, TermP. -/
import Derived.Test.YtanfljajafelgaaLinO
import Derived.Test.YtanfljajafelgaaNameA
import Derived.Test.YtanfljajafelgaaLinW
namespace Go.Proofs.Ytanfljajafelgaa
set_option linter.unusedVariables false
set_option linter.unusedSimpArgs false
open Go.RowKit
/-- a term: its name, how many parts, which -/
inductive Tm where
  | mk (nm : ByteArray) (n : Nat) (kid : Nat → Tm)
  | bad
def Tm.nm : Tm → ByteArray
  | .mk nm _ _ => nm
  | .bad => ⟨#[]⟩
def Tm.n : Tm → Nat
  | .mk _ n _ => n
  | .bad => 0
def Tm.kid : Tm → Nat → Tm
  | .mk _ _ kid => kid
  | .bad => fun _ => .bad
/-- the parts of a term are read at A, in blocks from B on -/
def Kids (B : Nat) (w : World) : Tm → Option Addr → Prop
  | .mk _ n kid, A => n = 0 ∨ ∃ g off, A = some ⟨g, off, none⟩ ∧ B ≤ g ∧ g < w.heap.size ∧ ∀ k, k < n → ∃ a c, w.cell? ⟨g, off + k * 2, none⟩ = some (.string (kid k).nm) ∧ w.cell? ⟨g, off + k * 2 + 1, none⟩ = some (.slice a (kid k).n c) ∧ Kids B w (kid k) a
  | .bad, _ => False
theorem Kids.below {B : Nat} {w w1 : World} (hb : Below w.heap.size w w1) : ∀ {t : Tm} {A : Option Addr}, Kids B w t A → Kids B w1 t A := by
  intro t
  induction t with
  | bad => intro A h; exact False.elim h
  | mk nm n kid ih =>
    rintro A (h | ⟨g, off, ha, hB, hg, hc⟩)
    · exact .inl h
    · refine .inr ⟨g, off, ha, hB, Nat.lt_of_lt_of_le hg hb.size, fun k hk => ?_⟩
      obtain ⟨a, c, h0, h1, h2⟩ := hc k hk
      exact ⟨a, c, carry hb h0, carry hb h1, ih k h2⟩
theorem Kids.set {B p o : Nat} {w : World} (v : Value) (hp : p < B) : ∀ {t : Tm} {A : Option Addr}, Kids B w t A → Kids B (w.setCell ⟨p, o, none⟩ v) t A := by
  intro t
  induction t with
  | bad => intro A h; exact False.elim h
  | mk nm n kid ih =>
    rintro A (h | ⟨g, off, ha, hB, hg, hc⟩)
    · exact .inl h
    · refine .inr ⟨g, off, ha, hB, by simpa [World.setCell] using hg, fun k hk => ?_⟩
      obtain ⟨a, c, h0, h1, h2⟩ := hc k hk
      exact ⟨a, c, by rw [World.cell?_setCell_other _ _ _ _ (by simp <;> omega)]; exact h0, by rw [World.cell?_setCell_other _ _ _ _ (by simp <;> omega)]; exact h1, ih k h2⟩
theorem Kids.mono {B B' : Nat} {w : World} (hB : B' ≤ B) : ∀ {t : Tm} {A : Option Addr}, Kids B w t A → Kids B' w t A := by
  intro t
  induction t with
  | bad => intro A h; exact False.elim h
  | mk nm n kid ih =>
    rintro A (h | ⟨g, off, ha, hb, hg, hc⟩)
    · exact .inl h
    · refine .inr ⟨g, off, ha, Nat.le_trans hB hb, hg, fun k hk => ?_⟩
      obtain ⟨a, c, h0, h1, h2⟩ := hc k hk
      exact ⟨a, c, h0, h1, ih k h2⟩
/-- no name and no list of parts is longer than m -/
def Fits (m : Nat) : Tm → Prop
  | .mk nm n kid => nm.size ≤ m ∧ n ≤ m ∧ ∀ k, k < n → Fits m (kid k)
  | .bad => False
theorem Fits.mono {m m' : Nat} (h : m ≤ m') : ∀ {t : Tm}, Fits m t → Fits m' t := by
  intro t
  induction t with
  | bad => intro h; exact False.elim h
  | mk nm n kid ih => rintro ⟨h1, h2, h3⟩; exact ⟨Nat.le_trans h1 h, Nat.le_trans h2 h, fun k hk => ih k (h3 k hk)⟩
theorem Fits.nm {m : Nat} {t : Tm} (h : Fits m t) : t.nm.size ≤ m := by
  cases t with
  | bad => exact False.elim h
  | mk => exact h.1
theorem Fits.n {m : Nat} {t : Tm} (h : Fits m t) : t.n ≤ m := by
  cases t with
  | bad => exact False.elim h
  | mk => exact h.2.1
/-- what the size of a term answers -/
def SzT (w : World) (t : Tm) (l : Int) (e : Ending) (w' : World) : Prop :=
  ∃ r : Int, e = .returned (.int .i64 r) ∧ (r < 0 ∨ (0 ≤ r ∧ r ≤ l ∧ Fits 1048576 t)) ∧ Below w.heap.size w w'
/-- what the size of a list of terms answers -/
def SzTs (w : World) (n : Nat) (kid : Nat → Tm) (l : Int) (e : Ending) (w' : World) : Prop :=
  ∃ r : Int, e = .returned (.int .i64 r) ∧ (r < 0 ∨ (0 ≤ r ∧ r ≤ l ∧ n ≤ 1048576 ∧ ∀ k, k < n → Fits 1048576 (kid k))) ∧ Below w.heap.size w w'
set_option maxRecDepth 100000 in
set_option maxHeartbeats 1000000 in
theorem szterms_of (n : Nat) (kid : Nat → Tm) (hn : n ≤ 9223372036854775807) (IH : ∀ k, k < n → ∀ (a : Option Addr) (c : Nat) (l : Int) (W : World), 0 ≤ l ∧ l ≤ 1048576 → Kids 0 W (kid k) a → Calls Try.prog 51 #[.agg #[.string (kid k).nm, .slice a (kid k).n c], .int .i64 l] W (SzT W (kid k) l))
    (nm : ByteArray) (A : Option Addr) (c : Nat) (l : Int) (w : World) (hl : 0 ≤ l ∧ l ≤ 1048576) (hA : Kids 0 w (.mk nm n kid) A) :
    Calls Try.prog 30 #[.slice A n c, .int .i64 l] w (SzTs w n kid l) := by
  obtain ⟨l1, l2⟩ := hl
  have HI := hid IH; clear IH
  by_cases h : l < n
  · go_enter Try.func30, Try.ntmps30
    go_wp2
    go_ret
    exact ⟨-1, rfl, .inl (by omega), Below.refl _ _⟩
  · have hsub : 0 ≤ l - (n : Int) := by omega
    have H := hid h; clear h
    go_enter Try.func30, Try.ntmps30
    go_wp2
    go_loopw [1, 5] (fun q i wr => ∃ (k : Nat) (r : Int), k ≤ n ∧ i = .int .i64 k ∧ q = .int .i64 r ∧ 0 ≤ r ∧ r ≤ l ∧ Below w.heap.size w wr ∧ ∀ j, j < k → Fits 1048576 (kid j)) (fun _ i _ => n - (intOf i).toNat)
    case atStart => exact ⟨0, l - n, Nat.zero_le _, rfl, rfl, by omega, by omega, Below.refl _ _, fun j hj => by omega⟩
    case round =>
      obtain ⟨k, r, hk, rfl, rfl, r1, r2, hb, hN⟩ := hrel
      have HN := hid hN; clear hN
      by_cases hlt : k < n
      · rcases hA with h0 | ⟨g, off, rfl, _, hg, hcA⟩
        · omega
        obtain ⟨a, cc, a0, a1, hI⟩ := hcA k hlt
        have gg : g < wr.heap.size := Nat.lt_of_lt_of_le hg hb.size
        replace a0 := carry hb a0
        replace a1 := carry hb a1
        replace hI := hI.below hb
        clear hcA
        have hS := HI.out k hlt a cc r wr ⟨r1, by omega⟩ hI
        clear hI
        go_wp2_with fail
        refine hS.mono ?_
        rintro e w1 ⟨r', rfl, hr', hq⟩
        clear hS
        rcases hr' with hr' | ⟨p1, p2, p3⟩
        · go_wp2
          go_ret
          exact ⟨-1, rfl, .inl (by omega), btr hb hq⟩
        · have HP := hid p3; clear p3
          go_wp2
          go_roundw
          case rel =>
            refine ⟨k + 1, r', by omega, by go_num, rfl, p1, by omega, btr hb hq, fun j hj => ?_⟩
            by_cases e : j = k
            · subst e; exact HP.out
            · exact HN.out j (by omega)
          case measure => simp [intOf]; omega
      · have hke : k = n := by omega
        subst hke
        go_wp2
        go_ret
        exact ⟨r, rfl, .inr ⟨r1, r2, by have := H.out; omega, HN.out⟩, hb⟩
set_option maxHeartbeats 1000000 in
theorem szterm_any : ∀ (t : Tm), Fits 9223372036854775807 t → ∀ (A : Option Addr) (c : Nat) (l : Int) (w : World), 0 ≤ l ∧ l ≤ 1048576 → Kids 0 w t A →
    Calls Try.prog 51 #[.agg #[.string t.nm, .slice A t.n c], .int .i64 l] w (SzT w t l) := by
  intro t
  induction t with
  | bad => intro h; exact False.elim h
  | mk nm n kid ih =>
    rintro ⟨hm, hn, hf⟩ A c l w ⟨l1, l2⟩ hA
    show Calls _ _ #[.agg #[.string nm, .slice A n c], .int .i64 l] w _
    by_cases h : l < nm.size
    · clear ih hf hA
      go_enter Try.func51, Try.ntmps51
      go_wp2
      go_ret
      exact ⟨-1, rfl, .inl (by omega), bal (Below.refl _ _) _⟩
    · have h2 : 0 ≤ l - (nm.size : Int) := by omega
      have hS := fun W (hb : Below w.heap.size w W) => szterms_of n kid hn (fun k hk a c l W hl hK => ih k (hf k hk) a c l W hl hK) nm A c (l - nm.size) W ⟨h2, by omega⟩ (hA.below hb)
      have H := hid h; clear h ih hf hA
      go_enter Try.func51, Try.ntmps51
      go_wp2_with fail
      refine (hS _ (bal (Below.refl _ _) _)).mono ?_
      rintro e w1 ⟨r, rfl, hr, hq⟩
      clear hS
      rcases hr with hr | ⟨p1, p2, p3, p4⟩
      · go_wp2
        go_ret
        exact ⟨-1, rfl, .inl (by omega), btr (bal (Below.refl _ _) _) hq⟩
      · have HP := hid p4; clear p4
        go_wp2
        go_ret
        exact ⟨_, rfl, .inr ⟨p1, by omega, ⟨by have := H.out; omega, p3, HP.out⟩⟩, btr (bal (Below.refl _ _) _) hq⟩
set_option maxRecDepth 100000 in
set_option maxHeartbeats 1000000 in
theorem eqterms_of (n : Nat) (kid : Nat → Tm) (hn : n ≤ 9223372036854775807) (IH : ∀ k, k < n → ∀ (a b : Option Addr) (c d : Nat) (W : World), Kids 0 W (kid k) a → Kids 0 W (kid k) b → Calls Try.prog 55 #[.agg #[.string (kid k).nm, .slice a (kid k).n c], .agg #[.string (kid k).nm, .slice b (kid k).n d]] W fun e w' => e = .returned (.bool true) ∧ Below W.heap.size W w')
    (nm : ByteArray) (A B : Option Addr) (c d : Nat) (w : World) (hA : Kids 0 w (.mk nm n kid) A) (hB : Kids 0 w (.mk nm n kid) B) :
    Calls Try.prog 36 #[.slice A n c, .slice B n d] w fun e w' => e = .returned (.bool true) ∧ Below w.heap.size w w' := by
  have HI := hid IH; clear IH
  go_enter Try.func36, Try.ntmps36
  go_wp2
  go_loopw [5] (fun i wr => ∃ k : Nat, k ≤ n ∧ i = .int .i64 k ∧ Below w.heap.size w wr) (fun i _ => n - (intOf i).toNat)
  case atStart => exact ⟨0, Nat.zero_le _, rfl, Below.refl _ _⟩
  case round =>
    obtain ⟨k, hk, rfl, hb⟩ := hrel
    by_cases hlt : k < n
    · rcases hA with h0 | ⟨g, off, rfl, _, hg, hcA⟩
      · omega
      rcases hB with h0 | ⟨g2, off2, rfl, _, hg2, hcB⟩
      · omega
      obtain ⟨a, ca, a0, a1, hI⟩ := hcA k hlt
      obtain ⟨b, cb, b0, b1, hJ⟩ := hcB k hlt
      have gg : g < wr.heap.size := Nat.lt_of_lt_of_le hg hb.size
      have gg2 : g2 < wr.heap.size := Nat.lt_of_lt_of_le hg2 hb.size
      replace a0 := carry hb a0
      replace a1 := carry hb a1
      replace b0 := carry hb b0
      replace b1 := carry hb b1
      have hE := fun X : Gro wr => HI.out k hlt a b ca cb (gro wr X) ((hI.below hb).below X.h) ((hJ.below hb).below X.h)
      clear hcA hcB hI hJ
      have gc := @gro_cell wr
      go_upto_region 6 with fail
      refine wp_region_grow_lit (by kernel_rfl) (by kernel_rfl) ?_
      repeat (go_big_quiet_step ((go_at_call 55; exact grow_call _ (hE _))))
      refine wpQuiet_nil ?_
      rintro _ ⟨X, rfl⟩
      clear gc
      go_wp2
      go_roundw
      case rel => exact ⟨k + 1, by omega, by go_num, btr hb X.h⟩
      case measure => simp [intOf]; omega
    · have hke : k = n := by omega
      subst hke
      go_wp2
      go_ret
      exact ⟨rfl, hb⟩
set_option maxHeartbeats 1000000 in
theorem eqterm_same : ∀ (t : Tm), Fits 9223372036854775807 t → ∀ (A B : Option Addr) (c d : Nat) (w : World), Kids 0 w t A → Kids 0 w t B →
    Calls Try.prog 55 #[.agg #[.string t.nm, .slice A t.n c], .agg #[.string t.nm, .slice B t.n d]] w fun e w' => e = .returned (.bool true) ∧ Below w.heap.size w w' := by
  intro t
  induction t with
  | bad => intro h; exact False.elim h
  | mk nm n kid ih =>
    rintro ⟨hm, hn, hf⟩ A B c d w hA hB
    show Calls _ _ #[.agg #[.string nm, .slice A n c], .agg #[.string nm, .slice B n d]] w _
    have hS := fun W (hb : Below w.heap.size w W) => eqterms_of n kid hn (fun k hk a b c d W h1 h2 => ih k (hf k hk) a b c d W h1 h2) nm A B c d W (hA.below hb) (hB.below hb)
    clear ih hf hA hB
    go_enter Try.func55, Try.ntmps55
    go_wp2_with fail
    refine (hS _ (bal (bal (Below.refl _ _) _) _)).mono ?_
    rintro e w1 ⟨rfl, hq⟩
    clear hS
    go_wp2
    go_ret
    exact ⟨rfl, btr (bal (bal (Below.refl _ _) _) _) hq⟩
end Go.Proofs.Ytanfljajafelgaa

namespace Go.Proofs.Ytanfljajafelgaa
set_option linter.unusedVariables false
set_option linter.unusedSimpArgs false
open Go.RowKit
def termV (LA : Nat → Option Addr) (kid : Nat → Tm) (j : Nat) : Value := if j % 2 = 0 then .string (kid (j / 2)).nm else .slice (LA (j / 2)) (kid (j / 2)).n (kid (j / 2)).n
theorem termV_0 (LA : Nat → Option Addr) (kid : Nat → Tm) (k : Nat) : termV LA kid (k * 2) = .string (kid k).nm := by
  unfold termV; rw [if_pos (by omega), show k * 2 / 2 = k by omega]
theorem termV_1 (LA : Nat → Option Addr) (kid : Nat → Tm) (k : Nat) : termV LA kid (k * 2 + 1) = .slice (LA k) (kid k).n (kid k).n := by
  unfold termV; rw [if_neg (by omega), show (k * 2 + 1) / 2 = k by omega]
theorem termV_old {LA : Nat → Option Addr} {kid : Nat → Tm} {A : Option Addr} {k j : Nat} (h : j / 2 ≠ k) : termV (fun i => if i = k then A else LA i) kid j = termV LA kid j := by
  unfold termV; simp [h]
def zeroT (j : Nat) : Value := if j % 2 = 0 then .string ⟨#[]⟩ else .slice none 0 0
theorem infoTm : (Try.prog.info? 76).map (fun i => (i.zero, i.size, i.bytes)) = some (some (.agg #[.string ⟨#[]⟩, .slice none 0 0]), 2, 40) := by kernel_rfl
theorem rowIs_madeT (w : World) (n : Nat) (t : TypeId) : (w.alloc (.cells (madeCells #[.string ⟨#[]⟩, .slice none 0 0] n) t)).rowIs w.heap.size t n zeroT :=
  ⟨_, Deep.blk_alloc_new _ _, size_madeCells _ _, fun i hi => by
    have h2 : i % 2 = 0 ∨ i % 2 = 1 := by omega
    rcases h2 with h2 | h2 <;> simp [madeCells, hi, h2, zeroT]⟩
theorem run_make_terms (n : Nat) (hn : n ≤ 1048576) (w : World) :
    (Instr.makeSlice 52 (.int .i64 (n : Int)) (.int .i64 (n : Int))).run Try.prog w = .ok (.slice (some ⟨w.heap.size, 0, none⟩) n n) (w.alloc (.cells (madeCells #[.string ⟨#[]⟩, .slice none 0 0] (n * 2)) 76)) := by
  obtain ⟨i, hi, hzz⟩ := Option.map_eq_some_iff.1 infoTm
  simp only [Prod.mk.injEq] at hzz
  obtain ⟨hz, hs, hb⟩ := hzz
  have hr := run_make (P := Try.prog) w 52 76 i _ Try.underlying52 hi hz .i64 .i64 n n (by omega) (Int.le_refl _) (by rw [hb]; omega) (by omega)
  simp only [Int.toNat_natCast, hs] at hr
  exact hr
/-- a term of new memory, handed back -/
def NewT (W : World) (t : Tm) (e : Ending) (w' : World) : Prop :=
  ∃ A, e = .returned (.agg #[.string t.nm, .slice A t.n t.n]) ∧ Kids W.heap.size w' t A ∧ Below W.heap.size W w'
/-- a list of terms of new memory, handed back -/
def NewTs (W : World) (n : Nat) (kid : Nat → Tm) (e : Ending) (w' : World) : Prop :=
  ∃ A, e = .returned (.slice A n n) ∧ (∀ nm, Kids W.heap.size w' (.mk nm n kid) A) ∧ Below W.heap.size W w'
set_option maxRecDepth 100000 in
set_option maxHeartbeats 4000000 in
theorem toterms_of (n : Nat) (kid : Nat → Tm) (hn : n ≤ 1048576) (IH : ∀ k, k < n → ∀ (a : Option Addr) (c : Nat) (W : World), Kids 0 W (kid k) a → Calls Try.prog 53 #[.agg #[.string (kid k).nm, .slice a (kid k).n c]] W (NewT W (kid k)))
    (nm : ByteArray) (A : Option Addr) (c : Nat) (w : World) (hA : Kids 0 w (.mk nm n kid) A) :
    Calls Try.prog 34 #[.slice A n c] w (NewTs w n kid) := by
  have hmk := run_make_terms n hn
  have hrow := rowIs_madeT w (n * 2) 76
  have hb0 : Below w.heap.size w (w.alloc (.cells (madeCells #[.string ⟨#[]⟩, .slice none 0 0] (n * 2)) 76)) := bal (Below.refl _ _) _
  have HI := hid IH; clear IH
  go_enter Try.func34, Try.ntmps34
  go_wp2
  clear hmk
  go_loopw [4] (fun i wr => ∃ (k : Nat) (LA : Nat → Option Addr), k ≤ n ∧ i = .int .i64 k ∧ Below w.heap.size w wr ∧ wr.rowIs w.heap.size 76 (n * 2) (fun j => if j < k * 2 then termV LA kid j else zeroT j) ∧ ∀ i, i < k → Kids (w.heap.size + 1) wr (kid i) (LA i)) (fun i _ => n - (intOf i).toNat)
  case atStart => exact ⟨0, fun _ => none, Nat.zero_le _, rfl, hb0, hrow.congr fun i hi => by simp, fun i hi => by omega⟩
  case round =>
    obtain ⟨k, LA, hk, rfl, hb, hr, ho⟩ := hrel
    have HO := hid ho; clear ho
    clear hrow hb0
    by_cases hlt : k < n
    · rcases hA with h0 | ⟨g, off, rfl, _, hg, hcA⟩
      · omega
      obtain ⟨a, ca, a0, a1, hI⟩ := hcA k hlt
      have gg : g < wr.heap.size := Nat.lt_of_lt_of_le hg hb.size
      replace a0 := carry hb a0
      replace a1 := carry hb a1
      replace hI := hI.below hb
      have hS : w.heap.size < wr.heap.size := hr.lt
      clear hcA
      have hT := HI.out k hlt a ca wr hI
      clear hI
      go_wp2_with (go_at_call 53; refine hT.mono ?_; rintro e w1 ⟨A3, rfl, O3, hq⟩; have hr1 := row_below hr hq; have d0 : w1.cell? ⟨w.heap.size, k * 2, none⟩ = some (.string ⟨#[]⟩) := ((hr1.cell (by omega)).trans (by rw [if_neg (by omega)]; unfold zeroT; rw [if_pos (by omega)])); have d1 : w1.cell? ⟨w.heap.size, k * 2 + 1, none⟩ = some (.slice none 0 0) := ((hr1.cell (by omega)).trans (by rw [if_neg (by omega)]; unfold zeroT; rw [if_neg (by omega)])); have e0 : w1.frozen? ⟨w.heap.size, k * 2, none⟩ = false := hr1.frozen _; have e1 : w1.frozen? ⟨w.heap.size, k * 2 + 1, none⟩ = false := hr1.frozen _)
      go_roundw
      case rel =>
        refine ⟨k + 1, fun i => if i = k then A3 else LA i, by omega, by go_num, bst (bst (btr hb hq) (Nat.le_refl _) _) (Nat.le_refl _) _, ((hr1.set (k * 2) _).set (k * 2 + 1) _).congr fun j hj => ?_, fun i hi => ?_⟩
        · by_cases eb : j = k * 2 + 1
          · subst eb; rw [if_pos rfl, if_pos (by omega), termV_1]; simp
          · rw [if_neg eb]
            by_cases ea : j = k * 2
            · subst ea; rw [if_pos rfl, if_pos (by omega), termV_0]
            · rw [if_neg ea]
              by_cases e2 : j < k * 2
              · rw [if_pos e2, if_pos (by omega), termV_old (by omega)]
              · rw [if_neg e2, if_neg (by omega)]
        · by_cases e : i = k
          · subst e
            simp only [if_true]
            exact ((O3.mono (by omega)).set _ (by omega)).set _ (by omega)
          · simp only [if_neg e]
            exact (((HO.out i (by omega)).below hq).set _ (by omega)).set _ (by omega)
      case measure => simp [intOf]; omega
    · have hke : k = n := by omega
      subst hke
      go_wp2
      go_ret
      refine ⟨_, rfl, fun nm' => .inr ⟨w.heap.size, 0, rfl, Nat.le_refl _, hr.lt, fun i hi => ⟨LA i, (kid i).n, ?_, ?_, (HO.out i hi).mono (by omega)⟩⟩, hb⟩
      · rw [Nat.zero_add]; exact (hr.cell (by omega)).trans (by rw [if_pos (by omega), termV_0])
      · rw [Nat.zero_add]; exact (hr.cell (by omega)).trans (by rw [if_pos (by omega), termV_1])
set_option maxHeartbeats 2000000 in
theorem toterm_any : ∀ (t : Tm), Fits 1048576 t → ∀ (A : Option Addr) (c : Nat) (w : World), Kids 0 w t A →
    Calls Try.prog 53 #[.agg #[.string t.nm, .slice A t.n c]] w (NewT w t) := by
  intro t
  induction t with
  | bad => intro h; exact False.elim h
  | mk nm n kid ih =>
    rintro ⟨hm, hn, hf⟩ A c w hA
    show Calls _ _ #[.agg #[.string nm, .slice A n c]] w _
    have hT := fun W (hb : Below w.heap.size w W) => toterms_of n kid hn (fun k hk a c W h => ih k (hf k hk) a c W h) nm A c W (hA.below hb)
    clear ih hf hA
    go_enter Try.func53, Try.ntmps53
    go_wp2_with fail
    refine (hT _ (bal (bal (bal (Below.refl _ _) _) _) _)).mono ?_
    rintro e w1 ⟨A', rfl, hO, hq⟩
    obtain ⟨hc, hfz⟩ := bcell hq
    clear hT
    go_wp2
    have e0 : w1.cell? ⟨w.heap.size + 1, 0, none⟩ = some (.string ⟨#[]⟩) := by rw [hc _ _ (by simp <;> omega)]; simp [go_sem]
    have e1 : w1.cell? ⟨w.heap.size + 1, 1, none⟩ = some (.slice none 0 0) := by rw [hc _ _ (by simp <;> omega)]; simp [go_sem]
    have f0 : (w1.setCell ⟨w.heap.size + 1 + 1, 1, none⟩ (.slice A' n n)).cell? ⟨w.heap.size + 1, 0, none⟩ = some (.string ⟨#[]⟩) := by rw [World.cell?_setCell_other _ _ _ _ (by simp)]; exact e0
    have f1 : (w1.setCell ⟨w.heap.size + 1 + 1, 1, none⟩ (.slice A' n n)).cell? ⟨w.heap.size + 1, 1, none⟩ = some (.slice none 0 0) := by rw [World.cell?_setCell_other _ _ _ _ (by simp)]; exact e1
    obtain ⟨t0, t1⟩ := set2 f0 f1 (.string nm) (.slice A' n n)
    clear hc hfz
    have l2 : w.heap.size + 1 + 1 < (((w.alloc (.cells #[.string nm, .slice A n c] 72)).alloc (.cells #[.string ⟨#[]⟩, .slice none 0 0] 76)).alloc (.cells #[.string nm, .slice none 0 0] 76)).heap.size := by simp
    have hO2 := (((hO nm).set (o := 1) (.slice A' n n) l2).set (o := 0) (.string nm) (Nat.lt_of_succ_lt l2)).set (o := 1) (.slice A' n n) (Nat.lt_of_succ_lt l2)
    refine bodyPost_ret (v := .agg #[.string nm, .slice A' n n]) (by simp [results, Try.results53, go_sem, t0, t1]) rfl ⟨A', rfl, hO2.mono (by simp <;> omega), ?_⟩
    clear t0 t1 e0 e1 f0 f1 hO hO2 l2
    (repeat first | with_reducible exact Below.refl _ _ | with_reducible assumption | with_reducible refine Below.drew ?_ | with_reducible refine bdn ?_ _ | with_reducible refine bal ?_ _ | (with_reducible refine bst ?_ ?_ _; rotate_left; (simp <;> omega)) | (with_reducible refine btr ?_ (by with_reducible assumption)))
end Go.Proofs.Ytanfljajafelgaa

namespace Go.Proofs.Ytanfljajafelgaa
set_option linter.unusedVariables false
set_option linter.unusedSimpArgs false
open Go.RowKit
/-- a term is one, so deep at most -/
def shapeB : Nat → Tm → Bool
  | 0, _ => false
  | d + 1, .mk nm n kid => decide (nameB nm = true ∧ n ≤ 2 ∧ ∀ k, k < n → shapeB d (kid k) = true)
  | _ + 1, .bad => false
theorem shape_mk {d : Nat} {t : Tm} (h : shapeB (d + 1) t = true) : ∃ nm n kid, t = .mk nm n kid := by
  cases t with
  | bad => cases h
  | mk nm n kid => exact ⟨nm, n, kid, rfl⟩
theorem shape_iff {d : Nat} {nm : ByteArray} {n : Nat} {kid : Nat → Tm} : shapeB (d + 1) (.mk nm n kid) = true ↔ nameB nm = true ∧ n ≤ 2 ∧ ∀ k, k < n → shapeB d (kid k) = true := by
  rw [shapeB]; exact decide_eq_true_iff
theorem shape_no {d : Nat} {nm : ByteArray} {n : Nat} {kid : Nat → Tm} (h : ¬ (nameB nm = true ∧ n ≤ 2 ∧ ∀ k, k < n → shapeB d (kid k) = true)) : shapeB (d + 1) (.mk nm n kid) = false := by
  cases e : shapeB (d + 1) (.mk nm n kid)
  · rfl
  · exact absurd (shape_iff.1 e) h
def sumK (f : Nat → Nat) : Nat → Nat
  | 0 => 0
  | n + 1 => sumK f n + f n
/-- how many terms there are in a term, so deep at most -/
def cntN : Nat → Tm → Nat
  | 0, _ => 1
  | d + 1, .mk _ n kid => 1 + sumK (fun k => cntN d (kid k)) n
  | _ + 1, .bad => 0
theorem cnt_succ (d : Nat) (nm : ByteArray) (n : Nat) (kid : Nat → Tm) : cntN (d + 1) (.mk nm n kid) = 1 + sumK (fun k => cntN d (kid k)) n := by rw [cntN]
theorem sumK_bd {f : Nat → Nat} {m : Nat} : ∀ {n : Nat}, (∀ k, k < n → f k ≤ m) → sumK f n ≤ n * m
  | 0, _ => by simp [sumK]
  | n + 1, h => by
    have ih := sumK_bd (n := n) (fun k hk => h k (by omega))
    have := h n (by omega)
    rw [sumK, Nat.succ_mul]; omega
theorem cnt_bd : ∀ (d : Nat) (t : Tm), shapeB d t = true → cntN d t + 1 ≤ 2 ^ d := by
  intro d
  induction d with
  | zero => intro t h; cases h
  | succ d ih =>
    intro t h
    obtain ⟨nm, n, kid, rfl⟩ := shape_mk h
    obtain ⟨_, h2, h3⟩ := shape_iff.1 h
    have hp : 1 ≤ 2 ^ d := Nat.one_le_two_pow
    have hs := sumK_bd (f := fun k => cntN d (kid k)) (m := 2 ^ d - 1) (n := n) (fun k hk => by have := ih _ (h3 k hk); show cntN d (kid k) ≤ _; omega)
    rw [cnt_succ, Nat.pow_succ]
    have : n * (2 ^ d - 1) ≤ 2 * (2 ^ d - 1) := Nat.mul_le_mul_right _ h2
    omega
theorem cnt_16 {d : Nat} {t : Tm} (hd : d ≤ 4) (h : shapeB d t = true) : cntN d t ≤ 16 := by
  have h1 := cnt_bd d t h
  have h2 : 2 ^ d ≤ 2 ^ 4 := Nat.pow_le_pow_right (by omega) hd
  omega
set_option maxRecDepth 100000 in
set_option maxHeartbeats 2000000 in
theorem shape_any : ∀ (d : Nat), d ≤ 4 → ∀ (t : Tm), Fits 1048576 t → ∀ (A : Option Addr) (c : Nat) (w : World), Kids 0 w t A →
    Calls Try.prog 216 #[.agg #[.string t.nm, .slice A t.n c], .int .i64 (d : Int)] w fun e w' => e = .returned (.bool (shapeB d t)) ∧ Below w.heap.size w w' := by
  intro d
  induction d with
  | zero =>
    rintro _ (⟨nm, n, kid⟩ | _) hF A c w hA
    rotate_left
    · exact False.elim hF
    rw [show (((0 : Nat)) : Int) = 0 from rfl]
    change Calls _ _ #[.agg #[.string nm, .slice A n c], _] w _
    clear hA hF
    go_enter Try.func216, Try.ntmps216
    go_wp2
    go_ret
    exact ⟨rfl, bal (Below.refl _ _) _⟩
  | succ d ih =>
    rintro hd (⟨nm, n, kid⟩ | _) ⟨hm, hn, hf⟩ A c w hA
    rw [show (((d + 1 : Nat)) : Int) = (d : Int) + 1 from rfl]
    change Calls _ _ #[.agg #[.string nm, .slice A n c], _] w _
    have HI := hid (fun k hk a cc W hK => ih (by omega) (kid k) (hf k hk) a cc W hK); clear ih hf
    have e1 : decide ((d : Int) + 1 < 1) = false := by simp; omega
    cases hv : nameB nm
    · have hO := fun W => snameok_any nm W (by omega)
      rw [hv] at hO
      have HF := hid (shape_no (d := d) (nm := nm) (n := n) (kid := kid) (fun h => by rw [hv] at h; simp at h)); clear hv hA
      go_enter Try.func216, Try.ntmps216
      go_wp2_with (go_at_call 20; refine (hO _).mono ?_; rintro e w1 ⟨rfl, rfl⟩)
      go_ret
      exact ⟨ret_bool HF.out.symm, bal (Below.refl _ _) _⟩
    have hO := fun W => snameok_any nm W (by omega)
    rw [hv] at hO
    by_cases h2 : n ≤ 2
    · have e2 : decide (2 < (n : Int)) = false := by simp; omega
      have HV := hid hv; have H2 := hid h2; clear hv h2
      generalize hr : shapeB (d + 1) (.mk nm n kid) = res
      have HR := hid hr; clear hr
      have b1 : (w.alloc (.cells #[.string nm, .slice A n c] 76)).cell? ⟨w.heap.size, 1, none⟩ = some (.slice A n c) := by simp [go_sem]
      have q0 := bal (Below.refl w.heap.size w) (.cells #[.string nm, .slice A n c] 76)
      have hA2 := hA.below q0
      clear hA
      go_enter Try.func216, Try.ntmps216
      go_wp2_with (go_at_call 20; refine (hO _).mono ?_; rintro e w1 ⟨rfl, rfl⟩)
      clear hO
      generalize w.alloc (.cells #[.string nm, .slice A n c] 76) = W0 at *
      go_loopw [5] (fun i wr => ∃ k : Nat, k ≤ n ∧ i = .int .i64 k ∧ Below W0.heap.size W0 wr ∧ ∀ j, j < k → shapeB d (kid j) = true) (fun i _ => n - (intOf i).toNat)
      case atStart => exact ⟨0, Nat.zero_le _, rfl, Below.refl _ _, fun j hj => by omega⟩
      case round =>
        obtain ⟨k, hk, rfl, hb, he⟩ := hrel
        have HE := hid he; clear he
        have g1 := carry hb b1
        have gs : w.heap.size < wr.heap.size := cell_lt g1
        clear b1
        by_cases hlt : k < n
        · rcases hA2 with h0 | ⟨g, off, rfl, _, hg, hcA⟩
          · omega
          obtain ⟨a, ca, a0, a1, hI⟩ := hcA k hlt
          have gg : g < wr.heap.size := Nat.lt_of_lt_of_le hg hb.size
          replace a0 := carry hb a0
          replace a1 := carry hb a1
          replace hI := hI.below hb
          clear hcA
          have hS := HI.out k hlt a ca wr hI
          clear hI
          cases hs : shapeB d (kid k)
          · rw [hs] at hS
            have HF := hid (shape_no (d := d) (nm := nm) (n := n) (kid := kid) (fun h => by have := h.2.2 k hlt; rw [hs] at this; cases this)); clear hs
            go_wp2_with (go_at_call 216; refine hS.mono ?_; rintro e w1 ⟨rfl, hq⟩)
            go_ret
            exact ⟨ret_bool (HF.out.symm.trans HR.out), btr q0 (btr hb hq)⟩
          · rw [hs] at hS
            have HS := hid hs; clear hs
            go_wp2_with (go_at_call 216; refine hS.mono ?_; rintro e w1 ⟨rfl, hq⟩)
            go_roundw
            case rel =>
              refine ⟨k + 1, by omega, by go_num, btr hb hq, fun j hj => ?_⟩
              by_cases e : j = k
              · subst e; exact HS.out
              · exact HE.out j (by omega)
            case measure => simp [intOf]; omega
        · have hke : k = n := by omega
          subst hke
          have HT := hid (shape_iff.2 ⟨HV.out, H2.out, HE.out⟩)
          go_wp2
          go_ret
          exact ⟨ret_bool (HT.out.symm.trans HR.out), btr q0 hb⟩
    · have HF := hid (shape_no (d := d) (nm := nm) (n := n) (kid := kid) (fun h => h2 h.2.1))
      have e2 : decide (2 < (n : Int)) = true := by simp; omega
      clear hv h2 hA
      go_enter Try.func216, Try.ntmps216
      go_wp2_with (go_at_call 20; refine (hO _).mono ?_; rintro e w1 ⟨rfl, rfl⟩)
      go_ret
      exact ⟨ret_bool HF.out.symm, bal (Below.refl _ _) _⟩
end Go.Proofs.Ytanfljajafelgaa

namespace Go.Proofs.Ytanfljajafelgaa
set_option linter.unusedVariables false
set_option linter.unusedSimpArgs false
open Go.RowKit
theorem ret_i64 {a b : Int} (h : a = b) : Ending.returned (.int .i64 a) = .returned (.int .i64 b) := by rw [h]
set_option maxRecDepth 100000 in
set_option maxHeartbeats 2000000 in
theorem many_any : ∀ (d : Nat), d ≤ 4 → ∀ (t : Tm), Fits 1048576 t → shapeB d t = true → ∀ (A : Option Addr) (c : Nat) (w : World), Kids 0 w t A →
    Calls Try.prog 217 #[.agg #[.string t.nm, .slice A t.n c], .int .i64 (d : Int)] w fun e w' => e = .returned (.int .i64 (cntN d t)) ∧ Below w.heap.size w w' := by
  intro d
  induction d with
  | zero => rintro _ t _ h; cases h
  | succ d ih =>
    rintro hd (⟨nm, n, kid⟩ | _) ⟨hm, hn, hf⟩ hsh A c w hA
    rw [show (((d + 1 : Nat)) : Int) = (d : Int) + 1 from rfl]
    change Calls _ _ #[.agg #[.string nm, .slice A n c], _] w _
    obtain ⟨_, h2, h3⟩ := shape_iff.1 hsh
    have HI := hid (fun k hk a cc W hK => ih (by omega) (kid k) (hf k hk) (h3 k hk) a cc W hK)
    have HB := hid (fun k (hk : k < n) => cnt_16 (d := d) (by omega) (h3 k hk))
    have HBB := hid (cnt_16 (d := d + 1) (by omega) hsh)
    clear ih hf h3 hsh
    have e1 : decide ((0 : Int) < (d : Int) + 1) = true := by simp <;> omega
    have hsum : ∀ k, k ≤ n → sumK (fun k => cntN d (kid k)) k ≤ 32 := fun k hk => by
      have := sumK_bd (f := fun k => cntN d (kid k)) (m := 16) (n := k) (fun j hj => HB.out j (by omega))
      omega
    have HSU := hid hsum; clear hsum
    have b1 : (w.alloc (.cells #[.string nm, .slice A n c] 76)).cell? ⟨w.heap.size, 1, none⟩ = some (.slice A n c) := by simp [go_sem]
    have q0 := bal (Below.refl w.heap.size w) (.cells #[.string nm, .slice A n c] 76)
    have hA2 := hA.below q0
    clear hA
    go_enter Try.func217, Try.ntmps217
    go_wp2
    generalize w.alloc (.cells #[.string nm, .slice A n c] 76) = W0 at *
    go_loopw [5, 6] (fun q i wr => ∃ k s : Nat, k ≤ n ∧ i = .int .i64 k ∧ q = .int .i64 s ∧ s = 1 + sumK (fun k => cntN d (kid k)) k ∧ Below W0.heap.size W0 wr) (fun _ i _ => n - (intOf i).toNat)
    case atStart => exact ⟨0, 1, Nat.zero_le _, rfl, rfl, rfl, Below.refl _ _⟩
    case round =>
      obtain ⟨k, s, hk, rfl, rfl, hs, hb⟩ := hrel
      have hsb := HSU.out k hk
      have hs33 : s ≤ 33 := by omega
      have HS := hid hs; clear hs hsb
      have g1 := carry hb b1
      have gs : w.heap.size < wr.heap.size := cell_lt g1
      clear b1
      by_cases hlt : k < n
      · rcases hA2 with h0 | ⟨g, off, rfl, _, hg, hcA⟩
        · omega
        obtain ⟨a, ca, a0, a1, hI⟩ := hcA k hlt
        have gg : g < wr.heap.size := Nat.lt_of_lt_of_le hg hb.size
        replace a0 := carry hb a0
        replace a1 := carry hb a1
        replace hI := hI.below hb
        clear hcA
        have hS := HI.out k hlt a ca wr hI
        have hbk := HB.out k hlt
        clear hI
        have hstep : sumK (fun k => cntN d (kid k)) (k + 1) = sumK (fun k => cntN d (kid k)) k + cntN d (kid k) := rfl
        have HST := hid hstep; clear hstep
        generalize cntN d (kid k) = m at hS hbk HST
        go_wp2_with (go_at_call 217; refine hS.mono ?_; rintro e w1 ⟨rfl, hq⟩)
        go_roundw
        case rel => exact ⟨k + 1, s + m, by omega, by go_num, by go_num, by rw [HST.out, HS.out]; omega, btr hb hq⟩
        case measure => simp [intOf]; omega
      · have hke : k = n := by omega
        subst hke
        go_wp2
        go_ret
        exact ⟨ret_i64 (by rw [cnt_succ, HS.out]), btr q0 hb⟩
/-- a term is well-formed -/
def wellB (t : Tm) : Bool := decide (shapeB 4 t = true ∧ cntN 4 t ≤ 12)
theorem wellB_iff {t : Tm} : wellB t = true ↔ shapeB 4 t = true ∧ cntN 4 t ≤ 12 := by unfold wellB; exact decide_eq_true_iff
theorem wellB_no {t : Tm} (h : shapeB 4 t = false) : wellB t = false := by
  cases e : wellB t
  · rfl
  · rw [(wellB_iff.1 e).1] at h; cases h
theorem wellB_cnt {t : Tm} (h : shapeB 4 t = true) : wellB t = decide ((cntN 4 t : Int) ≤ 12) := by
  unfold wellB; rw [h]; simp; omega
set_option maxHeartbeats 1000000 in
theorem right_any (t : Tm) (hF : Fits 1048576 t) (A : Option Addr) (c : Nat) (w : World) (hA : Kids 0 w t A) :
    Calls Try.prog 182 #[.agg #[.string t.nm, .slice A t.n c]] w fun e w' => e = .returned (.bool (wellB t)) ∧ Below w.heap.size w w' := by
  have hS := fun W (hb : Below w.heap.size w W) => shape_any 4 (by omega) t hF A c W (hA.below hb)
  have q0 := bal (Below.refl w.heap.size w) (.cells #[.string t.nm, .slice A t.n c] 76)
  have b0 : (w.alloc (.cells #[.string t.nm, .slice A t.n c] 76)).cell? ⟨w.heap.size, 0, none⟩ = some (.string t.nm) ∧ (w.alloc (.cells #[.string t.nm, .slice A t.n c] 76)).cell? ⟨w.heap.size, 1, none⟩ = some (.slice A t.n c) := by constructor <;> simp [go_sem]
  cases hs : shapeB 4 t
  · rw [hs] at hS
    rw [wellB_no hs]
    clear hs hA
    go_enter Try.func182, Try.ntmps182
    go_wp2_with fail
    refine (hS _ q0).mono ?_
    rintro e w1 ⟨rfl, hq⟩
    clear hS
    go_wp2
    go_ret
    exact ⟨rfl, btr q0 hq⟩
  · rw [hs] at hS
    have hM := fun W (hb : Below w.heap.size w W) => many_any 4 (by omega) t hF hs A c W (hA.below hb)
    have hb16 := cnt_16 (by omega) hs
    rw [wellB_cnt hs]
    generalize cntN 4 t = m at hM hb16 ⊢
    clear hs hA
    go_enter Try.func182, Try.ntmps182
    go_wp2_with fail
    refine (hS _ q0).mono ?_
    rintro e w1 ⟨rfl, hq⟩
    clear hS
    have c0 := carry hq b0.1
    have c1 := carry hq b0.2
    clear b0
    go_wp2_with fail
    refine (hM _ (btr q0 hq)).mono ?_
    rintro e w2 ⟨rfl, hq2⟩
    clear hM
    go_wp2
    go_ret
    exact ⟨rfl, btr (btr q0 hq) hq2⟩
/-- what size answers of a term, so deep at most -/
def SizeP (w : World) (d : Nat) (t : Tm) (e : Ending) (w' : World) : Prop := e = .returned (.tuple #[.int .i64 ((if shapeB d t = true then cntN d t else 0 : Nat) : Int), .bool (shapeB d t)]) ∧ Below w.heap.size w w'
theorem SizeP.no {w w' : World} {d : Nat} {t : Tm} (h : shapeB d t = false) (hb : Below w.heap.size w w') : SizeP w d t (.returned (.tuple #[.int .i64 0, .bool false])) w' := ⟨by rw [h]; rfl, hb⟩
theorem SizeP.yes {w w' : World} {d : Nat} {t : Tm} {m : Nat} (h : shapeB d t = true) (hm : cntN d t = m) (hb : Below w.heap.size w w') : SizeP w d t (.returned (.tuple #[.int .i64 (m : Int), .bool true])) w' := ⟨by rw [h, if_pos rfl, hm], hb⟩
theorem SizeP.false {w w' : World} {d : Nat} {t : Tm} {e : Ending} (h : shapeB d t = false) (hp : SizeP w d t e w') : e = .returned (.tuple #[.int .i64 0, .bool false]) ∧ Below w.heap.size w w' := by
  unfold SizeP at hp; rw [h] at hp; exact hp
theorem SizeP.true {w w' : World} {d : Nat} {t : Tm} {e : Ending} (h : shapeB d t = true) (hp : SizeP w d t e w') : e = .returned (.tuple #[.int .i64 (cntN d t), .bool true]) ∧ Below w.heap.size w w' := by
  unfold SizeP at hp; rw [h, if_pos rfl] at hp; exact hp
set_option maxRecDepth 100000 in
set_option maxHeartbeats 2000000 in
theorem size_any : ∀ (d : Nat), d ≤ 4 → ∀ (t : Tm), Fits 1048576 t → ∀ (A : Option Addr) (c : Nat) (w : World), Kids 0 w t A →
    Calls Try.prog 228 #[.agg #[.string t.nm, .slice A t.n c], .int .i64 (d : Int)] w (SizeP w d t) := by
  intro d
  induction d with
  | zero =>
    rintro _ (⟨nm, n, kid⟩ | _) hF A c w hA
    rotate_left
    · exact False.elim hF
    rw [show (((0 : Nat)) : Int) = 0 from rfl]
    change Calls _ _ #[.agg #[.string nm, .slice A n c], _] w _
    clear hA hF
    go_enter Try.func228, Try.ntmps228
    go_wp2
    go_ret2
    exact SizeP.no rfl (bal (Below.refl _ _) _)
  | succ d ih =>
    rintro hd (⟨nm, n, kid⟩ | _) ⟨hm, hn, hf⟩ A c w hA
    rw [show (((d + 1 : Nat)) : Int) = (d : Int) + 1 from rfl]
    change Calls _ _ #[.agg #[.string nm, .slice A n c], _] w _
    have HI := hid (fun k hk a cc W hK => ih (by omega) (kid k) (hf k hk) a cc W hK); clear ih hf
    have e1 : ((d : Int) + 1 == 0) = false := by simp; omega
    cases hv : nameB nm
    · have hO := fun W => nameok_any nm W (by omega)
      rw [hv] at hO
      have HF := hid (shape_no (d := d) (nm := nm) (n := n) (kid := kid) (fun h => by rw [hv] at h; simp at h)); clear hv hA
      go_enter Try.func228, Try.ntmps228
      go_wp2_with (go_at_call 19; refine (hO _).mono ?_; rintro e w1 ⟨rfl, rfl⟩)
      go_ret2
      exact SizeP.no HF.out (bal (Below.refl _ _) _)
    have hO := fun W => nameok_any nm W (by omega)
    rw [hv] at hO
    by_cases h2 : n ≤ 2
    · have e2 : decide (2 < (n : Int)) = false := by simp; omega
      have HV := hid hv; have H2 := hid h2; clear hv
      have b1 : (w.alloc (.cells #[.string nm, .slice A n c] 76)).cell? ⟨w.heap.size, 1, none⟩ = some (.slice A n c) := by simp [go_sem]
      have q0 := bal (Below.refl w.heap.size w) (.cells #[.string nm, .slice A n c] 76)
      have hA2 := hA.below q0
      clear hA
      go_enter Try.func228, Try.ntmps228
      go_wp2_with (go_at_call 19; refine (hO _).mono ?_; rintro e w1 ⟨rfl, rfl⟩)
      clear hO
      generalize w.alloc (.cells #[.string nm, .slice A n c] 76) = W0 at *
      clear b1
      go_loopw [6, 28] (fun q i wr => ∃ k s : Nat, k ≤ n ∧ i = .int .i64 k ∧ q = .int .i64 s ∧ s = 1 + sumK (fun k => cntN d (kid k)) k ∧ Below W0.heap.size W0 wr ∧ ∀ j, j < k → shapeB d (kid j) = true) (fun _ i _ => n - (intOf i).toNat)
      case atStart => exact ⟨0, 1, Nat.zero_le _, rfl, rfl, rfl, Below.refl _ _, fun j hj => by omega⟩
      case round =>
        obtain ⟨k, s, hk, rfl, rfl, hs, hb, he⟩ := hrel
        have hs33 : s ≤ 33 := by
          have := sumK_bd (f := fun k => cntN d (kid k)) (m := 16) (n := k) (fun j hj => cnt_16 (by omega) (he j hj))
          omega
        have HE := hid he; clear he
        have HS := hid hs; clear hs
        by_cases hlt : k < n
        · rcases hA2 with h0 | ⟨g, off, rfl, _, hg, hcA⟩
          · omega
          obtain ⟨a, ca, a0, a1, hI⟩ := hcA k hlt
          have gg : g < wr.heap.size := Nat.lt_of_lt_of_le hg hb.size
          replace a0 := carry hb a0
          replace a1 := carry hb a1
          replace hI := hI.below hb
          clear hcA
          have hS := HI.out k hlt a ca _ (hI.below (bal (Below.refl _ _) (.cells #[.string (kid k).nm, .slice a (kid k).n ca] 76)))
          clear hI
          cases hsh : shapeB d (kid k)
          · replace hS := hS.mono (fun e w' h => SizeP.false hsh h)
            have HF := hid (shape_no (d := d) (nm := nm) (n := n) (kid := kid) (fun h => by have := h.2.2 k hlt; rw [hsh] at this; cases this)); clear hsh
            go_wp2_with (go_at_call 228; refine hS.mono ?_; rintro e w1 ⟨rfl, hq⟩)
            go_ret2
            exact SizeP.no HF.out (btr q0 (btr hb (btr (bal (Below.refl _ _) _) hq)))
          · have hbk := cnt_16 (d := d) (by omega) hsh
            replace hS := hS.mono (fun e w' h => SizeP.true hsh h)
            have HSH := hid hsh; clear hsh
            have hstep : sumK (fun k => cntN d (kid k)) (k + 1) = sumK (fun k => cntN d (kid k)) k + cntN d (kid k) := rfl
            have HST := hid hstep; clear hstep
            generalize cntN d (kid k) = m at hS hbk HST
            go_wp2_with (go_at_call 228; refine hS.mono ?_; rintro e w1 ⟨rfl, hq⟩)
            go_roundw
            case rel =>
              refine ⟨k + 1, s + m, by omega, by go_num, by go_num, by rw [HST.out, HS.out]; omega, btr hb (btr (bal (Below.refl _ _) _) hq), fun j hj => ?_⟩
              by_cases e : j = k
              · subst e; exact HSH.out
              · exact HE.out j (by omega)
            case measure => simp [intOf]; omega
        · have hke : k = n := by omega
          subst hke
          have HT := hid (shape_iff.2 ⟨HV.out, H2.out, HE.out⟩)
          go_wp2
          go_ret2
          exact SizeP.yes HT.out (by rw [cnt_succ, HS.out]) (btr q0 hb)
    · have HF := hid (shape_no (d := d) (nm := nm) (n := n) (kid := kid) (fun h => h2 h.2.1))
      have e2 : decide (2 < (n : Int)) = true := by simp; omega
      clear hv h2 hA
      go_enter Try.func228, Try.ntmps228
      go_wp2_with (go_at_call 19; refine (hO _).mono ?_; rintro e w1 ⟨rfl, rfl⟩)
      go_ret2
      exact SizeP.no HF.out (bal (Below.refl _ _) _)
set_option maxHeartbeats 1000000 in
theorem well_any (t : Tm) (hF : Fits 1048576 t) (A : Option Addr) (c : Nat) (w : World) (hA : Kids 0 w t A) :
    Calls Try.prog 195 #[.agg #[.string t.nm, .slice A t.n c]] w fun e w' => e = .returned (.bool (wellB t)) ∧ Below w.heap.size w w' := by
  have hS := fun W (hb : Below w.heap.size w W) => size_any 4 (by omega) t hF A c W (hA.below hb)
  have q0 := bal (Below.refl w.heap.size w) (.cells #[.string t.nm, .slice A t.n c] 76)
  cases hs : shapeB 4 t
  · replace hS := fun W hb => (hS W hb).mono (fun e w' h => SizeP.false hs h)
    rw [wellB_no hs]
    clear hs hA
    go_enter Try.func195, Try.ntmps195
    go_wp2_with fail
    refine (hS _ q0).mono ?_
    rintro e w1 ⟨rfl, hq⟩
    clear hS
    go_wp2
    go_ret
    exact ⟨rfl, btr q0 hq⟩
  · replace hS := fun W hb => (hS W hb).mono (fun e w' h => SizeP.true hs h)
    have hb16 := cnt_16 (by omega) hs
    rw [wellB_cnt hs]
    generalize cntN 4 t = m at hS hb16 ⊢
    clear hs hA
    go_enter Try.func195, Try.ntmps195
    go_wp2_with fail
    refine (hS _ q0).mono ?_
    rintro e w1 ⟨rfl, hq⟩
    clear hS
    go_wp2
    go_ret
    exact ⟨rfl, btr q0 hq⟩
end Go.Proofs.Ytanfljajafelgaa

namespace Go.Proofs.Ytanfljajafelgaa
set_option linter.unusedVariables false
set_option linter.unusedSimpArgs false
open Go.RowKit
def sumT : Nat → (Nat → Nat) → Nat
  | 0, _ => 0
  | k + 1, f => sumT k f + f k
/-- how many terms there are in a term -/
def tSz : Tm → Nat
  | .mk _ n kid => 1 + sumT n (fun k => tSz (kid k))
  | .bad => 1
theorem tSz_pos : ∀ t : Tm, 1 ≤ tSz t
  | .mk _ _ _ => by rw [tSz]; omega
  | .bad => by rw [tSz]; omega
/-- what the size of a term answers -/
def SzU (w : World) (t : Tm) (l : Int) (e : Ending) (w' : World) : Prop :=
  ∃ r : Int, e = .returned (.int .i64 r) ∧ (r < 0 ∨ (0 ≤ r ∧ r + tSz t ≤ l + 1 ∧ Fits 1048576 t)) ∧ Below w.heap.size w w'
/-- what the size of a list of terms answers -/
def SzUs (w : World) (n : Nat) (kid : Nat → Tm) (l : Int) (e : Ending) (w' : World) : Prop :=
  ∃ r : Int, e = .returned (.int .i64 r) ∧ (r < 0 ∨ (0 ≤ r ∧ r + sumT n (fun k => tSz (kid k)) ≤ l ∧ n ≤ 1048576 ∧ ∀ k, k < n → Fits 1048576 (kid k))) ∧ Below w.heap.size w w'
set_option maxRecDepth 100000 in
set_option maxHeartbeats 1000000 in
theorem sztermsU_of (n : Nat) (kid : Nat → Tm) (hn : n ≤ 9223372036854775807) (IH : ∀ k, k < n → ∀ (a : Option Addr) (c : Nat) (l : Int) (W : World), 0 ≤ l ∧ l ≤ 1048576 → Kids 0 W (kid k) a → Calls Try.prog 51 #[.agg #[.string (kid k).nm, .slice a (kid k).n c], .int .i64 l] W (SzU W (kid k) l))
    (nm : ByteArray) (A : Option Addr) (c : Nat) (l : Int) (w : World) (hl : 0 ≤ l ∧ l ≤ 1048576) (hA : Kids 0 w (.mk nm n kid) A) :
    Calls Try.prog 30 #[.slice A n c, .int .i64 l] w (SzUs w n kid l) := by
  obtain ⟨l1, l2⟩ := hl
  have HI := hid IH; clear IH
  by_cases h : l < n
  · go_enter Try.func30, Try.ntmps30
    go_wp2
    go_ret
    exact ⟨-1, rfl, .inl (by omega), Below.refl _ _⟩
  · have hsub : 0 ≤ l - (n : Int) := by omega
    have H := hid h; clear h
    go_enter Try.func30, Try.ntmps30
    go_wp2
    go_loopw [1, 5] (fun q i wr => ∃ (k : Nat) (r : Int), k ≤ n ∧ i = .int .i64 k ∧ q = .int .i64 r ∧ 0 ≤ r ∧ r + sumT k (fun k => tSz (kid k)) + n ≤ l + k ∧ Below w.heap.size w wr ∧ ∀ j, j < k → Fits 1048576 (kid j)) (fun _ i _ => n - (intOf i).toNat)
    case atStart => exact ⟨0, l - n, Nat.zero_le _, rfl, rfl, by omega, by simp [sumT], Below.refl _ _, fun j hj => by omega⟩
    case round =>
      obtain ⟨k, r, hk, rfl, rfl, r1, r2, hb, hN⟩ := hrel
      have HN := hid hN; clear hN
      by_cases hlt : k < n
      · rcases hA with h0 | ⟨g, off, rfl, _, hg, hcA⟩
        · omega
        obtain ⟨a, cc, a0, a1, hI⟩ := hcA k hlt
        have gg : g < wr.heap.size := Nat.lt_of_lt_of_le hg hb.size
        replace a0 := carry hb a0
        replace a1 := carry hb a1
        replace hI := hI.below hb
        clear hcA
        have hS := HI.out k hlt a cc r wr ⟨r1, by omega⟩ hI
        clear hI
        go_wp2_with fail
        refine hS.mono ?_
        rintro e w1 ⟨r', rfl, hr', hq⟩
        clear hS
        rcases hr' with hr' | ⟨p1, p2, p3⟩
        · go_wp2
          go_ret
          exact ⟨-1, rfl, .inl (by omega), btr hb hq⟩
        · have HP := hid p3; clear p3
          go_wp2
          go_roundw
          case rel =>
            refine ⟨k + 1, r', by omega, by go_num, rfl, p1, by rw [sumT]; omega, btr hb hq, fun j hj => ?_⟩
            by_cases e : j = k
            · subst e; exact HP.out
            · exact HN.out j (by omega)
          case measure => simp [intOf]; omega
      · have hke : k = n := by omega
        subst hke
        go_wp2
        go_ret
        exact ⟨r, rfl, .inr ⟨r1, by omega, by have := H.out; omega, HN.out⟩, hb⟩
set_option maxHeartbeats 1000000 in
theorem sztermU_any : ∀ (t : Tm), Fits 9223372036854775807 t → ∀ (A : Option Addr) (c : Nat) (l : Int) (w : World), 0 ≤ l ∧ l ≤ 1048576 → Kids 0 w t A →
    Calls Try.prog 51 #[.agg #[.string t.nm, .slice A t.n c], .int .i64 l] w (SzU w t l) := by
  intro t
  induction t with
  | bad => intro h; exact False.elim h
  | mk nm n kid ih =>
    rintro ⟨hm, hn, hf⟩ A c l w ⟨l1, l2⟩ hA
    show Calls _ _ #[.agg #[.string nm, .slice A n c], .int .i64 l] w _
    by_cases h : l < nm.size
    · clear ih hf hA
      go_enter Try.func51, Try.ntmps51
      go_wp2
      go_ret
      exact ⟨-1, rfl, .inl (by omega), bal (Below.refl _ _) _⟩
    · have h2 : 0 ≤ l - (nm.size : Int) := by omega
      have hS := fun W (hb : Below w.heap.size w W) => sztermsU_of n kid hn (fun k hk a c l W hl hK => ih k (hf k hk) a c l W hl hK) nm A c (l - nm.size) W ⟨h2, by omega⟩ (hA.below hb)
      have H := hid h; clear h ih hf hA
      go_enter Try.func51, Try.ntmps51
      go_wp2_with fail
      refine (hS _ (bal (Below.refl _ _) _)).mono ?_
      rintro e w1 ⟨r, rfl, hr, hq⟩
      clear hS
      rcases hr with hr | ⟨p1, p2, p3, p4⟩
      · go_wp2
        go_ret
        exact ⟨-1, rfl, .inl (by omega), btr (bal (Below.refl _ _) _) hq⟩
      · have HP := hid p4; clear p4
        go_wp2
        go_ret
        exact ⟨_, rfl, .inr ⟨p1, by rw [tSz]; omega, ⟨by have := H.out; omega, p3, HP.out⟩⟩, btr (bal (Below.refl _ _) _) hq⟩
end Go.Proofs.Ytanfljajafelgaa

namespace Go.Proofs.Ytanfljajafelgaa
set_option linter.unusedVariables false
set_option linter.unusedSimpArgs false
open Go.RowKit
/-- the parts of a term are read at A, in blocks of terms -/
def KidT (B : Nat) (w : World) : Tm → Option Addr → Prop
  | .mk _ n kid, A => n = 0 ∨ ∃ (g off : Nat) (cs : Array Value), A = some ⟨g, off, none⟩ ∧ B ≤ g ∧ w.heap[g]? = some (.cells cs 76 (0, 0)) ∧ ∀ k, k < n → ∃ a c, cs[off + k * 2]? = some (.string (kid k).nm) ∧ cs[off + k * 2 + 1]? = some (.slice a (kid k).n c) ∧ (kid k).n ≤ c ∧ c ≤ 9223372036854775807 ∧ KidT B w (kid k) a
  | .bad, _ => False
/-- w' has the blocks of terms that w has -/
def KpT (w w' : World) : Prop := ∀ (g : Nat) (cs : Array Value), w.heap[g]? = some (.cells cs 76 (0, 0)) → w'.heap[g]? = some (.cells cs 76 (0, 0))
theorem KpT.refl (w : World) : KpT w w := fun _ _ h => h
theorem KpT.trans {a b c : World} (h : KpT a b) (k : KpT b c) : KpT a c := fun g cs hg => k g cs (h g cs hg)
theorem KpT.below {w w' : World} (h : Below w.heap.size w w') : KpT w w' := fun g cs hg => (h.block g (Array.getElem?_eq_some_iff.1 hg).1).trans hg
theorem KidT.keep {B : Nat} {w w' : World} (hk : KpT w w') : ∀ {t : Tm} {A : Option Addr}, KidT B w t A → KidT B w' t A := by
  intro t
  induction t with
  | bad => intro A h; exact False.elim h
  | mk nm n kid ih =>
    rintro A (h | ⟨g, off, cs, ha, hB, hg, hc⟩)
    · exact .inl h
    · refine .inr ⟨g, off, cs, ha, hB, hk g cs hg, fun k hk => ?_⟩
      obtain ⟨a, c, h0, h1, h2, h3, h4⟩ := hc k hk
      exact ⟨a, c, h0, h1, h2, h3, ih k h4⟩
theorem KidT.kids {B : Nat} {w : World} : ∀ {t : Tm} {A : Option Addr}, KidT B w t A → Kids B w t A := by
  intro t
  induction t with
  | bad => intro A h; exact False.elim h
  | mk nm n kid ih =>
    rintro A (h | ⟨g, off, cs, ha, hB, hg, hc⟩)
    · exact .inl h
    · refine .inr ⟨g, off, ha, hB, (Array.getElem?_eq_some_iff.1 hg).1, fun k hk => ?_⟩
      obtain ⟨a, c, h0, h1, h2, h3, h4⟩ := hc k hk
      exact ⟨a, c, by simp [World.cell?, hg, h0], by simp [World.cell?, hg, h1], ih k h4⟩
theorem KidT.mono {B B' : Nat} {w : World} (hB : B' ≤ B) : ∀ {t : Tm} {A : Option Addr}, KidT B w t A → KidT B' w t A := by
  intro t
  induction t with
  | bad => intro A h; exact False.elim h
  | mk nm n kid ih =>
    rintro A (h | ⟨g, off, cs, ha, hb, hg, hc⟩)
    · exact .inl h
    · refine .inr ⟨g, off, cs, ha, Nat.le_trans hB hb, hg, fun k hk => ?_⟩
      obtain ⟨a, c, h0, h1, h2, h3, h4⟩ := hc k hk
      exact ⟨a, c, h0, h1, h2, h3, ih k h4⟩
theorem KidT.set {B p o : Nat} {w : World} (v : Value) (hp : p < B) : ∀ {t : Tm} {A : Option Addr}, KidT B w t A → KidT B (w.setCell ⟨p, o, none⟩ v) t A := by
  intro t
  induction t with
  | bad => intro A h; exact False.elim h
  | mk nm n kid ih =>
    rintro A (h | ⟨g, off, cs, ha, hB, hg, hc⟩)
    · exact .inl h
    · refine .inr ⟨g, off, cs, ha, hB, (Deep.blk_setCell_other _ _ _ _ (by simp only; omega)).trans hg, fun k hk => ?_⟩
      obtain ⟨a, c, h0, h1, h2, h3, h4⟩ := hc k hk
      exact ⟨a, c, h0, h1, h2, h3, ih k h4⟩
theorem KidT.nm {B : Nat} {w : World} {t : Tm} {A : Option Addr} (nm : ByteArray) (h : KidT B w t A) : KidT B w (.mk nm t.n t.kid) A := by
  cases t with
  | bad => exact False.elim h
  | mk => exact h
/-- a term of new memory, handed back -/
def NewP (W : World) (t : Tm) (e : Ending) (w' : World) : Prop :=
  ∃ A, e = .returned (.agg #[.string t.nm, .slice A t.n t.n]) ∧ KidT W.heap.size w' t A ∧ Below W.heap.size W w'
/-- a list of terms of new memory, handed back -/
def NewPs (W : World) (n : Nat) (kid : Nat → Tm) (e : Ending) (w' : World) : Prop :=
  ∃ A, e = .returned (.slice A n n) ∧ (∃ g, A = some ⟨g, 0, none⟩) ∧ (∀ nm, KidT W.heap.size w' (.mk nm n kid) A) ∧ Below W.heap.size W w'
set_option maxRecDepth 100000 in
set_option maxHeartbeats 4000000 in
theorem totermsP_of (n : Nat) (kid : Nat → Tm) (hn : n ≤ 1048576) (hft : ∀ k, k < n → Fits 1048576 (kid k)) (IH : ∀ k, k < n → ∀ (a : Option Addr) (c : Nat) (W : World), Kids 0 W (kid k) a → Calls Try.prog 53 #[.agg #[.string (kid k).nm, .slice a (kid k).n c]] W (NewP W (kid k)))
    (nm : ByteArray) (A : Option Addr) (c : Nat) (w : World) (hA : Kids 0 w (.mk nm n kid) A) :
    Calls Try.prog 34 #[.slice A n c] w (NewPs w n kid) := by
  have hmk := run_make_terms n hn
  have hrow := rowIs_madeT w (n * 2) 76
  have hb0 : Below w.heap.size w (w.alloc (.cells (madeCells #[.string ⟨#[]⟩, .slice none 0 0] (n * 2)) 76)) := bal (Below.refl _ _) _
  have HFt := hid hft; clear hft
  have HI := hid IH; clear IH
  go_enter Try.func34, Try.ntmps34
  go_wp2
  clear hmk
  go_loopw [4] (fun i wr => ∃ (k : Nat) (LA : Nat → Option Addr), k ≤ n ∧ i = .int .i64 k ∧ Below w.heap.size w wr ∧ wr.rowIs w.heap.size 76 (n * 2) (fun j => if j < k * 2 then termV LA kid j else zeroT j) ∧ ∀ i, i < k → KidT (w.heap.size + 1) wr (kid i) (LA i)) (fun i _ => n - (intOf i).toNat)
  case atStart => exact ⟨0, fun _ => none, Nat.zero_le _, rfl, hb0, hrow.congr fun i hi => by simp, fun i hi => by omega⟩
  case round =>
    obtain ⟨k, LA, hk, rfl, hb, hr, ho⟩ := hrel
    have HO := hid ho; clear ho
    clear hrow hb0
    by_cases hlt : k < n
    · rcases hA with h0 | ⟨g, off, rfl, _, hg, hcA⟩
      · omega
      obtain ⟨a, ca, a0, a1, hI⟩ := hcA k hlt
      have gg : g < wr.heap.size := Nat.lt_of_lt_of_le hg hb.size
      replace a0 := carry hb a0
      replace a1 := carry hb a1
      replace hI := hI.below hb
      have hS : w.heap.size < wr.heap.size := hr.lt
      clear hcA
      have hT := HI.out k hlt a ca wr hI
      clear hI
      go_wp2_with (go_at_call 53; refine hT.mono ?_; rintro e w1 ⟨A3, rfl, O3, hq⟩; have hr1 := row_below hr hq; have d0 : w1.cell? ⟨w.heap.size, k * 2, none⟩ = some (.string ⟨#[]⟩) := ((hr1.cell (by omega)).trans (by rw [if_neg (by omega)]; unfold zeroT; rw [if_pos (by omega)])); have d1 : w1.cell? ⟨w.heap.size, k * 2 + 1, none⟩ = some (.slice none 0 0) := ((hr1.cell (by omega)).trans (by rw [if_neg (by omega)]; unfold zeroT; rw [if_neg (by omega)])); have e0 : w1.frozen? ⟨w.heap.size, k * 2, none⟩ = false := hr1.frozen _; have e1 : w1.frozen? ⟨w.heap.size, k * 2 + 1, none⟩ = false := hr1.frozen _)
      go_roundw
      case rel =>
        refine ⟨k + 1, fun i => if i = k then A3 else LA i, by omega, by go_num, bst (bst (btr hb hq) (Nat.le_refl _) _) (Nat.le_refl _) _, ((hr1.set (k * 2) _).set (k * 2 + 1) _).congr fun j hj => ?_, fun i hi => ?_⟩
        · by_cases eb : j = k * 2 + 1
          · subst eb; rw [if_pos rfl, if_pos (by omega), termV_1]; simp
          · rw [if_neg eb]
            by_cases ea : j = k * 2
            · subst ea; rw [if_pos rfl, if_pos (by omega), termV_0]
            · rw [if_neg ea]
              by_cases e2 : j < k * 2
              · rw [if_pos e2, if_pos (by omega), termV_old (by omega)]
              · rw [if_neg e2, if_neg (by omega)]
        · by_cases e : i = k
          · subst e
            simp only [if_true]
            exact ((O3.mono (by omega)).set _ (by omega)).set _ (by omega)
          · simp only [if_neg e]
            exact (((HO.out i (by omega)).keep (KpT.below hq)).set _ (by omega)).set _ (by omega)
      case measure => simp [intOf]; omega
    · have hke : k = n := by omega
      subst hke
      go_wp2
      go_ret
      obtain ⟨cs, hcs, hcz, hcv⟩ := hr
      refine ⟨_, rfl, ⟨_, rfl⟩, fun nm' => .inr ⟨w.heap.size, 0, cs, rfl, Nat.le_refl _, hcs, fun i hi => ⟨LA i, (kid i).n, ?_, ?_, Nat.le_refl _, by have := (HFt.out i hi).n; omega, (HO.out i hi).mono (by omega)⟩⟩, hb⟩
      · rw [Nat.zero_add, hcv _ (by omega)]; show some (if _ then _ else _) = _; rw [if_pos (by omega), termV_0]
      · rw [Nat.zero_add, hcv _ (by omega)]; show some (if _ then _ else _) = _; rw [if_pos (by omega), termV_1]
set_option maxHeartbeats 2000000 in
theorem totermP_any : ∀ (t : Tm), Fits 1048576 t → ∀ (A : Option Addr) (c : Nat) (w : World), Kids 0 w t A →
    Calls Try.prog 53 #[.agg #[.string t.nm, .slice A t.n c]] w (NewP w t) := by
  intro t
  induction t with
  | bad => intro h; exact False.elim h
  | mk nm n kid ih =>
    rintro ⟨hm, hn, hf⟩ A c w hA
    show Calls _ _ #[.agg #[.string nm, .slice A n c]] w _
    have hT := fun W (hb : Below w.heap.size w W) => totermsP_of n kid hn hf (fun k hk a c W h => ih k (hf k hk) a c W h) nm A c W (hA.below hb)
    clear ih hf hA
    go_enter Try.func53, Try.ntmps53
    go_wp2_with fail
    refine (hT _ (bal (bal (bal (Below.refl _ _) _) _) _)).mono ?_
    rintro e w1 ⟨A', rfl, _, hO, hq⟩
    obtain ⟨hc, hfz⟩ := bcell hq
    clear hT
    go_wp2
    have e0 : w1.cell? ⟨w.heap.size + 1, 0, none⟩ = some (.string ⟨#[]⟩) := by rw [hc _ _ (by simp <;> omega)]; simp [go_sem]
    have e1 : w1.cell? ⟨w.heap.size + 1, 1, none⟩ = some (.slice none 0 0) := by rw [hc _ _ (by simp <;> omega)]; simp [go_sem]
    have f0 : (w1.setCell ⟨w.heap.size + 1 + 1, 1, none⟩ (.slice A' n n)).cell? ⟨w.heap.size + 1, 0, none⟩ = some (.string ⟨#[]⟩) := by rw [World.cell?_setCell_other _ _ _ _ (by simp)]; exact e0
    have f1 : (w1.setCell ⟨w.heap.size + 1 + 1, 1, none⟩ (.slice A' n n)).cell? ⟨w.heap.size + 1, 1, none⟩ = some (.slice none 0 0) := by rw [World.cell?_setCell_other _ _ _ _ (by simp)]; exact e1
    obtain ⟨t0, t1⟩ := set2 f0 f1 (.string nm) (.slice A' n n)
    clear hc hfz
    have l2 : w.heap.size + 1 + 1 < (((w.alloc (.cells #[.string nm, .slice A n c] 72)).alloc (.cells #[.string ⟨#[]⟩, .slice none 0 0] 76)).alloc (.cells #[.string nm, .slice none 0 0] 76)).heap.size := by simp
    have hO2 := (((hO nm).set (o := 1) (.slice A' n n) l2).set (o := 0) (.string nm) (Nat.lt_of_succ_lt l2)).set (o := 1) (.slice A' n n) (Nat.lt_of_succ_lt l2)
    refine bodyPost_ret (v := .agg #[.string nm, .slice A' n n]) (by simp [results, Try.results53, go_sem, t0, t1]) rfl ⟨A', rfl, hO2.mono (by simp <;> omega), ?_⟩
    clear t0 t1 e0 e1 f0 f1 hO hO2 l2
    (repeat first | with_reducible exact Below.refl _ _ | with_reducible assumption | with_reducible refine Below.drew ?_ | with_reducible refine bdn ?_ _ | with_reducible refine bal ?_ _ | (with_reducible refine bst ?_ ?_ _; rotate_left; (simp <;> omega)) | (with_reducible refine btr ?_ (by with_reducible assumption)))
end Go.Proofs.Ytanfljajafelgaa
