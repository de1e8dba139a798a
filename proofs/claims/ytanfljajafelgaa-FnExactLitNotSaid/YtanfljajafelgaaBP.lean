/- Several texts in one: TpD, TpE, TpF, TpG, TpH, TpI, TpJ, TpK, MkA, MkB, MkC, MkD, TpL. -/
import Derived.Test.YtanfljajafelgaaTpC
import Derived.Maps.AppendAt
import Derived.Test.YtanfljajafelgaaBU
import Derived.Lib.ItoaNum
import Derived.Laws.BytesString
import Derived.Test.YtanfljajafelgaaFarO
namespace Go.Proofs.Ytanfljajafelgaa
set_option linter.unusedVariables false
set_option linter.unusedSimpArgs false
open Go.RowKit
/-- the place of a term in a list, or -1 -/
def PlcP (n : Nat) (kid : Nat → Tm) (t : Tm) (w : World) (e : Ending) (w' : World) : Prop :=
  ∃ r : Int, e = .returned (.int .i64 r) ∧ ((∃ i, i < n ∧ r = (i : Int) ∧ TEq (kid i) t) ∨ (r = -1 ∧ ∀ i, i < n → ¬ TEq (kid i) t)) ∧ Below w.heap.size w w'
set_option maxRecDepth 100000 in
set_option maxHeartbeats 4000000 in
theorem splace_any (n : Nat) (kid : Nat → Tm) (A : Option Addr) (c : Nat) (t : Tm) (B : Option Addr) (d : Nat) (w : World) (hn : n ≤ 9223372036854775807) (hFk : ∀ k, k < n → Fits 9223372036854775807 (kid k)) (hFt : Fits 9223372036854775807 t) (hA : Kids 0 w (.mk ⟨#[]⟩ n kid) A) (hB : Kids 0 w t B) :
    Calls Try.prog 121 #[.slice A n c, .agg #[.string t.nm, .slice B t.n d]] w (PlcP n kid t w) := by
  have FK := hid hFk; clear hFk
  have hq := bal (Below.refl w.heap.size w) (.cells #[.string t.nm, .slice B t.n d] 76)
  have c0 : (w.alloc (.cells #[.string t.nm, .slice B t.n d] 76)).cell? ⟨w.heap.size, 0, none⟩ = some (.string t.nm) := by simp [go_sem]
  have c1 : (w.alloc (.cells #[.string t.nm, .slice B t.n d] 76)).cell? ⟨w.heap.size, 1, none⟩ = some (.slice B t.n d) := by simp [go_sem]
  have hA1 := hA.below hq
  have hB1 := hB.below hq
  clear hA hB
  go_enter Try.func121, Try.ntmps121
  go_upto_region 1 with fail
  generalize w.alloc (.cells #[.string t.nm, .slice B t.n d] 76) = w1 at *
  have C0 := hid c0; have C1 := hid c1; clear c0 c1
  have hr0 := Below.refl w1.heap.size w1
  go_wp2
  go_loopw [5] (fun i wr => ∃ k : Nat, k ≤ n ∧ i = .int .i64 k ∧ Below w1.heap.size w1 wr ∧ ∀ j, j < k → ¬ TEq (kid j) t) (fun i _ => n - (intOf i).toNat)
  case atStart => exact ⟨0, Nat.zero_le _, rfl, hr0, fun j hj => absurd hj (by omega)⟩
  case round =>
    obtain ⟨k, hk, rfl, hbr, he⟩ := hrel
    have HE := hid he; clear he hr0
    by_cases hlt : k < n
    · rcases hA1 with h0 | ⟨g, off, rfl, _, hg, hcA⟩
      · omega
      obtain ⟨a, ca, a0, a1, hI⟩ := hcA k hlt
      have gg := Nat.lt_of_lt_of_le hg hbr.size
      replace a0 := carry hbr a0
      replace a1 := carry hbr a1
      have c0 := carry hbr C0.out
      have c1 := carry hbr C1.out
      have l0 := cell_lt c0
      obtain ⟨rb, hrb⟩ := teq_bool (kid k) t
      have hE := fun X : Gro wr => stermsame_at (kid k) t rb hrb (FK.out k hlt) hFt a B ca d (gro wr X) ((hI.below hbr).below X.h) ((hB1.below hbr).below X.h)
      have HRB := hid hrb
      clear hcA hI hrb
      have gc := @gro_cell wr
      go_upto_region 4 with fail
      refine wp_region_grow_lit (by kernel_rfl) (by kernel_rfl) ?_
      repeat (go_big_quiet_step ((go_at_call 125; exact grow_call _ (hE _))))
      refine wpQuiet_nil ?_
      rintro w3 ⟨⟨_, hX⟩, rfl⟩
      clear gc hE
      cases rb with
      | true =>
        have hkk := hid (HRB.out.1 rfl)
        go_wp2
        go_ret
        exact ⟨_, rfl, .inl ⟨k, hlt, rfl, hkk.out⟩, btr hq (btr hbr hX)⟩
      | false =>
        have hkk : Hid (¬ TEq (kid k) t) := hid (fun h => by have := HRB.out.2 h; cases this)
        go_wp2
        go_roundw
        case rel => exact ⟨k + 1, by omega, by go_num, btr hbr hX, fun j hj => by
          by_cases e : j = k
          · rw [e]; exact hkk.out
          · exact HE.out j (by omega)⟩
        case measure => simp [intOf]; omega
    · have hke : k = n := by omega
      subst hke
      go_wp2
      go_ret
      exact ⟨_, rfl, .inr ⟨rfl, HE.out⟩, btr hq hbr⟩
end Go.Proofs.Ytanfljajafelgaa

namespace Go.Proofs.Ytanfljajafelgaa
set_option linter.unusedVariables false
set_option linter.unusedSimpArgs false
open Go.RowKit
/-- the parts of a term are read at A, in blocks of terms from lo up to hi, no block twice -/
def SepT (w : World) : Tm → Nat → Nat → Option Addr → Prop
  | .mk _ n kid, lo, hi, A => n = 0 ∨ ∃ (g off : Nat) (cs : Array Value) (L H : Nat → Nat), A = some ⟨g, off, none⟩ ∧ lo ≤ g ∧ g < hi ∧ w.heap[g]? = some (.cells cs 76 (0, 0)) ∧ ∀ k, k < n → lo ≤ L k ∧ L k ≤ H k ∧ H k ≤ hi ∧ (g < L k ∨ H k ≤ g) ∧ (∀ j, k < j → j < n → H k ≤ L j) ∧ ∃ a c, cs[off + k * 2]? = some (.string (kid k).nm) ∧ cs[off + k * 2 + 1]? = some (.slice a (kid k).n c) ∧ (kid k).n ≤ c ∧ c ≤ 9223372036854775807 ∧ SepT w (kid k) (L k) (H k) a
  | .bad, _, _, _ => False
theorem SepT.keep {w w' : World} : ∀ {t : Tm} {lo hi : Nat} {A : Option Addr}, (∀ g cs, lo ≤ g → g < hi → w.heap[g]? = some cs → w'.heap[g]? = some cs) → SepT w t lo hi A → SepT w' t lo hi A := by
  intro t
  induction t with
  | bad => intro lo hi A _ h; exact False.elim h
  | mk nm n kid ih =>
    rintro lo hi A hk (h | ⟨g, off, cs, L, H, ha, h1, h2, hg, hc⟩)
    · exact .inl h
    · refine .inr ⟨g, off, cs, L, H, ha, h1, h2, hk g _ h1 h2 hg, fun k hkn => ?_⟩
      obtain ⟨q1, q2, q3, q4, q5, a, c, e0, e1, e2, e3, e4⟩ := hc k hkn
      exact ⟨q1, q2, q3, q4, q5, a, c, e0, e1, e2, e3, ih k (fun g cs x1 x2 x3 => hk g cs (Nat.le_trans q1 x1) (Nat.lt_of_lt_of_le x2 q3) x3) e4⟩
theorem SepT.below {w w' : World} {t : Tm} {lo hi : Nat} {A : Option Addr} (hb : Below w.heap.size w w') (h : SepT w t lo hi A) : SepT w' t lo hi A :=
  h.keep fun g cs _ _ hg => (hb.block g (Array.getElem?_eq_some_iff.1 hg).1).trans hg
theorem SepT.mono {w : World} {t : Tm} {lo hi lo' hi' : Nat} {A : Option Addr} (h1 : lo' ≤ lo) (h2 : hi ≤ hi') (h : SepT w t lo hi A) : SepT w t lo' hi' A := by
  cases t with
  | bad => exact False.elim h
  | mk nm n kid =>
    rcases h with h | ⟨g, off, cs, L, H, ha, x1, x2, hg, hc⟩
    · exact .inl h
    · refine .inr ⟨g, off, cs, L, H, ha, Nat.le_trans h1 x1, Nat.lt_of_lt_of_le x2 h2, hg, fun k hkn => ?_⟩
      obtain ⟨q1, q2, q3, q⟩ := hc k hkn
      exact ⟨Nat.le_trans h1 q1, q2, Nat.le_trans q3 h2, q⟩
theorem SepT.kidT {w : World} {B : Nat} : ∀ {t : Tm} {lo hi : Nat} {A : Option Addr}, B ≤ lo → SepT w t lo hi A → KidT B w t A := by
  intro t
  induction t with
  | bad => intro lo hi A _ h; exact False.elim h
  | mk nm n kid ih =>
    rintro lo hi A hB (h | ⟨g, off, cs, L, H, ha, h1, h2, hg, hc⟩)
    · exact .inl h
    · refine .inr ⟨g, off, cs, ha, Nat.le_trans hB h1, hg, fun k hkn => ?_⟩
      obtain ⟨q1, q2, q3, q4, q5, a, c, e0, e1, e2, e3, e4⟩ := hc k hkn
      exact ⟨a, c, e0, e1, e2, e3, ih k (Nat.le_trans hB q1) e4⟩
theorem SepT.nm {w : World} {t : Tm} {lo hi : Nat} {A : Option Addr} (nm : ByteArray) (h : SepT w t lo hi A) : SepT w (.mk nm t.n t.kid) lo hi A := by
  cases t with
  | bad => exact False.elim h
  | mk => exact h
/-- a term in a row: the term, where its parts begin, room for how many -/
structure TX where
  t : Tm
  a : Option Addr
  c : Nat
instance txInhabited : Inhabited TX := ⟨⟨.bad, none, 0⟩⟩
def TX.cells (x : TX) : List Value := [.string x.t.nm, .slice x.a x.t.n x.c]
def flatX : List TX → List Value
  | [] => []
  | x :: r => x.cells ++ flatX r
theorem flatX_app : ∀ S T : List TX, flatX (S ++ T) = flatX S ++ flatX T
  | [], _ => rfl
  | x :: r, T => by simp [flatX, flatX_app r T]
theorem flatX_len : ∀ S : List TX, (flatX S).length = S.length * 2
  | [] => rfl
  | x :: r => by simp [flatX, flatX_len r, TX.cells]; omega
theorem flatX_at : ∀ (S : List TX) (i : Nat), i < S.length → (flatX S)[i * 2]? = some (.string (S.getD i default).t.nm) ∧ (flatX S)[i * 2 + 1]? = some (.slice (S.getD i default).a (S.getD i default).t.n (S.getD i default).c)
  | [], i, h => absurd h (Nat.not_lt_zero _)
  | x :: r, 0, _ => by simp [flatX, TX.cells]
  | x :: r, i + 1, h => by
    have := flatX_at r i (by simpa using h)
    simp only [flatX, TX.cells, List.getD_cons_succ]
    rw [show (i + 1) * 2 = i * 2 + 2 by omega, show i * 2 + 2 + 1 = (i * 2 + 1) + 2 by omega]
    simpa using this
/-- the row v of blocks from lo on holds the terms X, whose parts lie apart -/
structure TRow (w : World) (lo : Nat) (X : List TX) (v : Value) : Prop where
  own : w.ownsRow lo 76 2 v X.length (flatX X)
  kids : ∃ L H : Nat → Nat, ∀ k, k < X.length → lo ≤ L k ∧ L k ≤ H k ∧ H k ≤ w.heap.size ∧ (∀ g, v.ownBlock = some g → g < L k ∨ H k ≤ g) ∧ (∀ j, k < j → j < X.length → H k ≤ L j) ∧ (X.getD k default).t.n ≤ (X.getD k default).c ∧ (X.getD k default).c ≤ 9223372036854775807 ∧ SepT w (X.getD k default).t (L k) (H k) (X.getD k default).a
theorem TRow.nil (w : World) (lo : Nat) : TRow w lo [] (.slice none 0 0) := ⟨World.ownsRow_nil w lo 76 2, fun _ => 0, fun _ => 0, fun k h => absurd h (Nat.not_lt_zero _)⟩
theorem TRow.below {w w' : World} {lo : Nat} {X : List TX} {v : Value} (hb : Below w.heap.size w w') (h : TRow w lo X v) : TRow w' lo X v := by
  obtain ⟨ho, L, H, hk⟩ := h
  refine ⟨own_belowT hb ho, L, H, fun k hkn => ?_⟩
  obtain ⟨q1, q2, q3, q4, q5, q6, q7, q8⟩ := hk k hkn
  exact ⟨q1, q2, Nat.le_trans q3 hb.size, q4, q5, q6, q7, q8.below hb⟩
theorem TRow.setN {w : World} {lo x o : Nat} {X : List TX} {v u : Value} (hx : x < lo) (h : TRow w lo X v) : TRow (w.setCell ⟨x, o, none⟩ u) lo X v := by
  have hv : v.ownBlock ≠ some x := fun e => by
    obtain ⟨_, ⟨rfl, _⟩ | ⟨g, cap, cur, rfl, h2, _⟩⟩ := h.own
    · simp [Value.ownBlock] at e
    · simp only [Value.ownBlock, Option.some.injEq] at e
      omega
  obtain ⟨ho, L, H, hk⟩ := h
  refine ⟨own_setT2 hv ho, L, H, fun k hkn => ?_⟩
  obtain ⟨q1, q2, q3, q4, q5, q6, q7, q8⟩ := hk k hkn
  exact ⟨q1, q2, by simpa [World.setCell] using q3, q4, q5, q6, q7, q8.keep fun g cs h1 h2 hg => (Deep.blk_setCell_other _ _ _ _ (by simp only; omega)).trans hg⟩
theorem TRow.lt {w : World} {lo : Nat} {X : List TX} {v : Value} (h : TRow w lo X v) {g : Nat} (hg : v.ownBlock = some g) : lo ≤ g ∧ g < w.heap.size := by
  obtain ⟨_, ⟨rfl, _⟩ | ⟨g', cap, cur, rfl, h2, hh, _⟩⟩ := h.own
  · simp [Value.ownBlock] at hg
  · simp only [Value.ownBlock, Option.some.injEq] at hg
    subst hg
    exact ⟨h2, (Array.getElem?_eq_some_iff.1 hh).1⟩
theorem getX_left {X : List TX} {x : TX} {k : Nat} (h : k < X.length) : (X ++ [x]).getD k default = X.getD k default := by
  rw [List.getD_eq_getElem?_getD, List.getD_eq_getElem?_getD, List.getElem?_append_left h]
theorem getX_new {X : List TX} {x : TX} : (X ++ [x]).getD X.length default = x := by
  rw [List.getD_eq_getElem?_getD, List.getElem?_append_right (Nat.le_refl _)]; simp
/-- a term of new memory behind the others -/
theorem TRow.push {W w w' : World} {lo h : Nat} {X : List TX} {v v' : Value} {x : TX} (hX : TRow W lo X v) (hlo : lo ≤ W.heap.size) (hb : Below W.heap.size W w) (hx : SepT w x.t W.heap.size h x.a) (h1 : W.heap.size ≤ h) (h2 : h ≤ w.heap.size) (h3 : x.t.n ≤ x.c) (h4 : x.c ≤ 9223372036854775807)
    (hown : w'.ownsRow lo 76 2 v' (X.length + 1) (flatX X ++ x.cells)) (hgrow : w.grownBy w' v.ownBlock) (hf : ∀ g, v'.ownBlock = some g → v.ownBlock = some g ∨ w.heap.size ≤ g) : TRow w' lo (X ++ [x]) v' := by
  have hl : (X ++ [x]).length = X.length + 1 := by simp
  have hvl := fun g (e : v.ownBlock = some g) => hX.lt e
  obtain ⟨ho, L, H, hk⟩ := hX
  refine ⟨by rw [hl, flatX_app]; simpa [flatX] using hown, fun k => if k < X.length then L k else W.heap.size, fun k => if k < X.length then H k else h, fun k hkn => ?_⟩
  rw [hl] at hkn
  by_cases e : k < X.length
  · obtain ⟨q1, q2, q3, q4, q5, q6, q7, q8⟩ := hk k e
    rw [getX_left e]
    simp only [if_pos e]
    refine ⟨q1, q2, Nat.le_trans q3 (Nat.le_trans hb.size hgrow.size), fun g hg => ?_, fun j h1 h2 => ?_, q6, q7, (q8.below hb).keep fun g cs x1 x2 x3 => ?_⟩
    · rcases hf g hg with hg | hg
      · exact q4 g hg
      · exact .inr (Nat.le_trans q3 (Nat.le_trans hb.size hg))
    · by_cases e2 : j < X.length
      · rw [if_pos e2]; exact q5 j h1 e2
      · rw [if_neg e2]; exact q3
    · refine (hgrow.block g (Array.getElem?_eq_some_iff.1 x3).1 (fun e3 => ?_)).trans x3
      rcases q4 g e3.symm with h | h <;> omega
  · have hk' : k = X.length := by omega
    subst hk'
    rw [getX_new]
    simp only [if_neg e]
    refine ⟨hlo, h1, Nat.le_trans h2 hgrow.size, fun g hg => ?_, fun j x1 x2 => by omega, h3, h4, hx.keep fun g cs x1 x2 x3 => ?_⟩
    · rcases hf g hg with hg | hg
      · exact .inl (hvl g hg).2
      · exact .inr (Nat.le_trans h2 hg)
    · refine (hgrow.block g (Array.getElem?_eq_some_iff.1 x3).1 (fun e3 => ?_)).trans x3
      have := (hvl g e3.symm).2
      omega
/-- the row is a list of terms that is read -/
theorem TRow.sep {w : World} {lo : Nat} {X : List TX} {v : Value} {A : Option Addr} {c : Nat} (h : TRow w lo X v) (hv : v = .slice A X.length c) (nm : ByteArray) : SepT w (.mk nm X.length (fun k => (X.getD k default).t)) lo w.heap.size A := by
  have hvl := fun g (e : v.ownBlock = some g) => h.lt e
  obtain ⟨ho, L, H, hk⟩ := h
  obtain ⟨hlx, ⟨h1, h2⟩ | ⟨g, cap, cur, h1, hbg, hg, hnc, hcm, hcs, htake⟩⟩ := ho
  · exact .inl h2
  · subst hv
    injection h1 with e1 e2 e3
    subst e1
    refine .inr ⟨g, 0, cur, L, H, rfl, hbg, (hvl g rfl).2, hg, fun k hkn => ?_⟩
    obtain ⟨q1, q2, q3, q4, q5, q6, q7, q8⟩ := hk k hkn
    have hcell : ∀ j u, (flatX X)[j]? = some u → cur[j]? = some u := fun j u hu => by
      rw [← htake, List.getElem?_take] at hu
      split at hu
      · simpa using hu
      · cases hu
    obtain ⟨f0, f1⟩ := flatX_at X k hkn
    refine ⟨q1, q2, q3, q4 g rfl, q5, _, _, ?_, ?_, q6, q7, q8⟩
    · rw [Nat.zero_add]; exact hcell _ _ f0
    · rw [Nat.zero_add]; exact hcell _ _ f1
end Go.Proofs.Ytanfljajafelgaa

namespace Go.Proofs.Ytanfljajafelgaa
set_option linter.unusedVariables false
set_option linter.unusedSimpArgs false
open Go.RowKit
theorem run_load2 {P : Program} {o : Oper} {ty : TypeId} {x : Operand} (ho : o.op = .load ty x) {a : Act} {b k : Nat} (hx : a.eval x = .pointer (some ⟨b, k, none⟩)) {d : TypeDesc} (hu : P.underlying ty = some d) (hd : d.isRow = true) (hi : (P.info? ty).map (·.size) = some 2) {x0 x1 : Value} {w : World}
    (h0 : w.cell? ⟨b, k, none⟩ = some x0) (h1 : w.cell? ⟨b, k + 1, none⟩ = some x1) : (execOp a.eval o).run P w = .ok (.value (.agg #[x0, x1])) w := by
  have hc : w.rangeAt b k [x0, x1] := fun j v hv => by
    match j, hv with
    | 0, hv => simp at hv; subst hv; simpa using h0
    | 1, hv => simp at hv; subst hv; simpa using h1
    | j + 2, hv => simp at hv
  have hl := run_loadVar_mid (P := P) w b k ty [x0, x1] d hc hu hd hi
  unfold execOp
  simp only [ho, hx, Instr.loadAt, Instr.sureAddr, Sem.run_bind, Sem.run_pure, Result.andThen_ok, hl]
theorem row2_new (w : World) (a b : Value) (t : TypeId) : (w.alloc (.cells #[a, b] t)).rowIs w.heap.size t 2 (fun j => if j = 0 then a else b) :=
  ⟨#[a, b], Deep.blk_alloc_new _ _, rfl, fun i hi => by
    match i, hi with
    | 0, _ => rfl
    | 1, _ => rfl⟩
/-- a copy in new memory, its parts apart -/
def CopyP (W : World) (t : Tm) (e : Ending) (w' : World) : Prop :=
  ∃ A c, e = .returned (.agg #[.string t.nm, .slice A t.n c]) ∧ t.n ≤ c ∧ c ≤ 9223372036854775807 ∧ SepT w' t W.heap.size w'.heap.size A ∧ Below W.heap.size W w'
theorem SepT.congr {w : World} {nm nm' : ByteArray} {n lo hi : Nat} {kid kid' : Nat → Tm} {A : Option Addr} (he : ∀ k, k < n → kid k = kid' k) (h : SepT w (.mk nm n kid) lo hi A) : SepT w (.mk nm' n kid') lo hi A := by
  rcases h with h | ⟨g, off, cs, L, H, ha, h1, h2, hg, hc⟩
  · exact .inl h
  · refine .inr ⟨g, off, cs, L, H, ha, h1, h2, hg, fun k hk => ?_⟩
    rw [← he k hk]
    exact hc k hk
set_option maxRecDepth 100000 in
set_option maxHeartbeats 4000000 in
theorem scopy_of (nm : ByteArray) (n : Nat) (kid : Nat → Tm) (hn : n ≤ 1048576) (IH : ∀ k, k < n → ∀ (a : Option Addr) (c : Nat) (W : World), Kids 0 W (kid k) a → Calls Try.prog 140 #[.agg #[.string (kid k).nm, .slice a (kid k).n c]] W (CopyP W (kid k)))
    (A : Option Addr) (c : Nat) (w : World) (hA : Kids 0 w (.mk nm n kid) A) :
    Calls Try.prog 140 #[.agg #[.string nm, .slice A n c]] w (CopyP w (.mk nm n kid)) := by
  have hq := bal (bal (Below.refl w.heap.size w) (.cells #[.string nm, .slice A n c] 76)) (.cells #[.string ⟨#[]⟩, .slice none 0 0] 76)
  have c0 : ((w.alloc (.cells #[.string nm, .slice A n c] 76)).alloc (.cells #[.string ⟨#[]⟩, .slice none 0 0] 76)).cell? ⟨w.heap.size, 0, none⟩ = some (.string nm) := by simp [go_sem]
  have c1 : ((w.alloc (.cells #[.string nm, .slice A n c] 76)).alloc (.cells #[.string ⟨#[]⟩, .slice none 0 0] 76)).cell? ⟨w.heap.size, 1, none⟩ = some (.slice A n c) := by simp [go_sem]
  have d0 := row2_new (w.alloc (.cells #[.string nm, .slice A n c] 76)) (.string ⟨#[]⟩) (.slice none 0 0) 76
  have hs1 : (w.alloc (.cells #[.string nm, .slice A n c] 76)).heap.size = w.heap.size + 1 := by simp [go_sem]
  rw [hs1] at d0
  have hs : ((w.alloc (.cells #[.string nm, .slice A n c] 76)).alloc (.cells #[.string ⟨#[]⟩, .slice none 0 0] 76)).heap.size = w.heap.size + 2 := by simp [go_sem]
  have HI := hid IH; clear IH
  have hA1 := hA.below hq
  clear hA
  go_enter Try.func140, Try.ntmps140
  go_upto_region 1 with fail
  generalize (w.alloc (.cells #[.string nm, .slice A n c] 76)).alloc (.cells #[.string ⟨#[]⟩, .slice none 0 0] 76) = w1 at *
  clear hs1
  have hr0 := Below.refl w1.heap.size w1
  go_wp2
  have hx2 := row2_new w1 (.string nm) (.slice none 0 0) 76
  rw [hs] at hx2
  have CC := hid c0; have C1 := hid c1; have D0 := hid d0; have HS := hid hs
  clear c0 c1 d0 hs
  go_loopw [4] (fun i wr => ∃ (k : Nat) (X : List TX) (v : Value), k ≤ n ∧ i = .int .i64 k ∧ Below w1.heap.size w1 wr ∧ wr.rowIs (w.heap.size + 2) 76 2 (fun j => if j = 0 then .string nm else v) ∧ TRow wr (w.heap.size + 3) X v ∧ X.length = k ∧ ∀ i, i < k → (X.getD i default).t = kid i) (fun i _ => n - (intOf i).toNat)
  case atStart => exact ⟨0, [], .slice none 0 0, Nat.zero_le _, rfl, bal hr0 _, hx2, TRow.nil _ _, rfl, fun i hi => absurd hi (Nat.not_lt_zero _)⟩
  case round =>
    obtain ⟨k, X, v, hk, rfl, hbr, hrx, hT, hXl, hXk⟩ := hrel
    have HT := hid hT; have HXk := hid hXk; have HXl := hid hXl
    clear hT hXk hXl hx2
    have q0 := hrx.cell (i := 0) (by omega)
    have q1 := hrx.cell (i := 1) (by omega)
    have fq1 := hrx.frozen 1
    have HR := hid hrx
    clear hrx hr0
    simp only [if_true, Nat.one_ne_zero, if_false] at q0 q1
    have c0 := carry hbr CC.out
    have c1 := carry hbr C1.out
    by_cases hlt : k < n
    · rcases hA1 with h0 | ⟨g, off, rfl, _, hg, hcA⟩
      · omega
      obtain ⟨a, ca, a0, a1, hI⟩ := hcA k hlt
      have gg := Nat.lt_of_lt_of_le hg hbr.size
      replace a0 := carry hbr a0
      replace a1 := carry hbr a1
      replace hI := hI.below hbr
      clear hcA
      have hvs : ∃ aa cc, v = .slice aa k cc := by
        obtain ⟨_, ⟨h, h0⟩ | ⟨g, cap, cur, h, _⟩⟩ := HT.out.own
        · exact ⟨none, 0, by rw [h, ← HXl.out, h0]⟩
        · exact ⟨_, _, by rw [← HXl.out]; exact h⟩
      obtain ⟨va, vc, hve⟩ := hvs
      subst hve
      obtain ⟨i0, hi, hz0, hz1, hz2⟩ := info_parts infoTm
      go_upto_region 5 with fail
      have KL : KcL [(w.heap.size, 1, .slice (some ⟨g, off, none⟩) n c), (w.heap.size + 2, 1, .slice va k vc), (g, off + k * 2, .string (kid k).nm), (g, off + k * 2 + 1, .slice a (kid k).n ca)] wr := ⟨c1, q1, a0, a1, trivial⟩
      have qd := (Below.refl wr.heap.size wr).drew
      refine region_planC (fun w' => KcL [(w.heap.size, 1, .slice (some ⟨g, off, none⟩) n c), (w.heap.size + 2, 1, .slice va k vc), (g, off + k * 2, .string (kid k).nm), (g, off + k * 2 + 1, .slice a (kid k).n ca)] w') (.takes [0, 1, 2, 3, 4, 5, 6] (.make 7 (.make 8 (.make 9 (.takes [10] .fin))))) 11 rfl (by kernel_rfl) (KL.below qd) ?_
      refine plan_takes ?_; simp only [pickOps, List.getElem?_cons_zero, List.getElem?_cons_succ]
      refine quiet_doC rfl (.pointer (some ⟨w.heap.size + 2, 1, none⟩)) (fun w' hw' => by simp [execOp, go_sem]) ?_
      refine quiet_doC rfl (.slice va k vc) (fun w' hw' => by have := hw'.2.1; simp only at this; simp [execOp, go_sem, this]) ?_
      refine quiet_doC rfl (.pointer (some ⟨w.heap.size, 1, none⟩)) (fun w' hw' => by simp [execOp, go_sem]) ?_
      refine quiet_doC rfl (.slice (some ⟨g, off, none⟩) n c) (fun w' hw' => by have := hw'.1; simp only at this; simp [execOp, go_sem, this]) ?_
      refine quiet_doC rfl (.int .i64 k) (fun w' hw' => by simp [execOp, go_sem]) ?_
      refine quiet_doC rfl (.pointer (some ⟨g, off + k * 2, none⟩)) (fun w' hw' => by simp [execOp, go_sem, hlt]) ?_
      refine quiet_doC rfl (.agg #[.string (kid k).nm, .slice a (kid k).n ca]) (fun w' hw' => run_load2 rfl (by kernel_rfl) Try.underlying76 rfl (by kernel_rfl) hw'.2.2.1 hw'.2.2.2.1) ?_
      refine wpQuiet_nil ?_
      replace KL := KL.below qd
      have hTd := hid (HT.out.below qd)
      have hRd := hid (row_below HR.out qd)
      have hbd := btr hbr qd
      have hcall := HI.out k hlt a ca wr.drew (hI.below qd)
      clear hI qd a0 a1 c0 c1 q0 q1 fq1 gg hbr
      generalize wr.drew = u at *
      refine planC_call rfl rfl 140 #[.agg #[.string (kid k).nm, .slice a (kid k).n ca]] (by kernel_rfl) ?_
      refine hcall.mono ?_
      rintro e w3 ⟨A3, c3, rfl, m1, m2, hS3, hq3⟩
      refine ⟨_, rfl, KL.below hq3, ?_⟩
      replace KL := KL.below hq3
      clear hcall
      have CX := bal (Below.refl w3.heap.size w3) (.cells #[.string (kid k).nm, .slice A3 (kid k).n c3] 76)
      have hq4 := btr hq3 CX
      have hS4 := hid (hS3.below CX)
      have hh4 : w3.heap.size ≤ (w3.alloc (.cells #[.string (kid k).nm, .slice A3 (kid k).n c3] 76)).heap.size := CX.size
      refine planC_val rfl rfl (.slice (some ⟨w3.heap.size, 0, none⟩) 1 1) (w'' := w3.alloc (.cells #[.string (kid k).nm, .slice A3 (kid k).n c3] 76)) (by simp [execOp, go_sem]) (KL.below CX) ?_
      replace KL := KL.below CX
      have hTg := hid (hTd.out.below hq4)
      have hRg := hid (row_below hRd.out hq4)
      have hbg := btr hbd hq4
      have hnews : ∀ (j : Nat) (u : Value), ([.string (kid k).nm, .slice A3 (kid k).n c3] : List Value)[j]? = some u → (w3.alloc (.cells #[.string (kid k).nm, .slice A3 (kid k).n c3] 76)).cell? ((⟨w3.heap.size, 0, none⟩ : Addr).add j) = some u := by
        intro j u h
        match j with
        | 0 => simp at h; subst h; simp [go_sem, Addr.add]
        | 1 => simp at h; subst h; simp [go_sem, Addr.add]
        | j + 2 => simp at h
      have hone : ∀ u ∈ ([.string (kid k).nm, .slice A3 (kid k).n c3] : List Value), u.oneCell' = true := fun u hu => by simp at hu; rcases hu with rfl | rfl <;> rfl
      have hs1 := HS.out
      have hlu : w.heap.size + 3 ≤ u.heap.size := hRd.out.lt
      have hlog : w.heap.size + 3 ≤ (w3.alloc (.cells #[.string (kid k).nm, .slice A3 (kid k).n c3] 76)).heap.size := Nat.le_trans hlu hq4.size
      have hown0 := hTg.out.own
      rw [HXl.out] at hown0
      refine planC_append rfl rfl _ _ 52 rfl (w.heap.size + 3) 76 i0 _ 2 40 Try.underlying52 hi hz0 hz1 hz2 rfl (by decide) (.slice va k vc) k (flatX X) (by kernel_rfl) hown0 ⟨w3.heap.size, 0, none⟩ 1 1 [.string (kid k).nm, .slice A3 (kid k).n c3] (by kernel_rfl) rfl hnews hone (by unfold maxLen; omega) (by omega) hlog ?_
      intro v' w6 hown6 hgrow hfresh
      have hvs : ∃ a cc, v' = .slice a (k + 1) cc := by
        obtain ⟨_, ⟨h, h0⟩ | ⟨g, cap, cur, h, _⟩⟩ := hown6
        · exact absurd h0 (by omega)
        · exact ⟨_, _, h⟩
      obtain ⟨va', vc', hve⟩ := hvs
      subst hve
      have hrl := fun r (e : (Value.slice va k vc).ownBlock = some r) => hTg.out.lt e
      have KL6 := KL.keep hgrow (fun e he r hr => by
        have := (hrl r hr).1
        simp at he
        rcases he with rfl | rfl | rfl | rfl
        · simp only; omega
        · simp only; omega
        · simp only; omega
        · simp only; omega)
      refine ⟨KL6, ?_⟩
      refine plan_takes ?_; simp only [pickOps, List.getElem?_cons_zero, List.getElem?_cons_succ, Act.put, List.setIfInBounds_toArray, List.set_cons_succ, List.set_cons_zero]
      refine quiet_doC rfl (.pointer (some ⟨w.heap.size + 2, 1, none⟩)) (fun w' hw' => by simp [execOp, go_sem]) ?_
      refine wpQuiet_nil ?_
      refine plan_fin ?_
      simp only [List.drop_succ_cons, List.drop_zero, Act.put, List.setIfInBounds_toArray, List.set_cons_succ, List.set_cons_zero]
      have hR6 : w6.rowIs (w.heap.size + 2) 76 2 (fun j => if j = 0 then .string nm else .slice va k vc) := hRg.out.of_block (hgrow.block _ hRg.out.lt (fun e => by have := (hrl _ e.symm).1; omega))
      have q1 : w6.cell? ⟨w.heap.size + 2, 1, none⟩ = some (.slice va k vc) := hR6.cell (i := 1) (by omega)
      have fq1 : w6.frozen? ⟨w.heap.size + 2, 1, none⟩ = false := hR6.frozen 1
      have hTp := (hTd.out.push (x := ⟨kid k, A3, c3⟩) (v' := .slice va' (k + 1) vc') (w' := w6) (Nat.le_trans (by omega) hlu) hq4 hS4.out hq3.size hh4 m1 m2 (by rw [HXl.out]; exact hown6) hgrow hfresh)
      have hb6 : Below w1.heap.size w1 w6 := ⟨hgrow.os.trans hbg.os, hgrow.tape.trans hbg.tape, hgrow.output.trans hbg.output, Nat.le_trans hbg.size hgrow.size, fun j hj => (hgrow.block j (Nat.lt_of_lt_of_le hj hbg.size) (fun e => by have := (hrl _ e.symm).1; omega)).trans (hbg.block j hj)⟩
      have HTp := hid hTp; have HB6 := hid hb6; have HR6 := hid hR6
      clear hTp hb6 hR6 KL6 KL hrl hown6 hgrow hfresh hown0 hnews hone CX hlog
      go_wp2
      go_roundw
      case rel =>
        refine ⟨k + 1, X ++ [⟨kid k, A3, c3⟩], .slice va' (k + 1) vc', by omega, by go_num, bst HB6.out (Nat.le_of_eq hs1) _, ((HR6.out.set 1 _).congr fun j hj => ?_), HTp.out.setN (by omega), by rw [List.length_append, HXl.out]; simp, fun i hi => ?_⟩
        · by_cases e : j = 0
          · subst e; simp
          · rw [if_pos (by omega), if_neg e]
        · by_cases e : i = k
          · rw [e, ← HXl.out, getX_new, HXl.out]
          · rw [getX_left (by rw [HXl.out]; omega)]
            exact HXk.out i (by omega)
      case measure => simp [intOf]; omega
    · have hke : k = n := by omega
      subst hke
      have d0 := (row_below D0.out hbr).cell (i := 0) (by omega)
      have d1 := (row_below D0.out hbr).cell (i := 1) (by omega)
      have fd0 := (row_below D0.out hbr).frozen 0
      have fd1 := (row_below D0.out hbr).frozen 1
      simp only [if_true, Nat.one_ne_zero, if_false] at d0 d1
      have hvs : ∃ aa cc, v = .slice aa k cc := by
        obtain ⟨_, ⟨h, h0⟩ | ⟨g, cap, cur, h, _⟩⟩ := HT.out.own
        · exact ⟨none, 0, by rw [h, ← HXl.out, h0]⟩
        · exact ⟨_, _, by rw [← HXl.out]; exact h⟩
      obtain ⟨va, vc, hve⟩ := hvs
      subst hve
      go_wp2
      have hw1 := HS.out
      have hR := ((row_below D0.out hbr).set 0 (.string nm)).set 1 (.slice va k vc)
      have hB := bst (p := ⟨w.heap.size + 1, 1, none⟩) (bst (p := ⟨w.heap.size + 1, 0, none⟩) (btr hq hbr) (Nat.le_succ _) (.string nm)) (Nat.le_succ _) (.slice va k vc)
      have hT9 := ((HT.out.setN (o := 0) (u := .string nm) (show w.heap.size + 1 < w.heap.size + 3 by omega)).setN (o := 1) (u := .slice va k vc) (show w.heap.size + 1 < w.heap.size + 3 by omega))
      clear d0 d1 fd0 fd1
      generalize (wr.setCell ⟨w.heap.size + 1, 0, none⟩ (.string nm)).setCell ⟨w.heap.size + 1, 1, none⟩ (.slice va k vc) = w9 at *
      have t0 := hR.cell (i := 0) (by omega)
      have t1 := hR.cell (i := 1) (by omega)
      simp only [if_true, Nat.one_ne_zero, if_false, Nat.zero_ne_one] at t0 t1
      have hS9 := hT9.sep (A := va) (c := vc) (by rw [HXl.out]) nm
      rw [HXl.out] at hS9
      have hvc : k ≤ vc ∧ vc ≤ 9223372036854775807 := by
        obtain ⟨_, ⟨h, h0⟩ | ⟨g, cap, cur, h, _, _, h1, h2, _⟩⟩ := hT9.own
        · injection h with _ h3 h4
          subst h3 h4
          exact ⟨Nat.le_refl _, by omega⟩
        · injection h with _ h3 h4
          subst h4
          exact ⟨by rw [← HXl.out]; exact h1, Nat.le_trans h2 (by unfold maxLen; omega)⟩
      refine bodyPost_ret (v := .agg #[.string nm, .slice va k vc]) (by simp [results, Try.results140, go_sem, t0, t1]) rfl ⟨va, vc, rfl, hvc.1, hvc.2, (hS9.congr HXk.out).mono (by omega) (Nat.le_refl _), hB⟩
theorem scopy_any : ∀ (t : Tm), Fits 1048576 t → ∀ (A : Option Addr) (c : Nat) (w : World), Kids 0 w t A → Calls Try.prog 140 #[.agg #[.string t.nm, .slice A t.n c]] w (CopyP w t) := by
  intro t
  induction t with
  | bad => intro h; exact False.elim h
  | mk nm n kid ih =>
    rintro ⟨_, hn, hF⟩ A c w hA
    exact scopy_of nm n kid hn (fun k hk a c W hW => ih k (hF k hk) a c W hW) A c w hA
end Go.Proofs.Ytanfljajafelgaa

namespace Go.Proofs.Ytanfljajafelgaa
set_option linter.unusedVariables false
set_option linter.unusedSimpArgs false
open Go.RowKit
/-- what a call may turn that writes a row of one's own -/
def FrR (v : Value) (w : World) (v' : Value) (w' : World) : Prop := ∀ b M, Fr b M v w v' w'
theorem FrR.refl (v : Value) (w : World) : FrR v w v w := fun b M => Fr.refl b M v w
theorem FrR.trans {v v1 v2 : Value} {w w1 w2 : World} (h : FrR v w v1 w1) (k : FrR v1 w1 v2 w2) : FrR v w v2 w2 := fun b M => (h b M).trans (k b M)
theorem FrR.below {v v1 : Value} {w w1 w2 : World} (h : FrR v w v1 w1) (hb : Below w1.heap.size w1 w2) : FrR v w v1 w2 := fun b M => (h b M).below hb
theorem FrR.block {v v' : Value} {w w' : World} (h : FrR v w v' w') {k : Nat} (hk : k < w.heap.size) (hv : v.ownBlock ≠ some k) : w'.heap[k]? = w.heap[k]? := (h (k + 1) (k + 1)).block k hk (by omega) (by omega) hv
theorem FrR.size {v v' : Value} {w w' : World} (h : FrR v w v' w') : w.heap.size ≤ w'.heap.size := (h 0 0).size
theorem FrR.own {v v' : Value} {w w' : World} (h : FrR v w v' w') : ∀ g, v'.ownBlock = some g → v.ownBlock = some g ∨ w.heap.size ≤ g := (h 0 0).own
theorem FrR.grown {v v' : Value} {w w' : World} (h : w.grownBy w' v.ownBlock) (hf : ∀ g, v'.ownBlock = some g → v.ownBlock = some g ∨ w.heap.size ≤ g) : FrR v w v' w' :=
  fun b M => ⟨h.os, h.tape, h.output, h.size, fun k hk _ _ h3 => h.block k hk (fun e => h3 e.symm), hf⟩
/-- what lies below the row stays -/
theorem FrR.low {v v' : Value} {w0 w w' : World} {lo : Nat} {X : List TX} (h : FrR v w v' w') (hT : TRow w lo X v) (h0 : w0.heap.size ≤ lo) (hb : Below w0.heap.size w0 w) : Below w0.heap.size w0 w' :=
  ⟨(h 0 0).os.trans hb.os, (h 0 0).tape.trans hb.tape, (h 0 0).output.trans hb.output, Nat.le_trans hb.size h.size, fun k hk => (h.block (Nat.lt_of_lt_of_le hk hb.size) (fun e => by have := (hT.lt e).1; omega)).trans (hb.block k hk)⟩
theorem TRow.slice {w : World} {lo : Nat} {X : List TX} {v : Value} (h : TRow w lo X v) : ∃ a c, v = .slice a X.length c ∧ X.length ≤ c ∧ c ≤ 9223372036854775807 := by
  obtain ⟨_, ⟨h, h0⟩ | ⟨g, cap, cur, h, _, _, h1, h2, _⟩⟩ := h.own
  · exact ⟨none, 0, by rw [h, h0], by omega, by omega⟩
  · exact ⟨_, _, h, h1, Nat.le_trans h2 (by unfold maxLen; omega)⟩
def FX (X : List TX) : Prop := ∀ i, i < X.length → Fits 1048576 (X.getD i default).t
theorem FX.push {X : List TX} {x : TX} (h : FX X) (hx : Fits 1048576 x.t) : FX (X ++ [x]) := fun i hi => by
  by_cases e : i < X.length
  · rw [getX_left e]; exact h i e
  · have : i = X.length := by simp at hi; omega
    subst this
    rw [getX_new]; exact hx
theorem getD_mapX {X : List TX} {i : Nat} (h : i < X.length) : (X.map TX.t).getD i default = (X.getD i default).t := by
  rw [List.getD_eq_getElem?_getD, List.getD_eq_getElem?_getD, List.getElem?_map, List.getElem?_eq_getElem h]; rfl
/-- what l4Parts answers -/
def PartsP (t : Tm) (lo : Nat) (X : List TX) (v : Value) (w : World) (e : Ending) (w' : World) : Prop :=
  ∃ (X' : List TX) (v' : Value), e = .returned v' ∧ TRow w' lo X' v' ∧ AddT t (X.map TX.t) (X'.map TX.t) ∧ X'.length ≤ X.length + tSz t ∧ FX X' ∧ FrR v w v' w'
set_option maxRecDepth 100000 in
set_option maxHeartbeats 8000000 in
theorem sparts_any : ∀ (t : Tm), Fits 1048576 t → ∀ (A : Option Addr) (c lo : Nat) (X : List TX) (v : Value) (w0 w : World), Kids 0 w0 t A → w0.heap.size ≤ lo → Below w0.heap.size w0 w → TRow w lo X v → FX X → lo ≤ w.heap.size → X.length + tSz t ≤ 1073741824 →
    Calls Try.prog 166 #[v, .agg #[.string t.nm, .slice A t.n c]] w (PartsP t lo X v w) := by
  intro t
  induction t with
  | bad => intro h; exact False.elim h
  | mk nm n kid ih =>
    intro hF A c lo X v w0 w hA h0 hb hT hFX hlo hlen
    show Calls _ _ #[v, .agg #[.string nm, .slice A n c]] w _
    have HF := hid hF
    obtain ⟨_, hn, hfk⟩ := hF
    have IH := hid ih; have HFk := hid hfk
    rw [tSz] at hlen
    have HLEN := hid hlen
    have CX := bal (Below.refl w.heap.size w) (.cells #[.string nm, .slice A n c] 76)
    have hrx := row2_new w (.string nm) (.slice A n c) 76
    have hT1 := hT.below CX
    have hb1 := btr hb CX
    have hF1 : FrR v w v (w.alloc (.cells #[.string nm, .slice A n c] 76)) := (FrR.refl v w).below CX
    have hvx : v.ownBlock ≠ some w.heap.size := fun e => by have := (hT.lt e).2; omega
    have hs : (w.alloc (.cells #[.string nm, .slice A n c] 76)).heap.size = w.heap.size + 1 := by simp [go_sem]
    obtain ⟨va, vc, hve, _⟩ := hT.slice
    subst hve
    clear ih hfk hlen hT hb CX
    go_enter Try.func166, Try.ntmps166
    go_upto_region 1 with fail
    generalize w.alloc (.cells #[.string nm, .slice A n c] 76) = w1 at *
    have HT1 := hid hT1; have HB1 := hid hb1; have HF1 := hid hF1; have HVX := hid hvx; have HS := hid hs; have HRX := hid hrx; have HFX := hid hFX
    clear hT1 hb1 hF1 hvx hs hrx hFX
    go_wp2
    have hst0 := hid (show ∃ (X1 : List TX) (v1 : Value), (Value.slice va X.length vc) = v1 ∧ AddK (fun k => AddT (kid k)) 0 (X.map TX.t) (X1.map TX.t) ∧ X1.length ≤ X.length + sumT 0 (fun k => tSz (kid k)) ∧ TRow w1 lo X1 v1 ∧ FrR (.slice va X.length vc) w1 v1 w1 ∧ FX X1 from ⟨X, _, rfl, rfl, Nat.le_add_right _ _, HT1.out, FrR.refl _ _, HFX.out⟩)
    go_loopw [0, 5] (fun vv i wr => ∃ k : Nat, k ≤ n ∧ i = .int .i64 k ∧ ∃ (X1 : List TX) (v1 : Value), vv = v1 ∧ AddK (fun k => AddT (kid k)) k (X.map TX.t) (X1.map TX.t) ∧ X1.length ≤ X.length + sumT k (fun k => tSz (kid k)) ∧ TRow wr lo X1 v1 ∧ FrR (.slice va X.length vc) w1 v1 wr ∧ FX X1) (fun _ i _ => n - (intOf i).toNat)
    case atStart => exact ⟨0, Nat.zero_le _, rfl, hst0.out⟩
    case round =>
      obtain ⟨k, hk, rfl, X1, v1, rfl, hK, hXl, hT, hFr, hFX⟩ := hrel
      have hrx := HRX.out.of_block (hFr.block HRX.out.lt HVX.out)
      have b0 := hrx.cell (i := 0) (by omega)
      have b1 := hrx.cell (i := 1) (by omega)
      simp only [if_true, Nat.one_ne_zero, if_false] at b0 b1
      have hbw := hFr.low HT1.out h0 HB1.out
      have HK := hid hK; have HXl := hid hXl; have HT := hid hT; have HFr := hid hFr; have HFX1 := hid hFX; have HBW := hid hbw
      have hsz := hid hFr.size
      clear hK hXl hT hFr hFX hrx hst0 hbw
      have hs1 := HS.out
      have hsz1 := hsz.out
      have hlw : lo ≤ wr.heap.size := by omega
      have hsm : sumT k (fun k => tSz (kid k)) ≤ sumT n (fun k => tSz (kid k)) := sumT_mono hk
      have hX1 := HXl.out
      have hLN := HLEN.out
      obtain ⟨v1a, v1c, hv1e, hv1c⟩ := HT.out.slice
      subst hv1e
      by_cases hlt : k < n
      · have hA0 := hA
        rcases hA0 with h00 | ⟨g, off, rfl, _, hg, hcA⟩
        · omega
        obtain ⟨a, ca, a0, a1, hI⟩ := hcA k hlt
        replace a0 := carry HBW.out a0
        replace a1 := carry HBW.out a1
        have hs2 : sumT (k + 1) (fun k => tSz (kid k)) = sumT k (fun k => tSz (kid k)) + tSz (kid k) := rfl
        have hsm2 : sumT (k + 1) (fun k => tSz (kid k)) ≤ sumT n (fun k => tSz (kid k)) := sumT_mono hlt
        have hS := IH.out k (HFk.out k hlt) a ca lo X1 _ w0 wr hI h0 HBW.out HT.out HFX1.out hlw (by omega)
        have HS2 := hid hs2
        clear hcA hI hs2 hsm2 hsm hLN hs1 hsz1
        go_wp2_with (go_at_call 166; refine hS.mono ?_; rintro e w3 ⟨X2, v2, rfl, hT2, hA2, hl2, hF2, hR2⟩)
        go_roundw
        case rel => exact ⟨k + 1, by omega, by go_num, X2, v2, rfl, ⟨_, HK.out, hA2⟩, by rw [HS2.out]; omega, hT2, HFr.out.trans hR2, hF2⟩
        case measure => simp [intOf]; omega
      · have hke : k = n := by omega
        subst hke
        have hP := splace_any X1.length (fun i => (X1.getD i default).t) v1a v1c (.mk nm k kid) A c wr (by omega) (fun i hi => (HFX1.out i hi).mono (by omega)) (HF.out.mono (by omega)) ((HT.out.sep rfl ⟨#[]⟩).kidT (Nat.zero_le _)).kids (hA.below HBW.out)
        have HLT := hid hLN
        clear hsm hLN hlt hs1 hsz1
        go_wp2_with fail
        refine hP.mono ?_
        rintro e w3 ⟨r, rfl, (⟨i, hi, rfl, hte⟩ | ⟨rfl, hno⟩), hq3⟩
        · have hge : decide ((0 : Int) ≤ (i : Int)) = true := by simp
          have HTE := hid hte
          clear hP hte
          go_wp2
          go_ret
          refine ⟨X1, _, rfl, HT.out.below hq3, ⟨_, HK.out, .inl ⟨⟨(X1.map TX.t).getD i default, getD_mem (by simpa using hi), by rw [getD_mapX hi]; exact HTE.out⟩, rfl⟩⟩, by rw [tSz]; omega, HFX1.out, ((FrR.trans HF1.out HFr.out).below hq3)⟩
        · have HNO := hid hno
          clear hP hno
          replace b0 := carry hq3 b0
          replace b1 := carry hq3 b1
          have hC : Calls Try.prog 140 #[.agg #[.string nm, .slice A k c]] w3 (fun e w' => ∃ A4 c4, e = .returned (.agg #[.string nm, .slice A4 k c4]) ∧ k ≤ c4 ∧ c4 ≤ 9223372036854775807 ∧ SepT w' (.mk nm k kid) w3.heap.size w'.heap.size A4 ∧ Below w3.heap.size w3 w') := scopy_any (.mk nm k kid) HF.out A c w3 ((hA.below HBW.out).below hq3)
          have hT3 := hid (HT.out.below hq3)
          have hF3 := hid (HFr.out.below hq3)
          have hl3 := hid (Nat.le_trans hlw hq3.size)
          clear hq3
          go_wp2_with fail
          refine hC.mono ?_
          rintro e w4 ⟨A4, c4, rfl, m1, m2, hS4, hq4⟩
          clear hC b0 b1
          obtain ⟨i0, hi, hz0, hz1, hz2⟩ := info_parts infoTm
          have CX := bal (Below.refl w4.heap.size w4) (.cells #[.string nm, .slice A4 k c4] 76)
          have hq5 := btr hq4 CX
          have hnews : ∀ (j : Nat) (u : Value), ([.string nm, .slice A4 k c4] : List Value)[j]? = some u → (w4.alloc (.cells #[.string nm, .slice A4 k c4] 76)).cell? ((⟨w4.heap.size, 0, none⟩ : Addr).add j) = some u := by
            intro j u h
            match j with
            | 0 => simp at h; subst h; simp [go_sem, Addr.add]
            | 1 => simp at h; subst h; simp [go_sem, Addr.add]
            | j + 2 => simp at h
          have hone : ∀ u ∈ ([.string nm, .slice A4 k c4] : List Value), u.oneCell' = true := fun u hu => by simp at hu; rcases hu with rfl | rfl <;> rfl
          have hT5 := hid (hT3.out.below hq5)
          have hown0 := hT5.out.own
          have hl5 : lo ≤ (w4.alloc (.cells #[.string nm, .slice A4 k c4] 76)).heap.size := Nat.le_trans hl3.out hq5.size
          have hLN := HLT.out
          have hbX : X1.length + 1 ≤ 1073741824 := by omega
          go_wp2_with (at_builtin; go_loud (refine wpList_append_own_at _ rfl _ _ 52 rfl lo 76 i0 _ 2 40 Try.underlying52 hi hz0 hz1 hz2 rfl (by decide) (.slice v1a X1.length v1c) X1.length (flatX X1) rfl hown0 ⟨w4.heap.size, 0, none⟩ 1 1 [.string nm, .slice A4 k c4] rfl rfl hnews hone (by unfold maxLen; omega) (by omega) hl5 ?_); intro v' w6 hown6 hgrow _ hfresh)
          have hcx := CX.size
          have hfr : ∀ g, v'.ownBlock = some g → (Value.slice v1a X1.length v1c).ownBlock = some g ∨ (w4.alloc (.cells #[.string nm, .slice A4 k c4] 76)).heap.size ≤ g := fun g hg => by
            rcases hfresh with h | h
            · exact .inl (h ▸ hg)
            · rw [h] at hg
              exact .inr (Nat.le_of_eq (Option.some.inj hg))
          have hTp := hT3.out.push (x := ⟨.mk nm k kid, A4, c4⟩) (v' := v') (w' := w6) hl3.out hq5 (hS4.below CX) hq4.size hcx m1 m2 hown6 hgrow hfr
          have hFp : FrR (.slice va X.length vc) w v' w6 := ((FrR.trans HF1.out hF3.out).below hq5).trans (FrR.grown hgrow hfr)
          go_ret
          refine ⟨_, v', rfl, hTp, ⟨_, HK.out, .inr ⟨fun ⟨u, hu, he⟩ => ?_, by simp⟩⟩, by rw [List.length_append, tSz]; simp only [List.length_cons, List.length_nil]; omega, HFX1.out.push HF.out, hFp⟩
          obtain ⟨i, hi, hiu⟩ := mem_getD hu
          rw [List.length_map] at hi
          rw [getD_mapX hi] at hiu
          exact HNO.out i hi (hiu ▸ he)
end Go.Proofs.Ytanfljajafelgaa

namespace Go.Proofs.Ytanfljajafelgaa
set_option linter.unusedVariables false
set_option linter.unusedSimpArgs false
open Go.RowKit
/-- the parts of a list of terms, each once; none if one is not well-formed -/
def LParts (n : Nat) (kid : Nat → Tm) (Q : List Tm) : Prop :=
  ((∀ k, k < n → wellB (kid k) = true) ∧ AddK (fun k => AddT (kid k)) n [] Q) ∨ ((∃ k, k < n ∧ wellB (kid k) = false) ∧ Q = [])
/-- what the model's TermParts answers -/
def SPartsP (n : Nat) (kid : Nat → Tm) (w : World) (e : Ending) (w' : World) : Prop :=
  ∃ (X : List TX) (v : Value), e = .returned v ∧ TRow w' w.heap.size X v ∧ FX X ∧ LParts n kid (X.map TX.t) ∧ Below w.heap.size w w'
theorem TRow.empty (w : World) (lo : Nat) (h : lo ≤ w.heap.size) : TRow (w.alloc (.cells #[] 76)) lo [] (.slice (some ⟨w.heap.size, 0, none⟩) 0 0) := by
  refine ⟨⟨rfl, .inr ⟨w.heap.size, 0, #[], rfl, h, Deep.blk_alloc_new _ _, Nat.le_refl _, Nat.zero_le _, rfl, rfl⟩⟩, fun _ => 0, fun _ => 0, fun k h => absurd h (Nat.not_lt_zero _)⟩
end Go.Proofs.Ytanfljajafelgaa

namespace Go.Proofs.Ytanfljajafelgaa
set_option linter.unusedVariables false
set_option linter.unusedSimpArgs false
open Go.RowKit
/-- an empty table in new memory -/
def NewTabP (w : World) (e : Ending) (w' : World) : Prop :=
  ∃ b M, e = .returned (.pointer (some ⟨b, 0, none⟩)) ∧ w.heap.size ≤ b ∧ w.heap.size ≤ M ∧ (∀ lo, Tab w' b M lo [] [] (.slice none 0 0)) ∧ Below w.heap.size w w'
set_option maxRecDepth 100000 in
set_option maxHeartbeats 4000000 in
theorem newtable_any (w : World) : Calls Try.prog 171 #[] w (NewTabP w) := by
  have hmm := @run_makeMap Try.prog
  have hr0 := Below.refl w.heap.size w
  go_enter Try.func171, Try.ntmps171
  go_wp2
  go_ret
  have h2 := bal (bal hr0 (.map #[] 0)) (.cells #[.slice none 0 0, .map (some w.heap.size)] 193)
  have hb : ((w.alloc (.map #[] 0)).alloc (.cells #[.slice none 0 0, .map (some w.heap.size)] 193)).heap[w.heap.size + 1]? = some (.cells #[.slice none 0 0, .map (some w.heap.size)] 193 (0, 0)) := by
    have := Deep.blk_alloc_new (w.alloc (.map #[] 0)) (.cells #[.slice none 0 0, .map (some w.heap.size)] 193)
    rw [World.size_alloc] at this
    exact this
  have hM := OwnM.new w ShK
  have hM2 := hM.of_block (w' := (w.alloc (.map #[] 0)).alloc (.cells #[.slice none 0 0, .map (some w.heap.size)] 193)) ((bal (Below.refl _ _) _).block _ hM.lt)
  refine ⟨w.heap.size + 1, w.heap.size, rfl, Nat.le_succ _, Nat.le_refl _, fun lo => ⟨hb, World.ownsRow_nil _ lo 280 4, ⟨fun _ => none, hM2, fun i h => absurd h (Nat.not_lt_zero _), fun k x h => by cases h⟩, ⟨rfl, fun i h => absurd h (Nat.not_lt_zero _), fun i j h => absurd h (Nat.not_lt_zero _)⟩⟩, h2⟩
end Go.Proofs.Ytanfljajafelgaa

namespace Go.Proofs.Ytanfljajafelgaa
set_option linter.unusedVariables false
set_option linter.unusedSimpArgs false
open Go.RowKit
theorem SepT.teq {w : World} {m : Nat} : ∀ {t u : Tm} {lo hi : Nat} {A : Option Addr}, Fits m u → TEq t u → SepT w t lo hi A → SepT w u lo hi A := by
  intro t
  induction t with
  | bad => intro u lo hi A _ _ h; exact False.elim h
  | mk nm n kid ih =>
    intro u lo hi A hF he h
    cases u with
    | bad => exact False.elim hF
    | mk nm' n' kid' =>
      have hn : n = n' := he.n
      subst hn
      rcases h with h | ⟨g, off, cs, L, H, ha, h1, h2, hg, hc⟩
      · exact .inl h
      · refine .inr ⟨g, off, cs, L, H, ha, h1, h2, hg, fun k hk => ?_⟩
        obtain ⟨q1, q2, q3, q4, q5, a, c, e0, e1, e2, e3, e4⟩ := hc k hk
        have hk2 : TEq (kid k) (kid' k) := he.kid hk
        have hnk : (kid k).n = (kid' k).n := hk2.n
        have hmk : (kid k).nm = (kid' k).nm := hk2.1
        exact ⟨q1, q2, q3, q4, q5, a, c, by rw [← hmk]; exact e0, by rw [← hnk]; exact e1, by rw [← hnk]; exact e2, e3, ih k (hF.2.2 k hk) hk2 e4⟩
theorem flatS_at : ∀ (S : List Sh) (i j : Nat), i < S.length → j < 4 → (flatS S)[i * 4 + j]? = (S.getD i default).cells[j]?
  | [], i, j, h, _ => absurd h (Nat.not_lt_zero _)
  | s :: r, 0, j, _, hj => by
    have : j < s.cells.length := hj
    simp only [flatS, Nat.zero_mul, Nat.zero_add, List.getD_cons_zero]
    rw [List.getElem?_append_left this]
  | s :: r, i + 1, j, h, hj => by
    have h2 := flatS_at r i j (by simpa using h) hj
    simp only [flatS, List.getD_cons_succ]
    have hl : s.cells.length = 4 := rfl
    rw [← h2, List.getElem?_append_right (by omega), hl, show (i + 1) * 4 + j - 4 = i * 4 + j by omega]
theorem run_sl2 (b : Nat) {n : Nat} (hn : n ≤ 2) (X : World) : (Instr.sliceAt 278 (.pointer (some ⟨b, 1, none⟩)) none (some (.int .i64 (n : Int))) none).run Try.prog X = .ok (.slice (some ⟨b, 1, none⟩) n 2) X := by
  have hl : Try.prog.arrayLen 278 = 2 := by kernel_rfl
  have ha : Try.prog.underlying 278 = some (.array (Try.prog.arrayLen 278) (Try.prog.elem 278)) := by kernel_rfl
  have he : Try.prog.elem 278 = 3 := by kernel_rfl
  rw [run_sliceAt_array_h X _ _ ha .i64 n (Int.natCast_nonneg _) (by rw [hl]; omega), hl, he]
  simp [go_sem, Addr.add]
set_option maxRecDepth 100000 in
set_option maxHeartbeats 8000000 in
theorem term_any (P : List Tm) (S : List Sh) : ∀ (i : Nat), i < P.length → ∀ (b M lo : Nat) (v : Value) (w : World), Tab w b M lo P S v → P.length ≤ 1073741824 → (∀ j, j < P.length → Fits 1048576 (P.getD j default)) →
    Calls Try.prog 111 #[.pointer (some ⟨b, 0, none⟩), .int .i64 i] w (CopyP w (P.getD i default)) := by
  intro i
  induction i using Nat.strongRecOn with
  | _ i ih =>
    intro hi b M lo v w hT hP hFP
    obtain ⟨T, hTT⟩ : ∃ T, P.getD i default = T := ⟨_, rfl⟩
    rw [hTT]
    have IH := hid ih; clear ih
    have HFP := hid hFP; clear hFP
    have hq := bal (Below.refl w.heap.size w) (.cells #[.string ⟨#[]⟩, .slice none 0 0] 76)
    have d0 := row2_new w (.string ⟨#[]⟩) (.slice none 0 0) 76
    have hs : (w.alloc (.cells #[.string ⟨#[]⟩, .slice none 0 0] 76)).heap.size = w.heap.size + 1 := by simp [go_sem]
    have hT1 := hT.below hq
    clear hT
    go_enter Try.func111, Try.ntmps111
    go_upto_region 1 with fail
    generalize w.alloc (.cells #[.string ⟨#[]⟩, .slice none 0 0] 76) = w1 at *
    have hTB := hT1.blk
    have t0 : w1.cell? ⟨b, 0, none⟩ = some v := by simp [World.cell?, hTB]
    have hShA := hid (hT1.ok.at_ i hi)
    rw [hTT] at hShA
    have HTT := hid hTT; clear hTT
    have hSl : S.length = P.length := hT1.ok.len
    obtain ⟨g, cap, cur, rfl, hbg, hg, hnc, hcm, hcs, htake⟩ : ∃ g cap cur, v = .slice (some ⟨g, 0, none⟩) S.length cap ∧ lo ≤ g ∧ w1.heap[g]? = some (.cells cur 280 (0, 0)) ∧ S.length ≤ cap ∧ cap ≤ maxLen ∧ cur.size = cap * 4 ∧ cur.toList.take (S.length * 4) = flatS S := by
      obtain ⟨_, ⟨_, h0⟩ | h⟩ := hT1.own
      · omega
      · exact h
    have hiS : i < S.length := by omega
    have HSL := hid hSl; clear hSl
    have hcell : ∀ j u, (flatS S)[j]? = some u → w1.cell? ⟨g, j, none⟩ = some u := fun j u hu => by
      rw [← htake, List.getElem?_take] at hu
      split at hu
      · simp [World.cell?, hg]; simpa using hu
      · cases hu
    have hfl := fun j hj => flatS_at S i j hiS hj
    generalize S.getD i default = s at hfl hShA
    have p0 : w1.cell? ⟨g, i * 4, none⟩ = some (.string s.nm) := hcell _ _ (hfl 0 (by omega))
    have p1 : w1.cell? ⟨g, i * 4 + 1, none⟩ = some (.int .i64 s.a) := hcell _ _ (hfl 1 (by omega))
    have p2 : w1.cell? ⟨g, i * 4 + 2, none⟩ = some (.int .i64 s.b) := hcell _ _ (hfl 2 (by omega))
    have p3 : w1.cell? ⟨g, i * 4 + 3, none⟩ = some (.int .i64 s.c) := hcell _ _ (hfl 3 (by omega))
    have HT1 := hid hT1; have D0 := hid d0; have HS := hid hs; have HQ := hid hq
    clear hT1 d0 hs hq hcell hfl hTB hg htake hcs hbg
    go_upto_region 3 with fail
    obtain ⟨hn0, hc0, hn2, hkd, _⟩ := hShA.out
    have hc2 : s.c ≤ 2 := by omega
    have hqx := bal (bal (Below.refl w1.heap.size w1) (.cells #[.string s.nm, .int .i64 s.a, .int .i64 s.b, .int .i64 s.c] 280)) (.cells #[.string s.nm, .slice none 0 0] 76)
    have hs1 := HS.out
    have rx := row2_new (w1.alloc (.cells #[.string s.nm, .int .i64 s.a, .int .i64 s.b, .int .i64 s.c] 280)) (.string s.nm) (.slice none 0 0) 76
    rw [World.size_alloc, hs1] at rx
    have ry : ((w1.alloc (.cells #[.string s.nm, .int .i64 s.a, .int .i64 s.b, .int .i64 s.c] 280)).alloc (.cells #[.string s.nm, .slice none 0 0] 76)).rowIs (w.heap.size + 1) 280 4 (shV s) := by
      have h := Deep.blk_alloc_new w1 (.cells #[.string s.nm, .int .i64 s.a, .int .i64 s.b, .int .i64 s.c] 280)
      have h2 : (w1.alloc (.cells #[.string s.nm, .int .i64 s.a, .int .i64 s.b, .int .i64 s.c] 280)).rowIs (w.heap.size + 1) 280 4 (shV s) := ⟨_, by rw [← hs1]; exact h, rfl, fun j hj => by
        have hj' : j = 0 ∨ j = 1 ∨ j = 2 ∨ j = 3 := by omega
        rcases hj' with rfl | rfl | rfl | rfl <;> rfl⟩
      exact row_below h2 (bal (Below.refl _ _) _)
    have hsx : ((w1.alloc (.cells #[.string s.nm, .int .i64 s.a, .int .i64 s.b, .int .i64 s.c] 280)).alloc (.cells #[.string s.nm, .slice none 0 0] 76)).heap.size = w.heap.size + 3 := by rw [World.size_alloc, World.size_alloc, hs1]
    rw [hs1]
    clear p0 p1 p2 p3 t0
    generalize (w1.alloc (.cells #[.string s.nm, .int .i64 s.a, .int .i64 s.b, .int .i64 s.c] 280)).alloc (.cells #[.string s.nm, .slice none 0 0] 76) = x at *
    have y1 : x.cell? ⟨w.heap.size + 1, 1, none⟩ = some (.int .i64 s.a) := ry.cell (i := 1) (by omega)
    have y2 : x.cell? ⟨w.heap.size + 1, 2, none⟩ = some (.int .i64 s.b) := ry.cell (i := 2) (by omega)
    have y3 : x.cell? ⟨w.heap.size + 1, 3, none⟩ = some (.int .i64 s.c) := ry.cell (i := 3) (by omega)
    have RX := hid rx; have RY := hid ry; have HSX := hid hsx; have HQX := hid hqx
    have HKD := hid hkd; have HN0 := hid hn0; have HC0 := hid hc0
    clear rx ry hsx hqx hkd hn0 hc0 hs1
    have hsl := run_sl2 (w.heap.size + 1) hc2
    go_upto_region 4 with fail
    clear hsl y1 y2 y3
    have hbx := HQX.out
    go_loopw [24] (fun i wr => ∃ (k : Nat) (X : List TX) (v : Value), k ≤ s.c ∧ i = .int .i64 k ∧ Below w1.heap.size w1 wr ∧ wr.rowIs (w.heap.size + 1) 280 4 (shV s) ∧ wr.rowIs (w.heap.size + 1 + 1) 76 2 (fun j => if j = 0 then .string s.nm else v) ∧ TRow wr (w.heap.size + 3) X v ∧ X.length = k ∧ ∀ j, j < k → (X.getD j default).t = P.getD (s.kid j) default) (fun i _ => s.c - (intOf i).toNat)
    case atStart => exact ⟨0, [], .slice none 0 0, Nat.zero_le _, rfl, hbx, RY.out, RX.out, TRow.nil _ _, rfl, fun i hi => absurd hi (Nat.not_lt_zero _)⟩
    case round =>
      obtain ⟨k, X, v, hk, rfl, hbr, hry, hrx, hT, hXl, hXk⟩ := hrel
      have HT := hid hT; have HXk := hid hXk; have HXl := hid hXl
      clear hT hXk hXl hbx
      have q0 := hrx.cell (i := 0) (by omega)
      have q1 := hrx.cell (i := 1) (by omega)
      have HR := hid hrx
      simp only [if_true, Nat.one_ne_zero, if_false] at q0 q1
      have hvs : ∃ aa cc, v = .slice aa k cc := by
        obtain ⟨a, c, h, _⟩ := HT.out.slice
        exact ⟨a, c, by rw [h, HXl.out]⟩
      obtain ⟨va, vc, hve⟩ := hvs
      subst hve
      by_cases hlt : k < s.c
      · have yk : wr.cell? ⟨w.heap.size + 1, 1 + k, none⟩ = some (.int .i64 (s.kid k)) := by
          have h := hry.cell (i := 1 + k) (by omega)
          have hk' : k = 0 ∨ k = 1 := by omega
          rcases hk' with rfl | rfl <;> exact h
        have HRY := hid hry
        clear hry hrx
        obtain ⟨hkP, _⟩ := HKD.out k (by rw [← HC0.out]; exact hlt)
        obtain ⟨i0, hi', hz0, hz1, hz2⟩ := info_parts infoTm
        go_upto_region 6 with fail
        have KL : KcL [(w.heap.size + 1 + 1, 1, .slice va k vc)] wr := ⟨q1, trivial⟩
        have qd := (Below.refl wr.heap.size wr).drew
        refine region_planC (fun w' => KcL [(w.heap.size + 1 + 1, 1, .slice va k vc)] w') (.takes [0, 1, 2, 3] (.make 4 (.make 5 (.make 6 (.takes [7] .fin))))) 8 rfl (by kernel_rfl) (KL.below qd) ?_
        refine plan_takes ?_; simp only [pickOps, List.getElem?_cons_zero, List.getElem?_cons_succ]
        refine quiet_doC rfl (.pointer (some ⟨w.heap.size + 1 + 1, 1, none⟩)) (fun w' hw' => by simp [execOp, go_sem]) ?_
        refine quiet_doC rfl (.slice va k vc) (fun w' hw' => by have := hw'.1; simp only at this; simp [execOp, go_sem, this]) ?_
        refine quiet_doC rfl (.pointer (some ⟨b, 0, none⟩)) (fun w' hw' => by simp [execOp, go_sem]) ?_
        refine quiet_doC rfl (.int .i64 (s.kid k)) (fun w' hw' => by simp [execOp, go_sem]) ?_
        refine wpQuiet_nil ?_
        replace KL := KL.below qd
        have hTd := hid (HT.out.below qd)
        have hRd := hid (row_below HR.out qd)
        have hRyd := hid (row_below HRY.out qd)
        have hbd := btr hbr qd
        have hcall := IH.out (s.kid k) hkP (by omega) b M lo _ wr.drew (HT1.out.below hbd) hP HFP.out
        have hFk := hid (rfl : P.getD (s.kid k) default = P.getD (s.kid k) default)
        have HXk2 := HXk
        generalize hgt : P.getD (s.kid k) default = tk at hcall
        have HGT := hid hgt
        clear qd q0 q1 hbr yk hgt hFk
        generalize wr.drew = u at *
        refine planC_call rfl rfl 111 #[.pointer (some ⟨b, 0, none⟩), .int .i64 (s.kid k)] (by kernel_rfl) ?_
        refine hcall.mono ?_
        rintro e w3 ⟨A3, c3, rfl, m1, m2, hS3, hq3⟩
        refine ⟨_, rfl, KL.below hq3, ?_⟩
        replace KL := KL.below hq3
        clear hcall
        have CX := bal (Below.refl w3.heap.size w3) (.cells #[.string tk.nm, .slice A3 tk.n c3] 76)
        have hq4 := btr hq3 CX
        have hS4 := hid (hS3.below CX)
        have hh4 : w3.heap.size ≤ (w3.alloc (.cells #[.string tk.nm, .slice A3 tk.n c3] 76)).heap.size := CX.size
        refine planC_val rfl rfl (.slice (some ⟨w3.heap.size, 0, none⟩) 1 1) (w'' := w3.alloc (.cells #[.string tk.nm, .slice A3 tk.n c3] 76)) (by simp [execOp, go_sem]) (KL.below CX) ?_
        replace KL := KL.below CX
        have hTg := hid (hTd.out.below hq4)
        have hRg := hid (row_below hRd.out hq4)
        have hRyg := hid (row_below hRyd.out hq4)
        have hbg := btr hbd hq4
        have hnews : ∀ (j : Nat) (u : Value), ([.string tk.nm, .slice A3 tk.n c3] : List Value)[j]? = some u → (w3.alloc (.cells #[.string tk.nm, .slice A3 tk.n c3] 76)).cell? ((⟨w3.heap.size, 0, none⟩ : Addr).add j) = some u := by
          intro j u h
          match j with
          | 0 => simp at h; subst h; simp [go_sem, Addr.add]
          | 1 => simp at h; subst h; simp [go_sem, Addr.add]
          | j + 2 => simp at h
        have hone : ∀ u ∈ ([.string tk.nm, .slice A3 tk.n c3] : List Value), u.oneCell' = true := fun u hu => by simp at hu; rcases hu with rfl | rfl <;> rfl
        have hs1 := HS.out
        have hlu : w.heap.size + 3 ≤ u.heap.size := hRd.out.lt
        have hlog : w.heap.size + 3 ≤ (w3.alloc (.cells #[.string tk.nm, .slice A3 tk.n c3] 76)).heap.size := Nat.le_trans hlu hq4.size
        have hown0 := hTg.out.own
        rw [HXl.out] at hown0
        refine planC_append rfl rfl _ _ 52 rfl (w.heap.size + 3) 76 i0 _ 2 40 Try.underlying52 hi' hz0 hz1 hz2 rfl (by decide) (.slice va k vc) k (flatX X) (by kernel_rfl) hown0 ⟨w3.heap.size, 0, none⟩ 1 1 [.string tk.nm, .slice A3 tk.n c3] (by kernel_rfl) rfl hnews hone (by unfold maxLen; omega) (by omega) hlog ?_
        intro v' w6 hown6 hgrow hfresh
        have hvs : ∃ a cc, v' = .slice a (k + 1) cc := by
          obtain ⟨_, ⟨h, h0⟩ | ⟨g, cap, cur, h, _⟩⟩ := hown6
          · exact absurd h0 (by omega)
          · exact ⟨_, _, h⟩
        obtain ⟨va', vc', hve⟩ := hvs
        subst hve
        have hrl := fun r (e : (Value.slice va k vc).ownBlock = some r) => hTg.out.lt e
        have KL6 := KL.keep hgrow (fun e he r hr => by
          have := (hrl r hr).1
          simp at he
          subst he
          simp only; omega)
        refine ⟨KL6, ?_⟩
        refine plan_takes ?_; simp only [pickOps, List.getElem?_cons_zero, List.getElem?_cons_succ, Act.put, List.setIfInBounds_toArray, List.set_cons_succ, List.set_cons_zero]
        refine quiet_doC rfl (.pointer (some ⟨w.heap.size + 1 + 1, 1, none⟩)) (fun w' hw' => by simp [execOp, go_sem]) ?_
        refine wpQuiet_nil ?_
        refine plan_fin ?_
        simp only [List.drop_succ_cons, List.drop_zero, Act.put, List.setIfInBounds_toArray, List.set_cons_succ, List.set_cons_zero]
        have hR6 : w6.rowIs (w.heap.size + 1 + 1) 76 2 (fun j => if j = 0 then .string s.nm else .slice va k vc) := hRg.out.of_block (hgrow.block _ hRg.out.lt (fun e => by have := (hrl _ e.symm).1; omega))
        have hRy6 : w6.rowIs (w.heap.size + 1) 280 4 (shV s) := hRyg.out.of_block (hgrow.block _ hRyg.out.lt (fun e => by have := (hrl _ e.symm).1; omega))
        have q1 : w6.cell? ⟨w.heap.size + 1 + 1, 1, none⟩ = some (.slice va k vc) := hR6.cell (i := 1) (by omega)
        have fq1 : w6.frozen? ⟨w.heap.size + 1 + 1, 1, none⟩ = false := hR6.frozen 1
        have hTp := (hTd.out.push (x := ⟨tk, A3, c3⟩) (v' := .slice va' (k + 1) vc') (w' := w6) (Nat.le_trans (by omega) hlu) hq4 hS4.out hq3.size hh4 m1 m2 (by rw [HXl.out]; exact hown6) hgrow hfresh)
        have hb6 : Below w1.heap.size w1 w6 := ⟨hgrow.os.trans hbg.os, hgrow.tape.trans hbg.tape, hgrow.output.trans hbg.output, Nat.le_trans hbg.size hgrow.size, fun j hj => (hgrow.block j (Nat.lt_of_lt_of_le hj hbg.size) (fun e => by have := (hrl _ e.symm).1; omega)).trans (hbg.block j hj)⟩
        have HTp := hid hTp; have HB6 := hid hb6; have HR6 := hid hR6; have HRy6 := hid hRy6
        clear hTp hb6 hR6 hRy6 KL6 KL hrl hown6 hgrow hfresh hown0 hnews hone CX hlog
        go_wp2
        go_roundw
        case rel =>
          refine ⟨k + 1, X ++ [⟨tk, A3, c3⟩], .slice va' (k + 1) vc', by omega, by go_num, bst HB6.out (by rw [hs1]; exact Nat.le_succ _) _, HRy6.out.of_block (Deep.blk_setCell_other _ _ _ _ (by simp only; omega)), ((HR6.out.set 1 _).congr fun j hj => ?_), HTp.out.setN (by omega), by rw [List.length_append, HXl.out]; simp, fun j hj => ?_⟩
          · by_cases e : j = 0
            · subst e; simp
            · rw [if_pos (by omega), if_neg e]
          · by_cases e : j = k
            · rw [e, ← HXl.out, getX_new, HXl.out]; exact HGT.out.symm
            · rw [getX_left (by rw [HXl.out]; omega)]
              exact HXk.out j (by omega)
        case measure => simp [intOf]; omega
      · have hke : k = s.c := by omega
        subst hke
        have hw1 := HS.out
        have hbw := btr HQ.out hbr
        have hr0 := D0.out.of_block (hbr.block _ (by rw [hw1]; exact Nat.lt_succ_self _))
        have d0 := hr0.cell (i := 0) (by omega)
        have d1 := hr0.cell (i := 1) (by omega)
        have fd0 := hr0.frozen 0
        have fd1 := hr0.frozen 1
        simp only [if_true, Nat.one_ne_zero, if_false] at d0 d1
        have HR0 := hid hr0; have HBW := hid hbw
        clear hr0 hbw hry hrx hbr
        go_wp2
        have hR := (HR0.out.set 0 (.string s.nm)).set 1 (.slice va s.c vc)
        have hB := bst (p := ⟨w.heap.size, 1, none⟩) (bst (p := ⟨w.heap.size, 0, none⟩) HBW.out (Nat.le_refl _) (.string s.nm)) (Nat.le_refl _) (.slice va s.c vc)
        have hT9 := ((HT.out.setN (o := 0) (u := .string s.nm) (show w.heap.size < w.heap.size + 3 by omega)).setN (o := 1) (u := .slice va s.c vc) (show w.heap.size < w.heap.size + 3 by omega))
        clear d0 d1 fd0 fd1
        generalize (wr.setCell ⟨w.heap.size, 0, none⟩ (.string s.nm)).setCell ⟨w.heap.size, 1, none⟩ (.slice va s.c vc) = w9 at *
        have t0 := hR.cell (i := 0) (by omega)
        have t1 := hR.cell (i := 1) (by omega)
        simp only [if_true, Nat.one_ne_zero, if_false, Nat.zero_ne_one] at t0 t1
        have hS9 := hT9.sep (A := va) (c := vc) (by rw [HXl.out]) s.nm
        have hFT := HFP.out i hi
        rw [HTT.out] at hFT
        have hte : TEq (.mk s.nm X.length (fun j => (X.getD j default).t)) T := tEq_iff.2 ⟨HN0.out, by show X.length = T.n; rw [HXl.out, HC0.out], fun j hj => by
          have hj' : j < s.c := by rw [← HXl.out]; exact hj
          show TEq (X.getD j default).t (T.kid j)
          rw [HXk.out j hj']
          exact (HKD.out j (by rw [← HC0.out]; exact hj')).2⟩
        obtain ⟨a9, c9, h9, hv1, hv2⟩ := hT9.slice
        injection h9 with _ _ h9c
        subst h9c
        refine bodyPost_ret (v := .agg #[.string s.nm, .slice va s.c vc]) (by simp [results, Try.results111, go_sem, t0, t1]) rfl ⟨va, vc, by rw [HN0.out, HC0.out], by rw [← HC0.out, ← HXl.out]; exact hv1, hv2, (hS9.teq hFT hte).mono (Nat.le_add_right _ _) (Nat.le_refl _), hB⟩
end Go.Proofs.Ytanfljajafelgaa

namespace Go.Proofs.Ytanfljajafelgaa
set_option linter.unusedVariables false
set_option linter.unusedSimpArgs false
open Go.RowKit
theorem sm2_shape : ∀ (d : Nat) (t : Tm), shapeB d t = true → Sm2 t
  | 0, t, h => by cases h
  | d + 1, t, h => by
    obtain ⟨nm, n, kid, rfl⟩ := shape_mk h
    obtain ⟨_, h2, h3⟩ := shape_iff.1 h
    exact ⟨h2, fun k hk => sm2_shape d (kid k) (h3 k hk)⟩
theorem sm2_well {t : Tm} (h : wellB t = true) : Sm2 t := sm2_shape 4 t (wellB_iff.1 h).1
theorem fits_addK {R : Nat → List Tm → List Tm → Prop} {m : Nat} : ∀ {n : Nat} {P Q : List Tm}, (∀ k, k < n → ∀ P Q, R k P Q → (∀ u ∈ P, Fits m u) → ∀ u ∈ Q, Fits m u) → AddK R n P Q → (∀ u ∈ P, Fits m u) → ∀ u ∈ Q, Fits m u
  | 0, P, Q, _, h, hP => by
    have : P = Q := h
    subst this
    exact hP
  | n + 1, P, Q, hR, ⟨X, h1, h2⟩, hP => hR n (by omega) _ _ h2 (fits_addK (fun k hk => hR k (by omega)) h1 hP)
theorem fits_addT {m : Nat} : ∀ {t : Tm} {P Q : List Tm}, Fits m t → AddT t P Q → (∀ u ∈ P, Fits m u) → ∀ u ∈ Q, Fits m u := by
  intro t
  induction t with
  | bad => intro P Q h; exact False.elim h
  | mk nm n kid ih =>
    rintro P Q hF ⟨X, h1, h2⟩ hP
    have hX := fits_addK (R := fun k => AddT (kid k)) (fun k hk P Q h hP => ih k (hF.2.2 k hk) h hP) h1 hP
    rcases h2 with ⟨_, rfl⟩ | ⟨_, rfl⟩
    · exact hX
    · intro u hu
      rcases List.mem_append.1 hu with h | h
      · exact hX u h
      · rw [List.mem_singleton.1 h]; exact hF
def pV (f : Nat → Option Addr × Nat) (kd : Nat → Tm) (j : Nat) : Value := if j % 2 = 0 then .string (kd (j / 2)).nm else .slice (f (j / 2)).1 (kd (j / 2)).n (f (j / 2)).2
theorem pV_0 (f : Nat → Option Addr × Nat) (kd : Nat → Tm) (k : Nat) : pV f kd (k * 2) = .string (kd k).nm := by
  unfold pV; rw [if_pos (by omega), show k * 2 / 2 = k by omega]
theorem pV_1 (f : Nat → Option Addr × Nat) (kd : Nat → Tm) (k : Nat) : pV f kd (k * 2 + 1) = .slice (f k).1 (kd k).n (f k).2 := by
  unfold pV; rw [if_neg (by omega), show (k * 2 + 1) / 2 = k by omega]
theorem pV_old {f : Nat → Option Addr × Nat} {kd : Nat → Tm} {x : Option Addr × Nat} {k j : Nat} (h : j / 2 ≠ k) : pV (fun i => if i = k then x else f i) kd j = pV f kd j := by
  unfold pV; simp [h]
/-- what the program's TermParts answers -/
def PPartsP (n : Nat) (kid : Nat → Tm) (w : World) (e : Ending) (w' : World) : Prop :=
  ∃ (Q : List Tm) (A : Option Addr) (c : Nat), e = .returned (.slice A Q.length c) ∧ Q.length ≤ c ∧ c ≤ 9223372036854775807 ∧ LParts n kid Q ∧ (∀ u ∈ Q, Fits 1048576 u) ∧ SepT w' (.mk ⟨#[]⟩ Q.length (fun k => Q.getD k default)) w.heap.size w'.heap.size A ∧ Below w.heap.size w w'
end Go.Proofs.Ytanfljajafelgaa

namespace Go.Proofs.Ytanfljajafelgaa
set_option linter.unusedVariables false
set_option linter.unusedSimpArgs false
open Go.RowKit
theorem knDigits_lt : ∀ (k u : Nat), u < 10 ^ (k + 1) → Lib.nDigits u ≤ k + 1 := by
  intro k
  induction k with
  | zero => intro u hu; rw [Lib.nDigits_small (by omega)]; omega
  | succ k ih =>
    intro u hu
    by_cases h : u < 10
    · rw [Lib.nDigits_small h]; omega
    · rw [Lib.nDigits_big h]
      have := ih (u / 10) (by rw [Nat.div_lt_iff_lt_mul (by omega)]; rw [Nat.pow_succ] at hu; exact hu)
      omega
theorem kdec_big {u : Nat} (h : ¬ u < 10) : Lib.decDigits u = Lib.decDigits (u / 10) ++ [UInt8.ofNat (48 + u % 10)] := by rw [Lib.decDigits, dif_neg h]
theorem kdec_small {u : Nat} (h : u < 10) : Lib.decDigits u = [UInt8.ofNat (48 + u)] := by rw [Lib.decDigits, dif_pos h]
theorem kdec_len {u : Nat} (h : u ≤ 1000000000000000000) : (Lib.decDigits u).length ≤ 19 := by
  rw [Lib.decDigits_length]; exact knDigits_lt 18 u (by omega)
theorem kdigit_str (w : World) (m : Nat) (hm : m < 10) :
    (convert 22 9 (.slice (some ⟨w.heap.size, 0, none⟩) 1 1)).run Try.prog (w.alloc (.cells #[.int .u8 (48 + (m : Int))] 5)) = .ok (.string ⟨#[UInt8.ofNat (48 + m)]⟩) (w.alloc (.cells #[.int .u8 (48 + (m : Int))] 5)) := by
  refine run_convert_bytes_back _ 22 9 5 ⟨w.heap.size, 0, none⟩ 1 [UInt8.ofNat (48 + m)] Try.underlying22 Try.underlying5 Try.underlying9 ?_
  intro j hj
  have hj0 : j = 0 := by simpa using hj
  subst hj0
  have h1 : (UInt8.ofNat (48 + m)).toNat = 48 + m := by rw [UInt8.toNat_ofNat']; omega
  show (w.alloc _).cell? ⟨w.heap.size, 0, none⟩ = _
  rw [World.cell?_alloc_new]
  simp only [List.getElem_cons_zero, h1]
  simp
theorem kcat_cons (c : UInt8) (l : List UInt8) : (⟨#[c]⟩ : ByteArray) ++ ⟨l.toArray⟩ = ⟨(c :: l).toArray⟩ := by
  apply ByteArray.ext
  rw [ByteArray.data_append]
  show #[c] ++ l.toArray = _
  rw [show #[c] = [c].toArray from rfl, List.append_toArray]
  rfl
/-- the text of the mark k -/
def kmtB (k : Nat) : ByteArray := ⟨(109 :: Lib.decDigits k).toArray⟩
def kmtR (k : Nat) : List UInt8 := if k = 0 then [] else Lib.decDigits k
theorem kmtR_step {k : Nat} (h : 0 < k) : kmtR k = kmtR (k / 10) ++ [UInt8.ofNat (48 + k % 10)] := by
  unfold kmtR
  rw [if_neg (by omega)]
  by_cases h9 : k < 10
  · rw [if_pos (by omega), kdec_small h9, List.nil_append, Nat.mod_eq_of_lt h9]
  · rw [if_neg (by omega), kdec_big h9]
theorem kmtB_size {k : Nat} (h : k ≤ 1000000000000000000) : (kmtB k).size ≤ 20 := by
  have := kdec_len h
  show (109 :: Lib.decDigits k).toArray.size ≤ 20
  simp; omega
set_option maxRecDepth 100000 in
set_option maxHeartbeats 4000000 in
theorem kmarktext_any (n : Nat) (w : World) (h0 : 0 < n) (hn : n ≤ 1000000000000000000) :
    Calls Try.prog 118 #[.int .i64 n] w fun e w' => e = .returned (.string (kmtB n)) ∧ Below w.heap.size w w' := by
  have hL := kdec_len hn
  have hR : kmtR n = Lib.decDigits n := by unfold kmtR; rw [if_neg (by omega)]
  unfold kmtB
  rw [← hR]
  have hL2 : (kmtR n).length ≤ 19 := by rw [hR]; exact hL
  clear hL hR
  have HL := hid (rfl : kmtR n = kmtR n)
  generalize hq : kmtR n = L at hL2 ⊢
  rw [hq] at HL
  have HQ := hid hq; clear hq HL
  have hd0 : decide (n = 0) = false := by simp; omega
  go_enter Try.func118, Try.ntmps118
  go_wp2
  go_loopw [0, 3] (fun a o wr => ∃ (k : Nat) (l : List UInt8), k ≤ n ∧ a = .int .i64 k ∧ o = .string ⟨l.toArray⟩ ∧ kmtR k ++ l = L ∧ Below w.heap.size w wr) (fun a _ _ => (intOf a).toNat)
  case atStart => exact ⟨n, [], Nat.le_refl _, rfl, rfl, by rw [List.append_nil]; exact HQ.out, Below.refl _ _⟩
  case round =>
    obtain ⟨k, l, hk, rfl, rfl, hd, hb⟩ := hrel
    have hl : l.length ≤ 19 := by have h1 := congrArg List.length hd; rw [List.length_append] at h1; omega
    have HD := hid hd; clear hd
    have HB := hid hb; clear hb
    generalize hs : (⟨l.toArray⟩ : ByteArray) = s
    have HS := hid hs; clear hs
    have hz : s.size ≤ 19 := by rw [← HS.out]; exact hl
    by_cases h9 : k < 1
    · go_wp2
      go_ret
      refine ⟨?_, HB.out⟩
      have h00 : k = 0 := by omega
      rw [← HS.out, kcat_cons, ← HD.out, h00]
      rfl
    · have hk10 : k / 10 ≤ n := by omega
      have hd := kdigit_str wr (k % 10) (by omega)
      generalize hc : UInt8.ofNat (48 + k % 10) = c at hd
      have HC := hid hc; clear hc
      go_wp2
      rw [show (48 + (k : Int) % 10) = 48 + ((k % 10 : Nat) : Int) by omega]
      rw [hd]
      go_wp2
      go_roundw
      case measure =>
        show ((k : Int) / 10).toNat < (k : Int).toNat
        omega
      refine ⟨k / 10, c :: l, hk10, ?_, ?_, ?_, (btr HB.out (bal (Below.refl _ _) _))⟩
      · show Value.int IntKind.i64 ((k : Int) / 10) = Value.int IntKind.i64 ((k / 10 : Nat) : Int)
        rw [show ((k : Int) / 10) = ((k / 10 : Nat) : Int) by omega]
      · rw [← HS.out, kcat_cons]
      · rw [← HD.out, kmtR_step (k := k) (by omega), HC.out, List.append_assoc]
        rfl
end Go.Proofs.Ytanfljajafelgaa

namespace Go.Proofs.Ytanfljajafelgaa
set_option linter.unusedVariables false
set_option linter.unusedSimpArgs false
open Go.RowKit
/-- the mark at the i-th part -/
def mkAt (kid : Nat → Tm) (k i : Nat) : Nat := k + sumT i (fun i => tSz (kid i))
/-- the parts of a term marked from k on -/
def mkT : Tm → Nat → Tm
  | .mk nm n kid, k => .mk nm n (fun i => .mk (kmtB (k + sumT i (fun i => tSz (kid i)))) (mkT (kid i) (k + sumT i (fun i => tSz (kid i)) + 1)).n (mkT (kid i) (k + sumT i (fun i => tSz (kid i)) + 1)).kid)
  | .bad, _ => .bad
theorem mkT_n (t : Tm) (k : Nat) : (mkT t k).n = t.n := by cases t <;> rfl
theorem SepT.wrt {w w' : World} {t : Tm} {lo hi lo' hi' : Nat} {A : Option Addr} (h : SepT w t lo hi A) (hw : Wrt lo' hi' w w') (hd : hi ≤ lo' ∨ hi' ≤ lo) : SepT w' t lo hi A :=
  h.keep fun g cs h1 h2 hg => (hw.block g (Array.getElem?_eq_some_iff.1 hg).1 (by omega)).trans hg
theorem SepT.row {w : World} {nm : ByteArray} {n lo hi : Nat} {kid : Nat → Tm} {A : Option Addr} (h : SepT w (.mk nm n kid) lo hi A) (hn : 0 < n) : ∃ (g off m : Nat) (fr : Nat → Value) (L H : Nat → Nat) (f : Nat → Option Addr × Nat), A = some ⟨g, off, none⟩ ∧ lo ≤ g ∧ g < hi ∧ off + n * 2 ≤ m ∧ w.rowIs g 76 m fr ∧ ∀ k, k < n → lo ≤ L k ∧ L k ≤ H k ∧ H k ≤ hi ∧ (g < L k ∨ H k ≤ g) ∧ (∀ j, k < j → j < n → H k ≤ L j) ∧ fr (off + k * 2) = .string (kid k).nm ∧ fr (off + k * 2 + 1) = .slice (f k).1 (kid k).n (f k).2 ∧ (kid k).n ≤ (f k).2 ∧ (f k).2 ≤ 9223372036854775807 ∧ SepT w (kid k) (L k) (H k) (f k).1 := by
  rcases h with h | ⟨g, off, cs, L, H, ha, h1, h2, hg, hc⟩
  · omega
  have hc' : ∀ k, ∃ p : Option Addr × Nat, k < n → cs[off + k * 2]? = some (.string (kid k).nm) ∧ cs[off + k * 2 + 1]? = some (.slice p.1 (kid k).n p.2) ∧ (kid k).n ≤ p.2 ∧ p.2 ≤ 9223372036854775807 ∧ SepT w (kid k) (L k) (H k) p.1 := fun k => by
    by_cases hk : k < n
    · obtain ⟨_, _, _, _, _, a, c, e0, e1, e2, e3, e4⟩ := hc k hk
      exact ⟨(a, c), fun _ => ⟨e0, e1, e2, e3, e4⟩⟩
    · exact ⟨(none, 0), fun h => absurd h hk⟩
  obtain ⟨f, hf⟩ := Classical.axiomOfChoice hc'
  have hm : off + n * 2 ≤ cs.size := by
    obtain ⟨_, e1, _⟩ := hf (n - 1) (by omega)
    have := (Array.getElem?_eq_some_iff.1 e1).1
    omega
  refine ⟨g, off, cs.size, fun i => cs.getD i undef, L, H, f, ha, h1, h2, hm, ⟨cs, hg, rfl, fun i hi => by simp [hi]⟩, fun k hk => ?_⟩
  obtain ⟨q1, q2, q3, q4, q5, _⟩ := hc k hk
  obtain ⟨e0, e1, e2, e3, e4⟩ := hf k hk
  exact ⟨q1, q2, q3, q4, q5, by simp [Array.getD_eq_getD_getElem?, e0], by simp [Array.getD_eq_getD_getElem?, e1], e2, e3, e4⟩
theorem SepT.of_row {w : World} {nm : ByteArray} {n lo hi g off m : Nat} {kid : Nat → Tm} {fr : Nat → Value} {L H : Nat → Nat} {f : Nat → Option Addr × Nat} (h1 : lo ≤ g) (h2 : g < hi) (hm : off + n * 2 ≤ m) (hr : w.rowIs g 76 m fr) (h : ∀ k, k < n → lo ≤ L k ∧ L k ≤ H k ∧ H k ≤ hi ∧ (g < L k ∨ H k ≤ g) ∧ (∀ j, k < j → j < n → H k ≤ L j) ∧ fr (off + k * 2) = .string (kid k).nm ∧ fr (off + k * 2 + 1) = .slice (f k).1 (kid k).n (f k).2 ∧ (kid k).n ≤ (f k).2 ∧ (f k).2 ≤ 9223372036854775807 ∧ SepT w (kid k) (L k) (H k) (f k).1) : SepT w (.mk nm n kid) lo hi (some ⟨g, off, none⟩) := by
  obtain ⟨arr, hb, hs, ha⟩ := hr
  refine .inr ⟨g, off, arr, L, H, rfl, h1, h2, hb, fun k hk => ?_⟩
  obtain ⟨q1, q2, q3, q4, q5, e0, e1, e2, e3, e4⟩ := h k hk
  exact ⟨q1, q2, q3, q4, q5, (f k).1, (f k).2, by rw [ha _ (by omega), e0], by rw [ha _ (by omega), e1], e2, e3, e4⟩
end Go.Proofs.Ytanfljajafelgaa

namespace Go.Proofs.Ytanfljajafelgaa
set_option linter.unusedVariables false
set_option linter.unusedSimpArgs false
open Go.RowKit
/-- the part i when the first j are marked -/
def mkK (kid : Nat → Tm) (k j i : Nat) : Tm := if i < j then .mk (kmtB (mkAt kid k i)) (mkT (kid i) (mkAt kid k i + 1)).n (mkT (kid i) (mkAt kid k i + 1)).kid else kid i
theorem mkK_n (kid : Nat → Tm) (k j i : Nat) : (mkK kid k j i).n = (kid i).n := by
  unfold mkK; split
  · exact mkT_n _ _
  · rfl
theorem mkAt_succ (kid : Nat → Tm) (k j : Nat) : mkAt kid k (j + 1) = mkAt kid k j + tSz (kid j) := by
  unfold mkAt
  have : sumT (j + 1) (fun i => tSz (kid i)) = sumT j (fun i => tSz (kid i)) + tSz (kid j) := rfl
  omega
theorem mkAt_mono (kid : Nat → Tm) (k : Nat) {j n : Nat} (h : j ≤ n) : mkAt kid k j ≤ mkAt kid k n := by
  unfold mkAt
  have := sumT_mono (f := fun i => tSz (kid i)) h
  omega
set_option maxRecDepth 100000 in
set_option maxHeartbeats 8000000 in
theorem markterms_any : ∀ (t : Tm) (lo hi : Nat) (A : Option Addr) (c k : Nat) (w : World), t.n ≤ 1048576 → 0 < k → k + tSz t ≤ 1000000000000001 → Fits 1048576 t → SepT w t lo hi A →
    Calls Try.prog 42 #[.slice A t.n c, .int .i64 (k : Int)] w fun e w' => e = .returned (.int .i64 ((k + tSz t - 1 : Nat) : Int)) ∧ SepT w' (mkT t k) lo hi A ∧ Wrt lo hi w w' := by
  intro t
  induction t with
  | bad => intro lo hi A c k w _ _ _ _ h; exact False.elim h
  | mk nm n kid ih =>
    intro lo hi A c k w hn hk0 hk hF h
    have hn' : n ≤ 1048576 := hn
    show Calls _ _ #[.slice A n c, .int .i64 (k : Int)] w _
    rw [tSz] at hk ⊢
    have hkn : k + (1 + sumT n (fun i => tSz (kid i))) - 1 = mkAt kid k n := by unfold mkAt; omega
    rw [hkn]
    have hkb : mkAt kid k n ≤ 1000000000000000 := by unfold mkAt; omega
    clear hkn hk
    by_cases hn0 : n = 0
    · subst hn0
      go_enter Try.func42, Try.ntmps42
      go_wp2
      refine wp_loop_rounds 1 ?_
      rw [rounds_succ]
      go_wp2
      go_ret
      exact ⟨rfl, .inl rfl, Wrt.refl _ _ _⟩
    obtain ⟨g, off, m, fr, L, H, f, rfl, g1, g2, hm, hr, hc⟩ := h.row (by omega)
    have HC := hid hc; have IH := hid ih; have HF := hid hF.2.2; have HB := hid hkb
    clear hc ih hF hkb h hn
    have hst := hid (show ∀ i, i < n → fr (off + i * 2) = .string (mkK kid k 0 i).nm ∧ fr (off + i * 2 + 1) = .slice (f i).1 (kid i).n (f i).2 ∧ SepT w (mkK kid k 0 i) (L i) (H i) (f i).1 from fun i hi => by
      obtain ⟨_, _, _, _, _, e0, e1, _, _, e4⟩ := HC.out i hi
      exact ⟨e0, e1, e4⟩)
    go_enter Try.func42, Try.ntmps42
    go_wp2
    go_loopw [1, 5] (fun q i wr => ∃ (j : Nat) (fr : Nat → Value), j ≤ n ∧ i = .int .i64 j ∧ q = .int .i64 (mkAt kid k j) ∧ Wrt lo hi w wr ∧ wr.rowIs g 76 m fr ∧ ∀ i, i < n → fr (off + i * 2) = .string (mkK kid k j i).nm ∧ fr (off + i * 2 + 1) = .slice (f i).1 (kid i).n (f i).2 ∧ SepT wr (mkK kid k j i) (L i) (H i) (f i).1) (fun _ i _ => n - (intOf i).toNat)
    case atStart => exact ⟨0, fr, Nat.zero_le _, rfl, rfl, Wrt.refl _ _ _, hr, hst.out⟩
    case round =>
      obtain ⟨j, fr1, hj, rfl, rfl, hw, hr1, ho⟩ := hrel
      have HO := hid ho; clear ho hst hr
      by_cases hlt : j < n
      · have hb1 : mkAt kid k j ≤ 1000000000000000 := Nat.le_trans (mkAt_mono kid k hj) HB.out
        have hs1 := mkAt_succ kid k j
        have hb2 : mkAt kid k (j + 1) ≤ 1000000000000000 := Nat.le_trans (mkAt_mono kid k hlt) HB.out
        have hp1 : 0 < mkAt kid k j := by unfold mkAt; omega
        obtain ⟨q1, q2, q3, q4, q5, _, _, q6, q7, q8⟩ := HC.out j hlt
        obtain ⟨o1, o2, o3⟩ := HO.out j hlt
        have hKj : mkK kid k j j = kid j := by unfold mkK; rw [if_neg (by omega)]
        rw [hKj] at o1 o3
        have hM := kmarktext_any (mkAt kid k j) wr hp1 (by omega)
        have hIH := fun (W : World) (h : SepT W (kid j) (L j) (H j) (f j).1) => IH.out j (L j) (H j) (f j).1 (f j).2 (mkAt kid k j + 1) W (HF.out j hlt).n (by omega) (by omega) (HF.out j hlt) h
        rw [show mkAt kid k j + 1 + tSz (kid j) - 1 = mkAt kid k (j + 1) by omega, show ((mkAt kid k j + 1 : Nat) : Int) = (mkAt kid k j : Int) + 1 by omega] at hIH
        have Q := hid (⟨q1, q2, q3, q4, q5⟩ : lo ≤ L j ∧ L j ≤ H j ∧ H j ≤ hi ∧ (g < L j ∨ H j ≤ g) ∧ (∀ m, j < m → m < n → H j ≤ L m))
        have O3 := hid o3; have HS1 := hid hs1
        clear q1 q2 q3 q4 q5 q8 o3 hs1 hKj
        go_wp2_with (go_at_call 118; refine hM.mono ?_; rintro e w3 ⟨rfl, hq⟩; have hr3 := row_below hr1 hq; have d0 := hr3.cell (i := off + j * 2) (by omega); have d1 := hr3.cell (i := off + j * 2 + 1) (by omega); rw [o1] at d0; rw [o2] at d1; have e0 : w3.frozen? ⟨g, off + j * 2, none⟩ = false := hr3.frozen _)
        have hgl := hr3.lt
        have hr4 := hr3.set (off + j * 2) (.string (kmtB (mkAt kid k j)))
        have hgq := Q.out.2.2.2.1
        have hS4 : SepT (w3.setCell ⟨g, off + j * 2, none⟩ (.string (kmtB (mkAt kid k j)))) (kid j) (L j) (H j) (f j).1 := (O3.out.below hq).keep fun g' cs h1 h2 hg => (Deep.blk_setCell_other _ _ _ _ (by simp only; omega)).trans hg
        have hw4 : Wrt lo hi w (w3.setCell ⟨g, off + j * 2, none⟩ (.string (kmtB (mkAt kid k j)))) := (hw.trans ⟨hq.os, hq.tape, hq.output, hq.size, fun k hk _ => hq.block k hk⟩).trans ⟨rfl, rfl, rfl, by simp [World.setCell], fun i hi hx => Deep.blk_setCell_other _ _ _ _ (by simp only; omega)⟩
        have ho4 : ∀ i, i < n → SepT (w3.setCell ⟨g, off + j * 2, none⟩ (.string (kmtB (mkAt kid k j)))) (mkK kid k j i) (L i) (H i) (f i).1 := fun i hi => by
          obtain ⟨_, _, _, z4, _⟩ := HC.out i hi
          exact ((HO.out i hi).2.2.below hq).keep fun g' cs h1 h2 hg => (Deep.blk_setCell_other _ _ _ _ (by simp only; omega)).trans hg
        have HO4 := hid ho4; have HW4 := hid hw4; have HR4 := hid hr4
        clear hr3 hr4 ho4 hw4 hM d0 d1 e0 hq
        refine (hIH _ hS4).mono ?_
        rintro e w5 ⟨rfl, hS5, hW5⟩
        clear hIH hS4
        have hr5 := HR4.out.of_block (hW5.block g HR4.out.lt hgq)
        have HR5 := hid hr5; clear hr5 hr1
        go_wp2
        go_roundw
        case rel =>
          refine ⟨j + 1, _, by omega, by go_num, rfl, HW4.out.trans ⟨hW5.os, hW5.tape, hW5.output, hW5.size, fun i hi hx => hW5.block i hi (by have := Q.out; omega)⟩, HR5.out, fun i hi => ?_⟩
          obtain ⟨y1, y2, y3⟩ := HO.out i hi
          by_cases e : i = j
          · subst e
            have eK : mkK kid k (i + 1) i = .mk (kmtB (mkAt kid k i)) (mkT (kid i) (mkAt kid k i + 1)).n (mkT (kid i) (mkAt kid k i + 1)).kid := by unfold mkK; rw [if_pos (Nat.lt_succ_self i)]
            rw [eK]
            refine ⟨by simp [Tm.nm], ?_, hS5.nm _⟩
            rw [if_neg (by omega)]; exact y2
          · have eK : mkK kid k (j + 1) i = mkK kid k j i := by
              unfold mkK
              by_cases e2 : i < j
              · rw [if_pos e2, if_pos (by omega)]
              · rw [if_neg e2, if_neg (by omega)]
            rw [eK]
            refine ⟨by rw [if_neg (by omega)]; exact y1, by rw [if_neg (by omega)]; exact y2, (HO4.out i hi).wrt hW5 ?_⟩
            obtain ⟨_, _, _, _, z5, _⟩ := HC.out i hi
            by_cases e2 : i < j
            · exact .inl (z5 j e2 hlt)
            · exact .inr (Q.out.2.2.2.2 i (by omega) hi)
        case measure => simp [intOf]; omega
      · have hje : j = n := by omega
        subst hje
        go_wp2
        go_ret
        refine ⟨rfl, SepT.of_row (L := L) (H := H) (f := f) g1 g2 hm hr1 fun i hi => ?_, hw⟩
        obtain ⟨q1, q2, q3, q4, q5, _, _, q6, q7, _⟩ := HC.out i hi
        obtain ⟨o1, o2, o3⟩ := HO.out i hi
        have eK : mkK kid k j i = .mk (kmtB (mkAt kid k i)) (mkT (kid i) (mkAt kid k i + 1)).n (mkT (kid i) (mkAt kid k i + 1)).kid := by unfold mkK; rw [if_pos hi]
        rw [eK] at o1 o3
        have en := mkT_n (kid i) (mkAt kid k i + 1)
        exact ⟨q1, q2, q3, q4, q5, o1, by rw [o2]; exact congrArg (fun n => Value.slice (f i).1 n (f i).2) en.symm, Nat.le_trans (Nat.le_of_eq en) q6, q7, o3⟩
end Go.Proofs.Ytanfljajafelgaa

namespace Go.Proofs.Ytanfljajafelgaa
set_option linter.unusedVariables false
set_option linter.unusedSimpArgs false
open Go.RowKit
set_option maxRecDepth 100000 in
set_option maxHeartbeats 8000000 in
theorem heldterms_any : ∀ (t : Tm) (A : Option Addr) (c k : Nat) (w : World), t.n ≤ 1048576 → 0 < k → k + tSz t ≤ 1000000000000001 → Fits 1048576 t → Kids 0 w (mkT t k) A →
    Calls Try.prog 44 #[.slice A t.n c, .int .i64 (k : Int)] w fun e w' => e = .returned (.int .i64 ((k + tSz t - 1 : Nat) : Int)) ∧ Below w.heap.size w w' := by
  intro t
  induction t with
  | bad => intro A c k w _ _ _ h; exact False.elim h
  | mk nm n kid ih =>
    intro A c k w hn hk0 hk hF hA
    have hn' : n ≤ 1048576 := hn
    show Calls _ _ #[.slice A n c, .int .i64 (k : Int)] w _
    rw [tSz] at hk ⊢
    have hkn : k + (1 + sumT n (fun i => tSz (kid i))) - 1 = mkAt kid k n := by unfold mkAt; omega
    rw [hkn]
    have hkb : mkAt kid k n ≤ 1000000000000000 := by unfold mkAt; omega
    have IH := hid ih; have HF := hid hF.2.2; have HB := hid hkb
    have hA' : n = 0 ∨ ∃ g off, A = some ⟨g, off, none⟩ ∧ 0 ≤ g ∧ g < w.heap.size ∧ ∀ i, i < n → ∃ a c, w.cell? ⟨g, off + i * 2, none⟩ = some (.string (kmtB (mkAt kid k i))) ∧ w.cell? ⟨g, off + i * 2 + 1, none⟩ = some (.slice a (mkT (kid i) (mkAt kid k i + 1)).n c) ∧ Kids 0 w (.mk (kmtB (mkAt kid k i)) (mkT (kid i) (mkAt kid k i + 1)).n (mkT (kid i) (mkAt kid k i + 1)).kid) a := hA
    clear hkn hk ih hF hkb hn hA
    go_enter Try.func44, Try.ntmps44
    go_wp2
    go_loopw [1, 5] (fun q i wr => ∃ j : Nat, j ≤ n ∧ i = .int .i64 j ∧ q = .int .i64 (mkAt kid k j) ∧ Below w.heap.size w wr) (fun _ i _ => n - (intOf i).toNat)
    case atStart => exact ⟨0, Nat.zero_le _, rfl, rfl, Below.refl _ _⟩
    case round =>
      obtain ⟨j, hj, rfl, rfl, hb⟩ := hrel
      by_cases hlt : j < n
      · have hb1 : mkAt kid k j ≤ 1000000000000000 := Nat.le_trans (mkAt_mono kid k hj) HB.out
        have hs1 := mkAt_succ kid k j
        have hb2 : mkAt kid k (j + 1) ≤ 1000000000000000 := Nat.le_trans (mkAt_mono kid k hlt) HB.out
        have hp1 : 0 < mkAt kid k j := by unfold mkAt; omega
        rcases hA' with h0 | ⟨g, off, rfl, _, hg, hc⟩
        · omega
        obtain ⟨a, cc, a0, a1, hI⟩ := hc j hlt
        clear hc
        rw [mkT_n] at a1
        have hI' : Kids 0 w (mkT (kid j) (mkAt kid k j + 1)) a := by
          have hFj := HF.out j hlt
          cases hkj : kid j with
          | bad => rw [hkj] at hFj; exact False.elim hFj
          | mk nm2 n2 kid2 => rw [hkj] at hI; exact hI
        have gg : g < wr.heap.size := Nat.lt_of_lt_of_le hg hb.size
        replace a0 := carry hb a0
        replace a1 := carry hb a1
        replace hI' := hI'.below hb
        have hT := fun X : Gro wr => kmarktext_any (mkAt kid k j) (gro wr X) (by omega) (by omega)
        have hH := fun W (h : Below wr.heap.size wr W) => IH.out j a cc (mkAt kid k j + 1) W (HF.out j hlt).n (by omega) (by omega) (HF.out j hlt) (hI'.below h)
        rw [show mkAt kid k j + 1 + tSz (kid j) - 1 = mkAt kid k (j + 1) by omega, show ((mkAt kid k j + 1 : Nat) : Int) = (mkAt kid k j : Int) + 1 by omega] at hH
        have HZ := hid hs1
        generalize mkAt kid k j = q at hT hb1 hs1 a0 hH hp1 HZ ⊢
        generalize mkAt kid k (j + 1) = q2 at hs1 hb2 hH
        generalize kmtB q = mt at hT a0
        have d1 : (mt.toList == mt.toList) = true := by simp
        have d2 : decide ((q2 : Int) < 0) = false := by simp
        have A1 := hid a1
        clear a1 hI hI'
        have gc := @gro_cell wr
        go_upto_region 4 with fail
        refine wp_region_grow_lit (by kernel_rfl) (by kernel_rfl) ?_
        repeat (go_big_quiet_step ((go_at_call 118; exact grow_call _ (hT _))))
        refine wpQuiet_nil ?_
        rintro w1 ⟨⟨_, hX⟩, rfl⟩
        clear gc hT a0
        have a1 := carry hX A1.out
        have gg1 : g < w1.heap.size := Nat.lt_of_lt_of_le gg hX.size
        have HX := hid hX
        go_wp2_with fail
        refine (hH _ HX.out).mono ?_
        rintro e w2 ⟨rfl, hq2⟩
        clear a1 hH
        go_wp2_with fail
        go_roundw
        case rel => exact ⟨j + 1, by omega, by go_num, by rw [HZ.out]; go_num, btr (btr hb HX.out) hq2⟩
        case measure => simp [intOf]; omega
      · have hje : j = n := by omega
        subst hje
        go_wp2
        go_ret
        exact ⟨rfl, hb⟩
end Go.Proofs.Ytanfljajafelgaa

namespace Go.Proofs.Ytanfljajafelgaa
set_option linter.unusedVariables false
set_option linter.unusedSimpArgs false
open Go.RowKit
/-- a term of new memory, handed back -/
def NewS (W : World) (t : Tm) (e : Ending) (w' : World) : Prop :=
  ∃ A, e = .returned (.agg #[.string t.nm, .slice A t.n t.n]) ∧ SepT w' t W.heap.size w'.heap.size A ∧ Below W.heap.size W w'
/-- a list of terms of new memory, handed back -/
def NewSs (W : World) (n : Nat) (kid : Nat → Tm) (e : Ending) (w' : World) : Prop :=
  ∃ A, e = .returned (.slice A n n) ∧ (∃ g, A = some ⟨g, 0, none⟩) ∧ (∀ nm, SepT w' (.mk nm n kid) W.heap.size w'.heap.size A) ∧ Below W.heap.size W w'
set_option maxRecDepth 100000 in
set_option maxHeartbeats 4000000 in
theorem totermsS_of (n : Nat) (kid : Nat → Tm) (hn : n ≤ 1048576) (hft : ∀ k, k < n → Fits 1048576 (kid k)) (IH : ∀ k, k < n → ∀ (a : Option Addr) (c : Nat) (W : World), Kids 0 W (kid k) a → Calls Try.prog 53 #[.agg #[.string (kid k).nm, .slice a (kid k).n c]] W (NewS W (kid k)))
    (nm : ByteArray) (A : Option Addr) (c : Nat) (w : World) (hA : Kids 0 w (.mk nm n kid) A) :
    Calls Try.prog 34 #[.slice A n c] w (NewSs w n kid) := by
  have hmk := run_make_terms n hn
  have hrow := rowIs_madeT w (n * 2) 76
  have hb0 : Below w.heap.size w (w.alloc (.cells (madeCells #[.string ⟨#[]⟩, .slice none 0 0] (n * 2)) 76)) := bal (Below.refl _ _) _
  have HFt := hid hft; clear hft
  have HI := hid IH; clear IH
  go_enter Try.func34, Try.ntmps34
  go_wp2
  clear hmk
  go_loopw [4] (fun i wr => ∃ (q : Nat) (f : Nat → Option Addr × Nat) (L H : Nat → Nat), q ≤ n ∧ i = .int .i64 q ∧ Below w.heap.size w wr ∧ wr.rowIs w.heap.size 76 (n * 2) (fun j => if j < q * 2 then pV f kid j else zeroT j) ∧ ∀ j, j < q → w.heap.size + 1 ≤ L j ∧ L j ≤ H j ∧ H j ≤ wr.heap.size ∧ (∀ m, j < m → m < q → H j ≤ L m) ∧ (kid j).n ≤ (f j).2 ∧ (f j).2 ≤ 9223372036854775807 ∧ SepT wr (kid j) (L j) (H j) (f j).1) (fun i _ => n - (intOf i).toNat)
  case atStart => exact ⟨0, fun _ => (none, 0), fun _ => 0, fun _ => 0, Nat.zero_le _, rfl, hb0, hrow.congr fun i hi => by simp, fun j hj => absurd hj (Nat.not_lt_zero _)⟩
  case round =>
    obtain ⟨q, f, L, H, hqk, rfl, hb, hr, ho⟩ := hrel
    have HO := hid ho; clear ho
    clear hrow hb0
    by_cases hlt : q < n
    · rcases hA with h0 | ⟨g, off, rfl, _, hg, hcA⟩
      · omega
      obtain ⟨a, ca, a0, a1, hI⟩ := hcA q hlt
      have gg : g < wr.heap.size := Nat.lt_of_lt_of_le hg hb.size
      replace a0 := carry hb a0
      replace a1 := carry hb a1
      replace hI := hI.below hb
      have hS : w.heap.size < wr.heap.size := hr.lt
      clear hcA
      have hT := HI.out q hlt a ca wr hI
      clear hI
      go_wp2_with (go_at_call 53; refine hT.mono ?_; rintro e w3 ⟨A3, rfl, hS3, hq3⟩; have hr1 := row_below hr hq3; have d0 : w3.cell? ⟨w.heap.size, q * 2, none⟩ = some (.string ⟨#[]⟩) := ((hr1.cell (by omega)).trans (by rw [if_neg (by omega)]; unfold zeroT; rw [if_pos (by omega)])); have d1 : w3.cell? ⟨w.heap.size, q * 2 + 1, none⟩ = some (.slice none 0 0) := ((hr1.cell (by omega)).trans (by rw [if_neg (by omega)]; unfold zeroT; rw [if_neg (by omega)])); have e0 : w3.frozen? ⟨w.heap.size, q * 2, none⟩ = false := hr1.frozen _; have e1 : w3.frozen? ⟨w.heap.size, q * 2 + 1, none⟩ = false := hr1.frozen _)
      go_roundw
      case rel =>
        have hsz3 := hq3.size
        have hfn := (HFt.out q hlt).n
        have hss : ((w3.setCell ⟨w.heap.size, q * 2, none⟩ (.string (kid q).nm)).setCell ⟨w.heap.size, q * 2 + 1, none⟩ (.slice A3 (kid q).n (kid q).n)).heap.size = w3.heap.size := by simp [World.setCell]
        have hkp : ∀ {t : Tm} {l h : Nat} {A : Option Addr}, w.heap.size + 1 ≤ l → SepT w3 t l h A → SepT ((w3.setCell ⟨w.heap.size, q * 2, none⟩ (.string (kid q).nm)).setCell ⟨w.heap.size, q * 2 + 1, none⟩ (.slice A3 (kid q).n (kid q).n)) t l h A := fun hl hs => hs.keep fun g cs h1 h2 hg => (Deep.blk_setCell_other _ _ _ _ (by simp only; omega)).trans ((Deep.blk_setCell_other _ _ _ _ (by simp only; omega)).trans hg)
        refine ⟨q + 1, fun i => if i = q then (A3, (kid q).n) else f i, fun i => if i = q then wr.heap.size else L i, fun i => if i = q then w3.heap.size else H i, by omega, by go_num, bst (bst (btr hb hq3) (Nat.le_refl _) _) (Nat.le_refl _) _, ((hr1.set (q * 2) _).set (q * 2 + 1) _).congr fun j hj => ?_, fun j hj => ?_⟩
        · by_cases eb : j = q * 2 + 1
          · subst eb; rw [if_pos rfl, if_pos (by omega), pV_1]; simp
          · rw [if_neg eb]
            by_cases ea : j = q * 2
            · subst ea; rw [if_pos rfl, if_pos (by omega), pV_0]
            · rw [if_neg ea]
              by_cases e2 : j < q * 2
              · rw [if_pos e2, if_pos (by omega), pV_old (by omega)]
              · rw [if_neg e2, if_neg (by omega)]
        · rw [hss]
          by_cases e : j = q
          · subst e
            simp only [if_true]
            exact ⟨hS, hsz3, Nat.le_refl _, fun m h1 h2 => by omega, Nat.le_refl _, by omega, hkp hS hS3⟩
          · obtain ⟨h1, h2, h3, h4, h5, h6, h7⟩ := HO.out j (by omega)
            simp only [if_neg e]
            refine ⟨h1, h2, Nat.le_trans h3 hsz3, fun m g1 g2 => ?_, h5, h6, hkp h1 (h7.below hq3)⟩
            by_cases e3 : m = q
            · rw [if_pos e3]; exact h3
            · rw [if_neg e3]; exact h4 m g1 (by omega)
      case measure => simp [intOf]; omega
    · have hke : q = n := by omega
      subst hke
      go_wp2
      go_ret
      obtain ⟨arr, hblk, hasz, hac⟩ := hr
      refine ⟨_, rfl, ⟨_, rfl⟩, fun nm' => .inr ⟨w.heap.size, 0, arr, L, H, rfl, Nat.le_refl _, (Array.getElem?_eq_some_iff.1 hblk).1, hblk, fun j hj => ?_⟩, hb⟩
      obtain ⟨h1, h2, h3, h4, h5, h6, h7⟩ := HO.out j hj
      refine ⟨Nat.le_of_succ_le h1, h2, h3, .inl h1, h4, (f j).1, (f j).2, ?_, ?_, h5, h6, h7⟩
      · rw [Nat.zero_add, hac _ (by omega)]
        show some (if j * 2 < q * 2 then pV f kid (j * 2) else zeroT (j * 2)) = _
        rw [if_pos (by omega), pV_0]
      · rw [Nat.zero_add, hac _ (by omega)]
        show some (if j * 2 + 1 < q * 2 then pV f kid (j * 2 + 1) else zeroT (j * 2 + 1)) = _
        rw [if_pos (by omega), pV_1]
set_option maxHeartbeats 2000000 in
theorem totermS_any : ∀ (t : Tm), Fits 1048576 t → ∀ (A : Option Addr) (c : Nat) (w : World), Kids 0 w t A →
    Calls Try.prog 53 #[.agg #[.string t.nm, .slice A t.n c]] w (NewS w t) := by
  intro t
  induction t with
  | bad => intro h; exact False.elim h
  | mk nm n kid ih =>
    rintro ⟨hm, hn, hf⟩ A c w hA
    show Calls _ _ #[.agg #[.string nm, .slice A n c]] w _
    have hT := fun W (hb : Below w.heap.size w W) => totermsS_of n kid hn hf (fun k hk a c W h => ih k (hf k hk) a c W h) nm A c W (hA.below hb)
    clear ih hf hA
    go_enter Try.func53, Try.ntmps53
    go_wp2_with fail
    refine (hT _ (bal (bal (bal (Below.refl _ _) _) _) _)).mono ?_
    rintro e w1 ⟨A', rfl, _, hO, hq⟩
    obtain ⟨hc, hfz⟩ := bcell hq
    clear hT
    go_wp2
    have e0 : w1.cell? ⟨w.heap.size + 1, 0, none⟩ = some (.string ⟨#[]⟩) := by rw [hc _ _ (by simp <;> omega)]; simp [go_sem]
    have e1 : w1.cell? ⟨w.heap.size + 1, 1, none⟩ = some (.slice none 0 0) := by rw [hc _ _ (by simp <;> omega)]; simp [go_sem]
    have f0 : (w1.setCell ⟨w.heap.size + 1 + 1, 1, none⟩ (.slice A' n n)).cell? ⟨w.heap.size + 1, 0, none⟩ = some (.string ⟨#[]⟩) := by rw [World.cell?_setCell_other _ _ _ _ (by simp)]; exact e0
    have f1 : (w1.setCell ⟨w.heap.size + 1 + 1, 1, none⟩ (.slice A' n n)).cell? ⟨w.heap.size + 1, 1, none⟩ = some (.slice none 0 0) := by rw [World.cell?_setCell_other _ _ _ _ (by simp)]; exact e1
    obtain ⟨t0, t1⟩ := set2 f0 f1 (.string nm) (.slice A' n n)
    clear hc hfz
    have hO2 : SepT (((w1.setCell ⟨w.heap.size + 1 + 1, 1, none⟩ (.slice A' n n)).setCell ⟨w.heap.size + 1, 0, none⟩ (.string nm)).setCell ⟨w.heap.size + 1, 1, none⟩ (.slice A' n n)) (.mk nm n kid) (w.heap.size + 3) w1.heap.size A' := by
      refine SepT.keep (fun g cs h1 h2 hg => (Deep.blk_setCell_other _ _ _ _ (by simp only; omega)).trans ((Deep.blk_setCell_other _ _ _ _ (by simp only; omega)).trans ((Deep.blk_setCell_other _ _ _ _ (by simp only; omega)).trans hg))) ((hO nm).mono (by simp) (Nat.le_refl _))
    refine bodyPost_ret (v := .agg #[.string nm, .slice A' n n]) (by simp [results, Try.results53, go_sem, t0, t1]) rfl ⟨A', rfl, hO2.mono (by omega) (by simp [World.setCell]), ?_⟩
    clear t0 t1 e0 e1 f0 f1 hO hO2
    (repeat first | with_reducible exact Below.refl _ _ | with_reducible assumption | with_reducible refine Below.drew ?_ | with_reducible refine bdn ?_ _ | with_reducible refine bal ?_ _ | (with_reducible refine bst ?_ ?_ _; rotate_left; (simp <;> omega)) | (with_reducible refine btr ?_ (by with_reducible assumption)))
theorem toterms_S (n : Nat) (kid : Nat → Tm) (hn : n ≤ 1048576) (hF : ∀ k, k < n → Fits 1048576 (kid k)) (A : Option Addr) (c : Nat) (w : World) (hA : Kids 0 w (.mk ⟨#[]⟩ n kid) A) :
    Calls Try.prog 34 #[.slice A n c] w (NewSs w n kid) :=
  totermsS_of n kid hn hF (fun k hk a c W h => totermS_any (kid k) (hF k hk) a c W h) ⟨#[]⟩ A c w hA
end Go.Proofs.Ytanfljajafelgaa
