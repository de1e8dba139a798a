/- Terms read in blocks of terms; contracts of the laws' copies of terms, which are such. -/
import Derived.Test.YtcnlolocppbcjaaTermB
namespace Go.Proofs.Ytcnlolocppbcjaa
set_option linter.unusedVariables false
set_option linter.unusedSimpArgs false
open Go.RowKit
/-- the parts of a term are read at A, in blocks of terms -/
def KidT (B : Nat) (w : World) : Tm → Option Addr → Prop
  | .mk _ n kid, A => n = 0 ∨ ∃ (g off : Nat) (cs : Array Value), A = some ⟨g, off, none⟩ ∧ B ≤ g ∧ w.heap[g]? = some (.cells cs 38 (0, 0)) ∧ ∀ k, k < n → ∃ a c, cs[off + k * 2]? = some (.string (kid k).nm) ∧ cs[off + k * 2 + 1]? = some (.slice a (kid k).n c) ∧ (kid k).n ≤ c ∧ c ≤ 9223372036854775807 ∧ KidT B w (kid k) a
  | .bad, _ => False
/-- w' has the blocks of terms that w has -/
def KpT (w w' : World) : Prop := ∀ (g : Nat) (cs : Array Value), w.heap[g]? = some (.cells cs 38 (0, 0)) → w'.heap[g]? = some (.cells cs 38 (0, 0))
theorem KpT.refl (w : World) : KpT w w := fun _ _ h => h
theorem KpT.trans {a b c : World} (h : KpT a b) (k : KpT b c) : KpT a c := fun g cs hg => k g cs (h g cs hg)
theorem KpT.below {w w' : World} (h : Below w.heap.size w w') : KpT w w' := fun g cs hg => (h.block g (Array.getElem?_eq_some_iff.1 hg).1).trans hg
theorem KidT.keep {B : Nat} {w w' : World} (hk : KpT w w') : ∀ {t : Tm} {A : Option Addr}, KidT B w t A → KidT B w' t A := by
  intro t
  induction t with
  | bad => intro A h; exact False.elim h
  | mk nm n kid ih =>
    rintro A (h | ⟨g, off, cs, ha, hB, hg, hc⟩)
    · exact .inl h
    · refine .inr ⟨g, off, cs, ha, hB, hk g cs hg, fun k hk => ?_⟩
      obtain ⟨a, c, h0, h1, h2, h3, h4⟩ := hc k hk
      exact ⟨a, c, h0, h1, h2, h3, ih k h4⟩
theorem KidT.kids {B : Nat} {w : World} : ∀ {t : Tm} {A : Option Addr}, KidT B w t A → Kids B w t A := by
  intro t
  induction t with
  | bad => intro A h; exact False.elim h
  | mk nm n kid ih =>
    rintro A (h | ⟨g, off, cs, ha, hB, hg, hc⟩)
    · exact .inl h
    · refine .inr ⟨g, off, ha, hB, (Array.getElem?_eq_some_iff.1 hg).1, fun k hk => ?_⟩
      obtain ⟨a, c, h0, h1, h2, h3, h4⟩ := hc k hk
      exact ⟨a, c, by simp [World.cell?, hg, h0], by simp [World.cell?, hg, h1], ih k h4⟩
theorem KidT.mono {B B' : Nat} {w : World} (hB : B' ≤ B) : ∀ {t : Tm} {A : Option Addr}, KidT B w t A → KidT B' w t A := by
  intro t
  induction t with
  | bad => intro A h; exact False.elim h
  | mk nm n kid ih =>
    rintro A (h | ⟨g, off, cs, ha, hb, hg, hc⟩)
    · exact .inl h
    · refine .inr ⟨g, off, cs, ha, Nat.le_trans hB hb, hg, fun k hk => ?_⟩
      obtain ⟨a, c, h0, h1, h2, h3, h4⟩ := hc k hk
      exact ⟨a, c, h0, h1, h2, h3, ih k h4⟩
theorem KidT.set {B p o : Nat} {w : World} (v : Value) (hp : p < B) : ∀ {t : Tm} {A : Option Addr}, KidT B w t A → KidT B (w.setCell ⟨p, o, none⟩ v) t A := by
  intro t
  induction t with
  | bad => intro A h; exact False.elim h
  | mk nm n kid ih =>
    rintro A (h | ⟨g, off, cs, ha, hB, hg, hc⟩)
    · exact .inl h
    · refine .inr ⟨g, off, cs, ha, hB, (Deep.blk_setCell_other _ _ _ _ (by simp only; omega)).trans hg, fun k hk => ?_⟩
      obtain ⟨a, c, h0, h1, h2, h3, h4⟩ := hc k hk
      exact ⟨a, c, h0, h1, h2, h3, ih k h4⟩
theorem KidT.nm {B : Nat} {w : World} {t : Tm} {A : Option Addr} (nm : ByteArray) (h : KidT B w t A) : KidT B w (.mk nm t.n t.kid) A := by
  cases t with
  | bad => exact False.elim h
  | mk => exact h
/-- a term of new memory, handed back -/
def NewP (W : World) (t : Tm) (e : Ending) (w' : World) : Prop :=
  ∃ A, e = .returned (.agg #[.string t.nm, .slice A t.n t.n]) ∧ KidT W.heap.size w' t A ∧ Below W.heap.size W w'
/-- a list of terms of new memory, handed back -/
def NewPs (W : World) (n : Nat) (kid : Nat → Tm) (e : Ending) (w' : World) : Prop :=
  ∃ A, e = .returned (.slice A n n) ∧ (∃ g, A = some ⟨g, 0, none⟩) ∧ (∀ nm, KidT W.heap.size w' (.mk nm n kid) A) ∧ Below W.heap.size W w'
set_option maxRecDepth 100000 in
set_option maxHeartbeats 4000000 in
theorem totermsP_of (n : Nat) (kid : Nat → Tm) (hn : n ≤ 1048576) (hft : ∀ k, k < n → Fits 1048576 (kid k)) (IH : ∀ k, k < n → ∀ (a : Option Addr) (c : Nat) (W : World), Kids 0 W (kid k) a → Calls Try.prog 23 #[.agg #[.string (kid k).nm, .slice a (kid k).n c]] W (NewP W (kid k)))
    (nm : ByteArray) (A : Option Addr) (c : Nat) (w : World) (hA : Kids 0 w (.mk nm n kid) A) :
    Calls Try.prog 28 #[.slice A n c] w (NewPs w n kid) := by
  have hmk := run_make_terms n hn
  have hrow := rowIs_madeT w (n * 2) 38
  have hb0 : Below w.heap.size w (w.alloc (.cells (madeCells #[.string ⟨#[]⟩, .slice none 0 0] (n * 2)) 38)) := bal (Below.refl _ _) _
  have HFt := hid hft; clear hft
  have HI := hid IH; clear IH
  go_enter Try.func28, Try.ntmps28
  go_wp2
  clear hmk
  go_loopw [4] (fun i wr => ∃ (k : Nat) (LA : Nat → Option Addr), k ≤ n ∧ i = .int .i64 k ∧ Below w.heap.size w wr ∧ wr.rowIs w.heap.size 38 (n * 2) (fun j => if j < k * 2 then termV LA kid j else zeroT j) ∧ ∀ i, i < k → KidT (w.heap.size + 1) wr (kid i) (LA i)) (fun i _ => n - (intOf i).toNat)
  case atStart => exact ⟨0, fun _ => none, Nat.zero_le _, rfl, hb0, hrow.congr fun i hi => by simp, fun i hi => by omega⟩
  case round =>
    obtain ⟨k, LA, hk, rfl, hb, hr, ho⟩ := hrel
    have HO := hid ho; clear ho
    clear hrow hb0
    by_cases hlt : k < n
    · rcases hA with h0 | ⟨g, off, rfl, _, hg, hcA⟩
      · omega
      obtain ⟨a, ca, a0, a1, hI⟩ := hcA k hlt
      have gg : g < wr.heap.size := Nat.lt_of_lt_of_le hg hb.size
      replace a0 := carry hb a0
      replace a1 := carry hb a1
      replace hI := hI.below hb
      have hS : w.heap.size < wr.heap.size := hr.lt
      clear hcA
      have hT := HI.out k hlt a ca wr hI
      clear hI
      go_wp2_with (go_at_call 23; refine hT.mono ?_; rintro e w1 ⟨A3, rfl, O3, hq⟩; have hr1 := row_below hr hq; have d0 : w1.cell? ⟨w.heap.size, k * 2, none⟩ = some (.string ⟨#[]⟩) := ((hr1.cell (by omega)).trans (by rw [if_neg (by omega)]; unfold zeroT; rw [if_pos (by omega)])); have d1 : w1.cell? ⟨w.heap.size, k * 2 + 1, none⟩ = some (.slice none 0 0) := ((hr1.cell (by omega)).trans (by rw [if_neg (by omega)]; unfold zeroT; rw [if_neg (by omega)])); have e0 : w1.frozen? ⟨w.heap.size, k * 2, none⟩ = false := hr1.frozen _; have e1 : w1.frozen? ⟨w.heap.size, k * 2 + 1, none⟩ = false := hr1.frozen _)
      go_roundw
      case rel =>
        refine ⟨k + 1, fun i => if i = k then A3 else LA i, by omega, by go_num, bst (bst (btr hb hq) (Nat.le_refl _) _) (Nat.le_refl _) _, ((hr1.set (k * 2) _).set (k * 2 + 1) _).congr fun j hj => ?_, fun i hi => ?_⟩
        · by_cases eb : j = k * 2 + 1
          · subst eb; rw [if_pos rfl, if_pos (by omega), termV_1]; simp
          · rw [if_neg eb]
            by_cases ea : j = k * 2
            · subst ea; rw [if_pos rfl, if_pos (by omega), termV_0]
            · rw [if_neg ea]
              by_cases e2 : j < k * 2
              · rw [if_pos e2, if_pos (by omega), termV_old (by omega)]
              · rw [if_neg e2, if_neg (by omega)]
        · by_cases e : i = k
          · subst e
            simp only [if_true]
            exact ((O3.mono (by omega)).set _ (by omega)).set _ (by omega)
          · simp only [if_neg e]
            exact (((HO.out i (by omega)).keep (KpT.below hq)).set _ (by omega)).set _ (by omega)
      case measure => simp [intOf]; omega
    · have hke : k = n := by omega
      subst hke
      go_wp2
      go_ret
      obtain ⟨cs, hcs, hcz, hcv⟩ := hr
      refine ⟨_, rfl, ⟨_, rfl⟩, fun nm' => .inr ⟨w.heap.size, 0, cs, rfl, Nat.le_refl _, hcs, fun i hi => ⟨LA i, (kid i).n, ?_, ?_, Nat.le_refl _, by have := (HFt.out i hi).n; omega, (HO.out i hi).mono (by omega)⟩⟩, hb⟩
      · rw [Nat.zero_add, hcv _ (by omega)]; show some (if _ then _ else _) = _; rw [if_pos (by omega), termV_0]
      · rw [Nat.zero_add, hcv _ (by omega)]; show some (if _ then _ else _) = _; rw [if_pos (by omega), termV_1]
set_option maxHeartbeats 2000000 in
theorem totermP_any : ∀ (t : Tm), Fits 1048576 t → ∀ (A : Option Addr) (c : Nat) (w : World), Kids 0 w t A →
    Calls Try.prog 23 #[.agg #[.string t.nm, .slice A t.n c]] w (NewP w t) := by
  intro t
  induction t with
  | bad => intro h; exact False.elim h
  | mk nm n kid ih =>
    rintro ⟨hm, hn, hf⟩ A c w hA
    show Calls _ _ #[.agg #[.string nm, .slice A n c]] w _
    have hT := fun W (hb : Below w.heap.size w W) => totermsP_of n kid hn hf (fun k hk a c W h => ih k (hf k hk) a c W h) nm A c W (hA.below hb)
    clear ih hf hA
    go_enter Try.func23, Try.ntmps23
    go_wp2_with fail
    refine (hT _ (bal (bal (bal (Below.refl _ _) _) _) _)).mono ?_
    rintro e w1 ⟨A', rfl, _, hO, hq⟩
    obtain ⟨hc, hfz⟩ := bcell hq
    clear hT
    go_wp2
    have e0 : w1.cell? ⟨w.heap.size + 1, 0, none⟩ = some (.string ⟨#[]⟩) := by rw [hc _ _ (by simp <;> omega)]; simp [go_sem]
    have e1 : w1.cell? ⟨w.heap.size + 1, 1, none⟩ = some (.slice none 0 0) := by rw [hc _ _ (by simp <;> omega)]; simp [go_sem]
    have f0 : (w1.setCell ⟨w.heap.size + 1 + 1, 1, none⟩ (.slice A' n n)).cell? ⟨w.heap.size + 1, 0, none⟩ = some (.string ⟨#[]⟩) := by rw [World.cell?_setCell_other _ _ _ _ (by simp)]; exact e0
    have f1 : (w1.setCell ⟨w.heap.size + 1 + 1, 1, none⟩ (.slice A' n n)).cell? ⟨w.heap.size + 1, 1, none⟩ = some (.slice none 0 0) := by rw [World.cell?_setCell_other _ _ _ _ (by simp)]; exact e1
    obtain ⟨t0, t1⟩ := set2 f0 f1 (.string nm) (.slice A' n n)
    clear hc hfz
    have l2 : w.heap.size + 1 + 1 < (((w.alloc (.cells #[.string nm, .slice A n c] 33)).alloc (.cells #[.string ⟨#[]⟩, .slice none 0 0] 38)).alloc (.cells #[.string nm, .slice none 0 0] 38)).heap.size := by simp
    have hO2 := (((hO nm).set (o := 1) (.slice A' n n) l2).set (o := 0) (.string nm) (Nat.lt_of_succ_lt l2)).set (o := 1) (.slice A' n n) (Nat.lt_of_succ_lt l2)
    refine bodyPost_ret (v := .agg #[.string nm, .slice A' n n]) (by simp [results, Try.results23, go_sem, t0, t1]) rfl ⟨A', rfl, hO2.mono (by simp <;> omega), ?_⟩
    clear t0 t1 e0 e1 f0 f1 hO hO2 l2
    (repeat first | with_reducible exact Below.refl _ _ | with_reducible assumption | with_reducible refine Below.drew ?_ | with_reducible refine bdn ?_ _ | with_reducible refine bal ?_ _ | (with_reducible refine bst ?_ ?_ _; rotate_left; (simp <;> omega)) | (with_reducible refine btr ?_ (by with_reducible assumption)))
end Go.Proofs.Ytcnlolocppbcjaa
