/- Vocabularies with a symbol less, with a symbol twice. -/
import Derived.Test.YtbhagobkkobgfaaBV
import Derived.Test.YtbhagobkkobgfaaBF
namespace Go.Proofs.Ytbhagobkkobgfaa
set_option linter.unusedVariables false
set_option linter.unusedSimpArgs false
open Go.RowKit
def syCat (n : Nat) (L M : Sy) : Sy := ⟨fun k => if k < n then L.Nm k else M.Nm (k - n), fun k => if k < n then L.N k else M.N (k - n), fun k => if k < n then L.Z k else M.Z (k - n), fun k => if k < n then L.S k else M.S (k - n)⟩
def syFrom (i : Nat) (L : Sy) : Sy := ⟨fun k => L.Nm (i + k), fun k => L.N (i + k), fun k => L.Z (i + k), fun k => L.S (i + k)⟩
theorem sig_name {n i : Nat} {L : Sy} (h : sigB n L = true) (hi : i < n) : nameB (L.Nm i) = true := (symB_iff.1 ((sigB_iff.1 h).2.1 i hi)).1
theorem sig_less {n i : Nat} {L : Sy} (h : sigB n L = true) (hi : i < n) : sigB (i + (n - (i + 1))) (syCat i L (syFrom (i + 1) L)) = true := by
  obtain ⟨h7, hs, ha⟩ := sigB_iff.1 h
  have hat : ∀ k, ∃ j, (k < i + (n - (i + 1)) → j < n) ∧ (syCat i L (syFrom (i + 1) L)).Nm k = L.Nm j ∧ (syCat i L (syFrom (i + 1) L)).N k = L.N j ∧ (syCat i L (syFrom (i + 1) L)).Z k = L.Z j ∧ (syCat i L (syFrom (i + 1) L)).S k = L.S j ∧ j = (if k < i then k else k + 1) := fun k => by
    by_cases e : k < i
    · exact ⟨k, fun _ => by omega, if_pos e, if_pos e, if_pos e, if_pos e, (if_pos e).symm⟩
    · refine ⟨k + 1, fun _ => by omega, ?_, ?_, ?_, ?_, (if_neg e).symm⟩ <;> simp only [syCat, syFrom, if_neg e, show i + 1 + (k - i) = k + 1 by omega]
  refine sigB_iff.2 ⟨by omega, fun k hk => ?_, ascB_iff.2 fun k hk hk2 => ?_⟩
  · obtain ⟨j, hj, e1, e2, e3, e4, _⟩ := hat k
    rw [e1, e2, e3, e4]
    exact hs j (hj hk)
  · obtain ⟨j, hj, e1, _, _, _, f1⟩ := hat k
    obtain ⟨j2, hj2, e2, _, _, _, f2⟩ := hat (k + 1)
    rw [e1, e2]
    refine asc_lt ha ?_ (hj2 hk2)
    rw [f1, f2]
    split <;> split <;> omega
theorem sig_twice {n i : Nat} {L : Sy} (hi : i < n) : sigB (i + 1 + (n - i)) (syCat (i + 1) L (syFrom i L)) = false := sigB_no fun h => by
  have h1 := ascB_iff.1 h.2.2 i (by omega) (by omega)
  simp only [syCat, syFrom, if_pos (show i < i + 1 by omega), if_neg (show ¬ i + 1 < i + 1 by omega), Nat.sub_self, Nat.add_zero] at h1
  rw [bl_irr] at h1
  cases h1
/-- symbols that lie in a block, from an offset on -/
def CelY (lo : Nat) (w : World) (gs o m : Nat) (M : Sy) : Prop := ∀ k, k < m → ∃ a c, w.cell? ⟨gs, o + k * 3, none⟩ = some (.string (M.Nm k)) ∧ w.cell? ⟨gs, o + k * 3 + 1, none⟩ = some (.slice a (M.N k) c) ∧ w.cell? ⟨gs, o + k * 3 + 2, none⟩ = some (.int .i64 (M.S k)) ∧ IntsB lo w a (M.N k) (M.Z k)
theorem CelY.upto {lo gs o n i : Nat} {w : World} {L : Sy} (h : CelY lo w gs o n L) (hi : i ≤ n) : CelY lo w gs o i L := fun k hk => h k (by omega)
theorem CelY.start {lo gs o n i : Nat} {w : World} {L : Sy} (h : CelY lo w gs o n L) (hi : i ≤ n) : CelY lo w gs (o + i * 3) (n - i) (syFrom i L) := fun k hk => by
  have := h (i + k) (by omega)
  simp only [syFrom]
  rw [show o + i * 3 + k * 3 = o + (i + k) * 3 by omega]
  exact this
/-- what a row of symbols holds -/
def RdY (W0 : World) (xs : List Value) (n : Nat) (L : Sy) : Prop := ∀ k, k < n → ∃ la lc, xs[k * 3]? = some (.string (L.Nm k)) ∧ xs[k * 3 + 1]? = some (.slice la (L.N k) lc) ∧ xs[k * 3 + 2]? = some (.int .i64 (L.S k)) ∧ Ints W0 la (L.N k) (L.Z k)
/-- symbols of a block appended to a row of one's own -/
theorem appY_at (lo base : Nat) (gs o c m : Nat) (M : Sy) (ty : TypeId) (W0 w : World) (hm : m ≤ 1048576) (hC : CelY lo W0 gs o m M) (hb0 : Below W0.heap.size W0 w) {v : Value} {n : Nat} {L : Sy} {xs : List Value} (hn : n ≤ 1048576) (hown : w.ownsRow base 31 3 v n xs) (hR : RdY W0 xs n L) (hbw : base ≤ w.heap.size) :
    ∃ a c' w' ys, (Builtin.append_ #[23, 23] ty #[v, .slice (some ⟨gs, o, none⟩) m c]).run Try.prog w = .ok (.slice a (n + m) c') w' ∧ w.grownBy w' v.ownBlock ∧ w'.ownsRow base 31 3 (.slice a (n + m) c') (n + m) ys ∧ RdY W0 ys (n + m) (syCat n L M) := by
  obtain ⟨i0, hi, hz0, hz1, hz2⟩ := info_parts infoSy
  have hsk : ∀ k, ∃ ac : Option Addr × Nat, k < m → W0.cell? ⟨gs, o + k * 3, none⟩ = some (.string (M.Nm k)) ∧ W0.cell? ⟨gs, o + k * 3 + 1, none⟩ = some (.slice ac.1 (M.N k) ac.2) ∧ W0.cell? ⟨gs, o + k * 3 + 2, none⟩ = some (.int .i64 (M.S k)) ∧ IntsB lo W0 ac.1 (M.N k) (M.Z k) := fun k => by
    by_cases hk : k < m
    · obtain ⟨a, c, h⟩ := hC k hk
      exact ⟨(a, c), fun _ => h⟩
    · exact ⟨(none, 0), fun h => absurd h hk⟩
  obtain ⟨f, hf⟩ := Classical.axiomOfChoice hsk
  obtain ⟨v', w', hr, h2, h3, _, _⟩ := run_append_own_at (P := Try.prog) w base 23 ty 31 i0 _ 3 48 Try.underlying23 hi hz0 hz1 hz2 rfl (by decide) v n xs hown ⟨gs, o, none⟩ m c (flY m M f) (flY_len m M f)
    (fun j v h => by
      have hj : j < m * 3 := by
        have := (List.getElem?_eq_some_iff.1 h).1
        rwa [flY_len] at this
      rw [flY_at hj] at h
      have h' := Option.some.inj h
      subst h'
      have e : (⟨gs, o, none⟩ : Addr).add j = ⟨gs, o + j, none⟩ := by cases j <;> simp [Addr.add]
      rw [e]
      obtain ⟨x0, x1, x2, _⟩ := hf (j / 3) (by omega)
      have hj3 : j % 3 = 0 ∨ j % 3 = 1 ∨ j % 3 = 2 := by omega
      rcases hj3 with e | e | e
      · rw [if_pos e, show o + j = o + j / 3 * 3 by omega]; exact carry hb0 x0
      · rw [if_neg (by omega), if_pos e, show o + j = o + j / 3 * 3 + 1 by omega]; exact carry hb0 x1
      · rw [if_neg (by omega), if_neg (by omega), show o + j = o + j / 3 * 3 + 2 by omega]; exact carry hb0 x2)
    (fun u hu => by
      obtain ⟨j, _, rfl⟩ := List.mem_map.1 hu
      split
      · rfl
      · split <;> rfl) (by unfold maxLen; omega) (by omega) hbw
  obtain ⟨a, c', e⟩ := own_slice h2
  subst e
  have hlen := hown.1
  refine ⟨a, c', w', _, hr, h3, h2, fun k hk => ?_⟩
  by_cases e : k < n
  · obtain ⟨la, lc, x0, x1, x2, hI⟩ := hR k e
    simp only [syCat, if_pos e]
    rw [List.getElem?_append_left (by omega), List.getElem?_append_left (by omega), List.getElem?_append_left (by omega)]
    exact ⟨la, lc, x0, x1, x2, hI⟩
  · have hk2 : k - n < m := by omega
    obtain ⟨x0, x1, x2⟩ := flY_at3 (L := M) (f := f) hk2
    obtain ⟨_, _, _, hI⟩ := hf (k - n) hk2
    simp only [syCat, if_neg e]
    rw [List.getElem?_append_right (by omega), List.getElem?_append_right (by omega), List.getElem?_append_right (by omega), hlen, show k * 3 - n * 3 = (k - n) * 3 by omega, show k * 3 + 1 - n * 3 = (k - n) * 3 + 1 by omega, show k * 3 + 2 - n * 3 = (k - n) * 3 + 2 by omega]
    refine ⟨_, _, x0, x1, x2, ?_⟩
    rcases hI with h | ⟨g', off', ha', _, r⟩
    · exact .inl h
    · exact .inr ⟨g', off', ha', r⟩
theorem RdY.syms {W0 w : World} {base n c : Nat} {a : Option Addr} {xs : List Value} {L : Sy} (h : RdY W0 xs n L) (ho : w.ownsRow base 31 3 (.slice a n c) n xs) (hb : Below W0.heap.size W0 w) (hL : SmY n L) : Syms w a n L :=
  own_syms ho (fun k hk => by
    obtain ⟨la, lc, x0, x1, x2, hI⟩ := h k hk
    exact ⟨la, lc, x0, x1, x2, hI.below hb⟩) hL
theorem SmY.cat {n m : Nat} {L M : Sy} (h : SmY n L) (h2 : SmY m M) : SmY (n + m) (syCat n L M) := fun k hk => by
  by_cases e : k < n
  · simp only [syCat, if_pos e]; exact h k e
  · simp only [syCat, if_neg e]; exact h2 (k - n) (by omega)
theorem SmY.start {n i : Nat} {L : Sy} (h : SmY n L) (hi : i ≤ n) : SmY (n - i) (syFrom i L) := fun k hk => h (i + k) (by omega)
end Go.Proofs.Ytbhagobkkobgfaa
