/- DrawCnfSame. -/
import Derived.Test.YtoechhdahokoiaaDfA
import Derived.Test.YtoechhdahokoiaaC1
namespace Go.Proofs.Ytoechhdahokoiaa
set_option linter.unusedVariables false
set_option linter.unusedSimpArgs false
open Go.RowKit
/-- a drawn list copied behind an empty row -/
theorem run_copyCL {w : World} {lo lo2 base g2 c : Nat} {a : Option Addr} {ds : List CRow} (ty : TypeId) (h : CL lo lo2 w (.slice a ds.length c) ds) (hd : ds.length ≤ 100) (hE : w.ownsRow base 32 1 (.slice (some ⟨g2, 0, none⟩) 0 0) 0 []) (hb : base ≤ w.heap.size) (h1 : lo ≤ base)
    (hB : ∀ d ∈ ds, d.l.length ≠ 0 → ∀ g off, d.a = some ⟨g, off, none⟩ → g < g2) :
    ∃ v' w', (Builtin.append_ #[23, 23] ty #[.slice (some ⟨g2, 0, none⟩) 0 0, .slice a ds.length c]).run Try.prog w = .ok v' w' ∧ CL lo lo2 w' v' ds ∧ w.grownBy w' (some g2) ∧ (v'.ownBlock = some g2 ∨ ∀ r, v'.ownBlock = some r → w.heap.size ≤ r) := by
  obtain ⟨i0, hi, hz0, hz1, hz2⟩ := info_parts infoCn
  have key : ∀ v' w', w'.ownsRow base 32 1 v' ds.length (flatC ds) → w.grownBy w' (some g2) → (∀ g, v'.ownBlock = some g → some g2 = some g ∨ w.heap.size ≤ g) → CL lo lo2 w' v' ds := fun v' w' ho hg hf => by
    refine ⟨⟨ho.1, ho.2.imp id fun ⟨g, cap, cur, e, hb2, r⟩ => ⟨g, cap, cur, e, Nat.le_trans h1 hb2, r⟩⟩, fun d hdm => ⟨(h.2 d hdm).1.grow hg (fun r e => .inr fun h0 off e2 => ?_), fun h0 g off e2 hv => ?_, (h.2 d hdm).2.2⟩⟩
    · cases e
      have := hB d hdm h0 _ _ e2
      omega
    · have h3 := hB d hdm h0 _ _ e2
      rcases hf g hv with h4 | h4
      · cases h4; omega
      · rcases (h.2 d hdm).1 with h5 | ⟨g5, off5, e5, _, h6, _⟩
        · exact h0 h5
        · rw [e2] at e5
          injection e5 with e5
          injection e5 with e5 _ _
          omega
  rcases h.1.2 with ⟨e, h0⟩ | ⟨ga, cap, cur, e, _, hh, _⟩
  · injection e with e1 e2 e3
    subst e1 e3
    have hr := run_append_owned_none (P := Try.prog) (w := w) base 23 ty 32 i0 1 Try.underlying23 hi _ _ _ hE
    have hf0 : flatC ds = [] := by unfold flatC; rw [List.eq_nil_of_length_eq_zero h0]; rfl
    rw [h0]
    have hg0 : w.grownBy w (some g2) := ⟨rfl, rfl, rfl, Nat.le_refl _, fun _ _ _ => rfl⟩
    exact ⟨_, w, hr, key _ _ (by rw [h0, hf0]; exact hE) hg0 (fun g hg => .inl hg), hg0, .inl rfl⟩
  · injection e with e1 e2 e3
    subst e1 e3
    have hc := h.1.cells (g := ga) rfl
    obtain ⟨v', w', hr, h2, h3, h4⟩ := run_append_freshU (P := Try.prog) w base 23 ty 32 i0 (.slice none 0 0) 1 24 Try.underlying23 hi hz0 hz1 hz2 rfl (by decide) (.slice (some ⟨g2, 0, none⟩) 0 0) 0 [] hE ⟨ga, 0, none⟩ ds.length c (flatC ds) (by unfold flatC; rw [List.length_map]; omega) hc (fun u hu => by unfold flatC at hu; obtain ⟨z, _, rfl⟩ := List.mem_map.1 hu; rfl) (by unfold maxLen; omega) (by omega) hb
    rw [Nat.zero_add, List.nil_append] at h2
    refine ⟨v', w', hr, key v' w' h2 h3 (fun g hg => (h4 g hg).imp (fun h => h) id), h3, ?_⟩
    cases hv : v'.ownBlock with
    | none => exact .inr fun r hr => by cases hr
    | some r =>
      rcases h4 r hv with h5 | h5
      · left; exact h5.symm
      · exact .inr fun r' e => by cases e; exact h5
/-- a drawn list copied behind an empty row without room: only new memory -/
theorem run_copyCL2 {w : World} {lo lo2 g2 c : Nat} {a : Option Addr} {ds : List CRow} (ty : TypeId) (h : CL lo lo2 w (.slice a ds.length c) ds) (hd : ds.length ≤ 100) (hE : w.ownsRow g2 32 1 (.slice (some ⟨g2, 0, none⟩) 0 0) 0 []) (hb : g2 ≤ w.heap.size) (h1 : lo ≤ g2)
    (hB : ∀ d ∈ ds, d.l.length ≠ 0 → ∀ g off, d.a = some ⟨g, off, none⟩ → g < g2) :
    ∃ v' w', (Builtin.append_ #[23, 23] ty #[.slice (some ⟨g2, 0, none⟩) 0 0, .slice a ds.length c]).run Try.prog w = .ok v' w' ∧ CL lo lo2 w' v' ds ∧ (∀ r, v'.ownBlock = some r → g2 ≤ r) ∧ Below w.heap.size w w' := by
  obtain ⟨v', w', hr, h2, h3, h4⟩ := run_copyCL ty h hd hE hb h1 hB
  refine ⟨v', w', hr, h2, fun r hr => ?_, ?_⟩
  · rcases h4 with h4 | h4
    · rw [hr] at h4; cases h4; exact Nat.le_refl _
    · have := h4 r hr; omega
  obtain ⟨i0, hi, hz0, hz1, hz2⟩ := info_parts infoCn
  by_cases h0 : ds.length = 0
  · have hr2 : (Builtin.append_ #[23, 23] ty #[.slice (some ⟨g2, 0, none⟩) 0 0, .slice a ds.length c]).run Try.prog w = .ok (.slice (some ⟨g2, 0, none⟩) 0 0) w := by
      rw [h0]
      cases a with
      | none => simp [Builtin.append_, run_underlying Try.underlying23, sizeOf, typeInfo, hi, Builtin.lenOf, Builtin.firstCells, storeCells]
      | some a =>
        have hf := run_firstCells_some (P := Try.prog) w i0.size 0 a 0 c [] (by simp) (fun j v h => by simp at h)
        simp [Builtin.append_, run_underlying Try.underlying23, sizeOf, typeInfo, hi, Builtin.lenOf, hf, storeCells]
    rw [hr] at hr2
    injection hr2 with _ e
    rw [e]
    exact Below.refl _ _
  · rcases h.1.2 with ⟨_, e⟩ | ⟨ga, cap, cur, e, _, hh, _⟩
    · exact absurd e h0
    · injection e with e1 e2 e3
      subst e1 e3
      have hc := h.1.cells (g := ga) rfl
      have hr2 := run_append_grow (P := Try.prog) w 23 ty 32 i0 (.slice none 0 0) Try.underlying23 hi hz0 ⟨g2, 0, none⟩ 0 0 [] (by simp) (fun j v h => by simp at h) ⟨ga, 0, none⟩ ds.length c (flatC ds) (by unfold flatC; rw [List.length_map]; simp [hz1]) hc (by omega) (by omega) (by rw [Nat.zero_add, nextslicecap_zero (by omega), hz2]; omega)
      rw [hr] at hr2
      injection hr2 with _ e
      rw [e]
      exact bal (Below.refl w.heap.size w).drew _
end Go.Proofs.Ytoechhdahokoiaa
