/- Contract of the laws' marks in a list of constraints. -/
import Derived.Test.YtppbapgjpfgmaaaFarO
namespace Go.Proofs.Ytppbapgjpfgmaaa
set_option linter.unusedVariables false
set_option linter.unusedSimpArgs false
open Go.RowKit
theorem linV_congr {LA : Nat → Option Addr} {LC : Nat → Nat} {L M : Lst} {j : Nat} (h1 : L.N = M.N) (h2 : L.B (j / 3) = M.B (j / 3)) (h3 : L.S (j / 3) = M.S (j / 3)) : linV LA LC L j = linV LA LC M j := by
  unfold linV; rw [h1, h2, h3]
theorem mixL_zero (k0 : Int) (L : Lst) : mixL k0 L 0 = L := by
  unfold mixL; simp
theorem mod3_beq (a : Int) : (a % 3 == 0) = decide (a % 3 = 0) := by
  by_cases h : a % 3 = 0 <;> simp [h]
set_option maxRecDepth 100000 in
set_option maxHeartbeats 4000000 in
theorem marklins_any (lo hi : Nat) (A : Option Addr) (n c : Nat) (L : Lst) (k0 : Int) (w : World) (hn : n ≤ 1048576) (hN : ∀ k, k < n → L.N k ≤ 1048576) (hk : 0 ≤ k0 ∧ k0 ≤ 1000000000000) (h : LsB lo hi w A n L) :
    Calls Try.prog 10 #[.slice A n c, .int .i64 k0] w fun e w' => e = .returned (.int .i64 (mk0 k0 L n)) ∧ LsB lo hi w' A n (mixL k0 L n) ∧ Wrt lo hi w w' := by
  obtain ⟨g, LA, LC, rfl, g1, g2, hr, hc, hE, hD⟩ := h
  have HC := hid hc; clear hc
  have HE := hid hE; clear hE
  have HD := hid hD; clear hD
  have HNN := hid hN
  have HB := hid (mk0_bd k0 L n hN hk.1); clear hN
  obtain ⟨k1, k2⟩ := hk
  go_enter Try.func10, Try.ntmps10
  go_wp2
  go_loopw [1, 5] (fun q i wr => ∃ j : Nat, j ≤ n ∧ i = .int .i64 j ∧ q = .int .i64 (mk0 k0 L j) ∧ Wrt lo hi w wr ∧ wr.rowIs g 48 (n * 3) (linV LA LC (mixL k0 L j)) ∧ ∀ i, i < n → OwnB lo hi wr (LA i) (L.N i) ((mixL k0 L j).Z i)) (fun _ i _ => n - (intOf i).toNat)
  case atStart => exact ⟨0, Nat.zero_le _, rfl, rfl, Wrt.refl _ _ _, by rw [mixL_zero]; exact hr, fun i hi => by rw [mixL_zero]; exact (HC.out i hi).2.2⟩
  case round =>
    obtain ⟨j, hj, rfl, rfl, hg, hr', ho⟩ := hrel
    have HO := hid ho; clear ho
    by_cases hlt : j < n
    · obtain ⟨b1, b2⟩ := HB.out j hj
      have hNj := HNN.out j hlt
      have hM := fun W (h : OwnB lo hi W (LA j) (L.N j) ((mixL k0 L j).Z j)) => markrow_any lo hi (LA j) (L.N j) (LC j) ((mixL k0 L j).Z j) (mk0 k0 L j) W hNj (by omega) h
      have gg := hr'.lt
      have a0 : wr.cell? ⟨g, j * 3, none⟩ = some (.slice (LA j) (L.N j) (LC j)) := (hr'.cell (by omega)).trans (by rw [linV_0]; rfl)
      have hst : mk0 k0 L (j + 1) = mk0 k0 L j + L.N j + 2 := rfl
      have HS := hid hst; clear hst
      generalize hq : mk0 k0 L j = q at hM b1 b2
      have HQ := hid hq; clear hq
      go_wp2_with fail
      refine (hM _ (HO.out j hlt)).mono ?_
      rintro e w1 ⟨rfl, hO, row, hgr, hrow⟩
      have hr1 : w1.rowIs g 48 (n * 3) (linV LA LC (mixL k0 L j)) := hr'.of_block (hgr.block g gg (fun e => by
        obtain ⟨_, h0, ha⟩ := hrow g e.symm
        rcases HE.out j hlt with h | h
        · exact h0 h
        · exact h ha))
      have d1 : w1.cell? ⟨g, j * 3 + 1, none⟩ = some (linV LA LC (mixL k0 L j) (j * 3 + 1)) := hr1.cell (by omega)
      have d2 : w1.cell? ⟨g, j * 3 + 2, none⟩ = some (linV LA LC (mixL k0 L j) (j * 3 + 2)) := hr1.cell (by omega)
      have e1 : w1.frozen? ⟨g, j * 3 + 1, none⟩ = false := hr1.frozen _
      have e2 : w1.frozen? ⟨g, j * 3 + 2, none⟩ = false := hr1.frozen _
      have gg1 := hr1.lt
      clear hM
      go_wp2_with fail
      go_roundw
      case rel =>
        refine ⟨j + 1, by omega, by go_num, ?_, (hg.trans (Wrt.of_grown hgr (fun g e => (hrow g e).1))).trans ((Wrt.of_grown (grow_set _ g _ _) (fun g' e => by cases e; exact ⟨g1, g2⟩)).trans (Wrt.of_grown (grow_set _ g _ _) (fun g' e => by cases e; exact ⟨g1, g2⟩))), ((hr1.set (j * 3 + 1) _).set (j * 3 + 2) _).congr fun i hi => ?_, fun i hi => ?_⟩
        · rw [HS.out, HQ.out]; go_num
        · by_cases ec : i = j * 3 + 2
          · subst ec; rw [if_pos rfl, linV_2]
            simp only [mixL, if_pos (Nat.lt_succ_self j), HQ.out, mod3_beq]
          · rw [if_neg ec]
            by_cases eb : i = j * 3 + 1
            · subst eb; rw [if_pos rfl, linV_1]
              simp only [mixL, if_pos (Nat.lt_succ_self j), HQ.out]
            · rw [if_neg eb]
              by_cases e3 : i / 3 = j
              · have : i = j * 3 := by omega
                subst this; rw [linV_0, linV_0]; rfl
              · refine linV_congr rfl ?_ ?_ <;> (simp only [mixL]; by_cases e : i / 3 < j; rw [if_pos e, if_pos (by omega)]; rw [if_neg e, if_neg (by omega)])
        · refine OwnB.apart (OwnB.apart ?_ (grow_set _ g _ _) (fun g' e => by cases e; exact HE.out i hi)) (grow_set _ g _ _) (fun g' e => by cases e; exact HE.out i hi)
          by_cases e : i = j
          · subst e
            have hz : (mixL k0 L (i + 1)).Z i = fun (x : Nat) => q + x := by funext x; simp only [mixL, if_pos (Nat.lt_succ_self i), HQ.out]
            rw [hz]
            exact hO
          · have hz : (mixL k0 L (j + 1)).Z i = (mixL k0 L j).Z i := by
              funext x; simp only [mixL]
              by_cases e2 : i < j
              · rw [if_pos e2, if_pos (by omega)]
              · rw [if_neg e2, if_neg (by omega)]
            rw [hz]
            refine (HO.out i hi).apart hgr (fun g' eg => ?_)
            obtain ⟨_, h0, ha⟩ := hrow g' eg
            rw [← ha]
            by_cases e2 : i < j
            · rcases HD.out i j e2 hlt with h | h | h
              · exact .inl h
              · exact absurd h h0
              · exact .inr h
            · rcases HD.out j i (by omega) hi with h | h | h
              · exact absurd h h0
              · exact .inl h
              · exact .inr (Ne.symm h)
      case measure => simp [intOf]; omega
    · have hje : j = n := by omega
      subst hje
      go_wp2
      go_ret
      exact ⟨rfl, ⟨g, LA, LC, rfl, g1, g2, hr', fun i hi => ⟨(HC.out i hi).1, (HC.out i hi).2.1, HO.out i hi⟩, HE.out, HD.out⟩, hg⟩
end Go.Proofs.Ytppbapgjpfgmaaa
