/- The exact law of ExactRatMul: the walk. -/
import Derived.Test.YthhmhdiiffmkkaaKit
namespace Go.Proofs.Ythhmhdiiffmkkaa
set_option linter.unusedVariables false
set_option linter.unusedSimpArgs false
open Go.RowKit
set_option maxHeartbeats 8000000 in
theorem walk_ExactRatMul (a b c d : Int) (w : World) :
    Calls Try.prog 14 #[.agg #[.int .i64 a, .int .i64 b], .agg #[.int .i64 c, .int .i64 d]] w fun e w' => e = .returned (.bool true) ∧ Below w.heap.size w w' := by
  have H0 : Kp [(w.heap.size + 1, .int .i64 c, .int .i64 d), (w.heap.size, .int .i64 a, .int .i64 b)] w ((w.alloc (.cells #[.int .i64 a, .int .i64 b] 37)).alloc (.cells #[.int .i64 c, .int .i64 d] 37)) := ((Kp.new0 w).newpair rfl _ _ _).newpair (World.size_alloc _ _) _ _ _
  go_enter Try.func14, Try.ntmps14
  go_upto_region 1 with fail
  generalize (w.alloc (.cells #[.int .i64 a, .int .i64 b] 37)).alloc (.cells #[.int .i64 c, .int .i64 d] 37) = W0 at H0 ⊢
  go_cut [5, 6] (fun s5 s6 wx => ∃ g : Nat, s5 = .pointer (some ⟨g, 0, none⟩) ∧ s6 = .bool (mulR a b c d).2.2 ∧ Kp [(g, .int .i64 (mulR a b c d).1, .int .i64 (mulR a b c d).2.1), (w.heap.size + 1, .int .i64 c, .int .i64 d), (w.heap.size, .int .i64 a, .int .i64 b)] w wx)
  case first =>
    go_region_held3 (fun w' => Below w.heap.size w w' ∧ w'.cell? ⟨w.heap.size + 1, 0, none⟩ = some (.int .i64 c) ∧ w'.cell? ⟨w.heap.size + 1, 1, none⟩ = some (.int .i64 d) ∧ w'.cell? ⟨w.heap.size, 0, none⟩ = some (.int .i64 a) ∧ w'.cell? ⟨w.heap.size, 1, none⟩ = some (.int .i64 b) ∧ True) (first | exact H0.drew | exact (H0.alloc _).drew | exact HH | exact HH.alloc _ | exact Kp.call hq (by assumption) | exact Kp.alloc (by assumption) _ | exact Kp.set2 (by assumption) rfl HH _ _) (first | (go_at_call 35; refine (torat_any _ _ _).mono ?_; rintro e w' ⟨rfl, hq⟩; have HH : Kp [(w.heap.size + 1, .int .i64 c, .int .i64 d), (w.heap.size, .int .i64 a, .int .i64 b)] w w' := Kp.call hq (by assumption); first | (apply carryk hq; assumption; intro pz) | (with_reducible have pz := carryz hq (newz _ _ _ _)) | (with_reducible have pz := carryz hq (newzD _ _ _ _)) | skip) | (go_at_call 28; refine (smul_any _ _ _ _ _).mono ?_; rintro e w' ⟨rfl, hq⟩; have HH : Kp [(w.heap.size + 1, .int .i64 c, .int .i64 d), (w.heap.size, .int .i64 a, .int .i64 b)] w w' := Kp.call hq (by assumption); first | (apply carryk hq; assumption; intro pz) | (with_reducible have pz := carryz hq (newz _ _ _ _)) | (with_reducible have pz := carryz hq (newzD _ _ _ _)) | skip))
    all_goals go_wp2_with fail
    all_goals go_meet
    all_goals first | exact ⟨_, rfl, rfl, Kp.consNew HH _ _ _⟩ | exact ⟨_, rfl, rfl, Kp.consSet (by assumption) rfl HH (by assumption)⟩
  case rest =>
    clear H0
    obtain ⟨g, rfl, rfl, H0⟩ := hcut
    have HC := H0
    obtain ⟨hbel, _, _, _, _, _, _, _⟩ := HC
    go_upto_region 2 with fail
    go_cut [7, 8] (fun s5 s6 wx => ∃ k : Nat, s5 = .pointer (some ⟨k, 0, none⟩) ∧ s6 = .bool (mulR a b c d).2.2 ∧ Kp [(k, .int .i64 (mulR a b c d).1, .int .i64 (mulR a b c d).2.1), (g, .int .i64 (mulR a b c d).1, .int .i64 (mulR a b c d).2.1), (w.heap.size + 1, .int .i64 c, .int .i64 d), (w.heap.size, .int .i64 a, .int .i64 b)] w wx)
    case first =>
      go_region_held3 (fun w' => Below w.heap.size w w' ∧ w'.cell? ⟨g, 0, none⟩ = some (.int .i64 (mulR a b c d).1) ∧ w'.cell? ⟨g, 1, none⟩ = some (.int .i64 (mulR a b c d).2.1) ∧ w'.cell? ⟨w.heap.size + 1, 0, none⟩ = some (.int .i64 c) ∧ w'.cell? ⟨w.heap.size + 1, 1, none⟩ = some (.int .i64 d) ∧ w'.cell? ⟨w.heap.size, 0, none⟩ = some (.int .i64 a) ∧ w'.cell? ⟨w.heap.size, 1, none⟩ = some (.int .i64 b) ∧ True) (first | exact H0.drew | exact (H0.alloc _).drew | exact HH | exact HH.alloc _ | exact Kp.call hq (by assumption) | exact Kp.alloc (by assumption) _ | exact Kp.set2 (by assumption) rfl HH _ _) (first | (go_at_call 35; refine (torat_any _ _ _).mono ?_; rintro e w' ⟨rfl, hq⟩; have HH : Kp [(g, .int .i64 (mulR a b c d).1, .int .i64 (mulR a b c d).2.1), (w.heap.size + 1, .int .i64 c, .int .i64 d), (w.heap.size, .int .i64 a, .int .i64 b)] w w' := Kp.call hq (by assumption); first | (apply carryk hq; assumption; intro pz) | (with_reducible have pz := carryz hq (newz _ _ _ _)) | (with_reducible have pz := carryz hq (newzD _ _ _ _)) | skip) | (go_at_call 27; refine (rmul_any _ _ _ _ _).mono ?_; rintro e w' ⟨rfl, hq⟩; have HH : Kp [(g, .int .i64 (mulR a b c d).1, .int .i64 (mulR a b c d).2.1), (w.heap.size + 1, .int .i64 c, .int .i64 d), (w.heap.size, .int .i64 a, .int .i64 b)] w w' := Kp.call hq (by assumption); first | (apply carryk hq; assumption; intro pz) | (with_reducible have pz := carryz hq (newz _ _ _ _)) | (with_reducible have pz := carryz hq (newzD _ _ _ _)) | skip))
      all_goals go_wp2_with fail
      all_goals go_meet
      all_goals first | exact ⟨_, rfl, rfl, Kp.consNew HH _ _ _⟩ | exact ⟨_, rfl, rfl, Kp.consSet (by assumption) rfl HH (by assumption)⟩
    case rest =>
      clear H0
      obtain ⟨k, rfl, rfl, H0⟩ := hcut
      have HC := H0
      obtain ⟨hbel, _, _, _, _, _, _, _, _, _⟩ := HC
      go_wp2_with (first | (go_at_call 36; refine (eqrat_any _ _ _).mono ?_; rintro e w' ⟨rfl, hq⟩))
      go_ret
      exact ⟨rfl, btr hbel hq⟩
end Go.Proofs.Ythhmhdiiffmkkaa
