/- The exact law of ExactRatLess: the walk. -/
import Derived.Test.YthhmhdiiffmkkaaKit
namespace Go.Proofs.Ythhmhdiiffmkkaa
set_option linter.unusedVariables false
set_option linter.unusedSimpArgs false
open Go.RowKit
set_option maxHeartbeats 8000000 in
theorem walk_ExactRatLess (a b c d : Int) (w : World) :
    Calls Try.prog 15 #[.agg #[.int .i64 a, .int .i64 b], .agg #[.int .i64 c, .int .i64 d]] w fun e w' => e = .returned (.bool true) ∧ Below w.heap.size w w' := by
  have H0 : Kp [(w.heap.size + 1, .int .i64 c, .int .i64 d), (w.heap.size, .int .i64 a, .int .i64 b)] w ((w.alloc (.cells #[.int .i64 a, .int .i64 b] 37)).alloc (.cells #[.int .i64 c, .int .i64 d] 37)) := ((Kp.new0 w).newpair rfl _ _ _).newpair (World.size_alloc _ _) _ _ _
  go_enter Try.func15, Try.ntmps15
  go_upto_region 1 with fail
  generalize (w.alloc (.cells #[.int .i64 a, .int .i64 b] 37)).alloc (.cells #[.int .i64 c, .int .i64 d] 37) = W0 at H0 ⊢
  go_cut [5] (fun s5 wx => s5 = .bool (lessB a b c d) ∧ Kp [(w.heap.size + 1, .int .i64 c, .int .i64 d), (w.heap.size, .int .i64 a, .int .i64 b)] w wx)
  case first =>
    go_region_held3 (fun w' => Below w.heap.size w w' ∧ w'.cell? ⟨w.heap.size + 1, 0, none⟩ = some (.int .i64 c) ∧ w'.cell? ⟨w.heap.size + 1, 1, none⟩ = some (.int .i64 d) ∧ w'.cell? ⟨w.heap.size, 0, none⟩ = some (.int .i64 a) ∧ w'.cell? ⟨w.heap.size, 1, none⟩ = some (.int .i64 b) ∧ True) (first | exact H0.drew | exact (H0.alloc _).drew | exact HH | exact HH.alloc _ | exact Kp.call hq (by assumption) | exact Kp.alloc (by assumption) _ | exact Kp.set2 (by assumption) rfl HH _ _) (first | (go_at_call 35; refine (torat_any _ _ _).mono ?_; rintro e w' ⟨rfl, hq⟩; have HH : Kp [(w.heap.size + 1, .int .i64 c, .int .i64 d), (w.heap.size, .int .i64 a, .int .i64 b)] w w' := Kp.call hq (by assumption); first | (apply carryk hq; assumption; intro pz) | (with_reducible have pz := carryz hq (newz _ _ _ _)) | (with_reducible have pz := carryz hq (newzD _ _ _ _)) | skip) | (go_at_call 31; refine (sless_any _ _ _ _ _).mono ?_; rintro e w' ⟨rfl, hq⟩; have HH : Kp [(w.heap.size + 1, .int .i64 c, .int .i64 d), (w.heap.size, .int .i64 a, .int .i64 b)] w w' := Kp.call hq (by assumption); first | (apply carryk hq; assumption; intro pz) | (with_reducible have pz := carryz hq (newz _ _ _ _)) | (with_reducible have pz := carryz hq (newzD _ _ _ _)) | skip))
    all_goals go_wp2_with fail
    all_goals go_meet
    all_goals exact ⟨rfl, HH⟩
  case rest =>
    clear H0
    obtain ⟨rfl, H0⟩ := hcut
    have HC := H0
    obtain ⟨hbel, _, _, _, _, _⟩ := HC
    go_upto_region 2 with fail
    go_cut [6] (fun s5 wx => s5 = .bool (lessB a b c d) ∧ Kp [(w.heap.size + 1, .int .i64 c, .int .i64 d), (w.heap.size, .int .i64 a, .int .i64 b)] w wx)
    case first =>
      go_region_held3 (fun w' => Below w.heap.size w w' ∧ w'.cell? ⟨w.heap.size + 1, 0, none⟩ = some (.int .i64 c) ∧ w'.cell? ⟨w.heap.size + 1, 1, none⟩ = some (.int .i64 d) ∧ w'.cell? ⟨w.heap.size, 0, none⟩ = some (.int .i64 a) ∧ w'.cell? ⟨w.heap.size, 1, none⟩ = some (.int .i64 b) ∧ True) (first | exact H0.drew | exact (H0.alloc _).drew | exact HH | exact HH.alloc _ | exact Kp.call hq (by assumption) | exact Kp.alloc (by assumption) _ | exact Kp.set2 (by assumption) rfl HH _ _) (first | (go_at_call 35; refine (torat_any _ _ _).mono ?_; rintro e w' ⟨rfl, hq⟩; have HH : Kp [(w.heap.size + 1, .int .i64 c, .int .i64 d), (w.heap.size, .int .i64 a, .int .i64 b)] w w' := Kp.call hq (by assumption); first | (apply carryk hq; assumption; intro pz) | (with_reducible have pz := carryz hq (newz _ _ _ _)) | (with_reducible have pz := carryz hq (newzD _ _ _ _)) | skip) | (go_at_call 30; refine (rless_any _ _ _ _ _).mono ?_; rintro e w' ⟨rfl, hq⟩; have HH : Kp [(w.heap.size + 1, .int .i64 c, .int .i64 d), (w.heap.size, .int .i64 a, .int .i64 b)] w w' := Kp.call hq (by assumption); first | (apply carryk hq; assumption; intro pz) | (with_reducible have pz := carryz hq (newz _ _ _ _)) | (with_reducible have pz := carryz hq (newzD _ _ _ _)) | skip))
      all_goals go_wp2_with fail
      all_goals go_meet
      all_goals exact ⟨rfl, HH⟩
    case rest =>
      clear H0
      obtain ⟨rfl, H0⟩ := hcut
      have HC := H0
      obtain ⟨hbel, _, _, _, _, _⟩ := HC
      go_wp2_with fail
      go_ret
      exact ⟨rfl, hbel⟩
end Go.Proofs.Ythhmhdiiffmkkaa
