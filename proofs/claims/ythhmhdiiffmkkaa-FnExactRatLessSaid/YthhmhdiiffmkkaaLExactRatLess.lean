/- For every input laws.FnExactRatLess answers true, and each argument reads afterwards as it read before; there is no further condition. -/
import Derived.Test.YthhmhdiiffmkkaaRows
import Derived.Test.YthhmhdiiffmkkaaWLess
import Derived.WalkKit
import Derived.ProofKit
import Derived.OpenShut
import Derived.Lib.SmallJoins
namespace Go.Proofs.Ythhmhdiiffmkkaa.PExactRatLess
set_option linter.unusedVariables false
set_option linter.unusedSimpArgs false
open Go.Proofs.Ythhmhdiiffmkkaa
open Go.ChangeShapes Go.WideShapes Go.ChangeAt Go.RowKit Go.Joins Go.WideMaps Go.WideElems
theorem own : ownKnob Try.prog.godebug = none := by kernel_rfl
theorem cellsR : Try.prog.cellsOf 37 = 2 := by kernel_rfl
set_option maxRecDepth 100000 in
theorem lifted (os : Os) (started : os.Started) (H : Type) (enc : TypeId × Value → H) :
    ReturnsInHanded {} Try.checked os 15 .any (Rows.fnExactRatLessSpec.pre6 enc Try.prog Try.f15 Rows.fnExactRatLessRow.domain false) (Rows.fnExactRatLessSpec.post enc Try.prog Try.f15 false true false false) := by
  refine returnsInHanded_of_change (C := Try.checked) own started (by kernel_rfl) Try.func15
    (ChangeSpec.witness6 (enc := enc) (C := Try.checked) false ⟨#[], #[.agg #[.int .i64 0, .int .i64 0], .agg #[.int .i64 0, .int .i64 0]], []⟩ 8 (by kernel_rfl) (by kernel_rfl) (by kernel_rfl) (by kernel_rfl)) ?_
  intro W base args ds gs before hval0 hW hcnd _
  have hval : ∀ (j : Nat) t v, Try.f15.params[j]? = some t → args[j]? = some v → Value.okWide Try.prog W .any base t v := hval0
  have hW' := hW
  obtain ⟨p, q, hA0, hV, rfl, hfz, hnd⟩ := hW
  have hA : DataW.TrodAll enc Try.prog W 0 (fun _ => true) true Try.f15.params.toList args.toList ds p := hA0
  rw [Try.params15] at hA hval
  obtain ⟨v0, v1, d0, d1, p0, p1, rfl, rfl, rfl, h0, h1⟩ := trodAll_two hA
  obtain ⟨rfl, rfl⟩ := trodVars_none hV
  obtain ⟨c00, c01, y00, y01, m0, rfl, rfl, rfl, hy00, hy01⟩ := open_agg2 Try.underlying37 (by kernel_rfl) cellsR (hval 0 37 v0 rfl rfl) h0
  obtain ⟨a, e00, rfl, wa⟩ := DataW.trod_int Try.underlying3 hy00
  obtain ⟨b, e01, rfl, wb⟩ := DataW.trod_int Try.underlying3 hy01
  simp at e00 e01
  subst e00 e01
  obtain ⟨c10, c11, y10, y11, m1, rfl, rfl, rfl, hy10, hy11⟩ := open_agg2 Try.underlying37 (by kernel_rfl) cellsR (hval 1 37 v1 rfl rfl) h1
  obtain ⟨c, e10, rfl, wc⟩ := DataW.trod_int Try.underlying3 hy10
  obtain ⟨d, e11, rfl, wd⟩ := DataW.trod_int Try.underlying3 hy11
  simp at e10 e11
  subst e10 e11
  have sra : ∀ (W' : World) (sp : Nat → Bool), DataW.Trod enc Try.prog W' 0 sp true 37 (.agg #[.int .i64 a, .int .i64 b]) (.agg [.lit (.int .i64 a), .lit (.int .i64 b)]) [] := fun W' sp =>
    (shut_agg2 (y0 := (.lit (.int .i64 a), [])) (y1 := (.lit (.int .i64 b), [])) Try.underlying37 (by kernel_rfl) cellsR ⟨1, by simp [DataW.trod, Try.underlying3, wa]⟩ ⟨1, by simp [DataW.trod, Try.underlying3, wb]⟩)
  have src : ∀ (W' : World) (sp : Nat → Bool), DataW.Trod enc Try.prog W' 0 sp true 37 (.agg #[.int .i64 c, .int .i64 d]) (.agg [.lit (.int .i64 c), .lit (.int .i64 d)]) [] := fun W' sp =>
    (shut_agg2 (y0 := (.lit (.int .i64 c), [])) (y1 := (.lit (.int .i64 d), [])) Try.underlying37 (by kernel_rfl) cellsR ⟨1, by simp [DataW.trod, Try.underlying3, wc]⟩ ⟨1, by simp [DataW.trod, Try.underlying3, wd]⟩)
  clear hA0 hval0
  simp only [List.append_nil] at hW'
  refine (walk_ExactRatLess a b c d W).mono fun e W' ⟨he, hg⟩ => ?_
  subst he
  exact ⟨_, rfl, _, _, _, [], [], [], hW', trodAll_mk1 (shut_bool Try.underlying4 _), trodAll_mk2 (sra _ _) (src _ _), rfl, hg.frame _, fun h => by cases h⟩
theorem holds : Rows.FnExactRatLessSaid :=
  OpenClaim.holds_of_wide 15 Try.f15 rfl rfl rfl rfl rfl rfl rfl ⟨rfl, rfl, rfl, rfl, rfl⟩ rfl rfl rfl rfl rfl (by kernel_rfl) Try.func15 (by kernel_rfl)
    (of_decide_eq_true (by kernel_rfl)) (by unfold Func.isWrapper; first | (rw [if_pos (by decide +kernel)]; kernel_rfl) | (rw [if_neg (by decide +kernel)]; exact ⟨rfl, rfl⟩))
    (fun os started H enc _ => lifted os started H enc)
end Go.Proofs.Ythhmhdiiffmkkaa.PExactRatLess
namespace Go.Proofs.Ythhmhdiiffmkkaa
theorem proved_ExactRatLess : Rows.FnExactRatLessSaid := PExactRatLess.holds
end Go.Proofs.Ythhmhdiiffmkkaa
