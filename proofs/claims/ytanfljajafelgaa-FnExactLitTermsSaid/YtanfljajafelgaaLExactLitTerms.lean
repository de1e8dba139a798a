/- For every input laws.FnExactLitTerms answers true, and each argument reads afterwards as it read before; there is no further condition. -/
import Derived.Test.YtanfljajafelgaaRows
import Derived.Test.YtanfljajafelgaaIO
import Derived.Test.YtanfljajafelgaaJoin
import Derived.Test.YtanfljajafelgaaBH
import Derived.WalkKit
import Derived.ProofKit
import Derived.OpenShut
import Derived.Lib.SmallJoins
import Derived.ChangeMaps5
import Derived.Test.YtanfljajafelgaaFramK
namespace Go.Proofs.Ytanfljajafelgaa.PExactLitTerms
set_option linter.unusedVariables false
set_option linter.unusedSimpArgs false
open Go.Proofs.Ytanfljajafelgaa
open Go.ChangeShapes Go.WideShapes Go.ChangeAt Go.RowKit Go.Joins Go.WideMaps Go.WideElems
theorem own : ownKnob Try.prog.godebug = none := by kernel_rfl
theorem laidOut : laidOutB Try.prog = true := by kernel_rfl
set_option maxRecDepth 100000 in
theorem lifted (os : Os) (started : os.Started) (H : Type) (enc : TypeId × Value → H) :
    ReturnsInHanded {} Try.checked os 12 .any (Rows.fnExactLitTermsSpec.pre6 enc Try.prog Try.f12 Rows.fnExactLitTermsRow.domain false) (Rows.fnExactLitTermsSpec.post enc Try.prog Try.f12 false true false false) := by
  refine returnsInHanded_of_change (C := Try.checked) own started (by kernel_rfl) Try.func12
    (ChangeSpec.witness6 (enc := enc) (C := Try.checked) false ⟨#[], #[.agg #[.int .i64 0, .string ByteArray.empty, .slice none 0 0, .string ByteArray.empty, .slice none 0 0, .slice none 0 0, .slice none 0 0, .int .i64 0, .bool false, .bool false]], []⟩ 8 (by kernel_rfl) (by kernel_rfl) (by kernel_rfl) (by kernel_rfl)) ?_
  intro W base args ds gs before hval0 hW hcnd _
  have hval : ∀ (j : Nat) t v, Try.f12.params[j]? = some t → args[j]? = some v → Value.okWide Try.prog W .any base t v := hval0
  have hW' := hW
  obtain ⟨p, q, hA0, hV, rfl, hfz, hnd⟩ := hW
  have hA : DataW.TrodAll enc Try.prog W 0 (fun _ => true) true Try.f12.params.toList args.toList ds p := hA0
  rw [Try.params12] at hA hval
  obtain ⟨v0, d0, rfl, rfl, h0⟩ := trodAll_one hA
  obtain ⟨rfl, rfl⟩ := trodVars_none hV
  clear hA0
  simp only [List.append_nil] at hW'
  have hlt : ∀ x ∈ p, x.block < W.heap.size := fun x hx => by simpa using hW'.lt x hx
  have hargs0 : ∀ (W' : World), Below W.heap.size W W' → DataW.Trod enc Try.prog W' 0 (fun b => decide (b < W.heap.size)) true 100 v0 d0 p :=
    fun W' hn => Below.trod laidOut (by kernel_rfl) (of_decide_eq_true (by kernel_rfl)) h0 hn hlt
  obtain ⟨x0, no0, A10, c10, A20, c20, A30, c30, A40, c40, rfl, hF0, hZ0⟩ := lit_open (hval 0 100 v0 rfl rfl) h0
  clear hval0 hval hA
  refine (walk_ExactLitTerms x0 no0 A10 c10 A20 c20 A30 c30 A40 c40 W hF0 hZ0).mono fun e W' ⟨he, hg⟩ => ?_
  subst he
  exact ⟨_, rfl, _, _, _, [], _, [], hW', trodAll_mk1 (shut_bool Try.underlying4 _), trodAll_mk1 (hargs0 _ hg), rfl, hg.frame _, fun h => by cases h⟩
theorem k_a1 : Rows.fnExactLitTermsRow.wf (OpenSpec.ofChange Rows.fnExactLitTermsSpec) = true := by kernel_rfl
theorem k_a4 : Try.f12.params.all (Try.prog.readableRec ·) = true := by kernel_rfl
theorem k_a5 : namedTie Try.prog Rows.fnExactLitTermsRow.named Rows.fnExactLitTermsSpec.vars = true := by kernel_rfl
theorem k_a6 : (Rows.fnExactLitTermsRow.stops == []) = true := by kernel_rfl
theorem k_a8 : (Rows.fnExactLitTermsRow.knobs == []) = true := by kernel_rfl
theorem k_b1 : (Rows.fnExactLitTermsRow.inPlace == Try.prog.inPlace 12) = true := by kernel_rfl
theorem k_b2 : (Rows.fnExactLitTermsRow.unfollowed == Try.prog.unfollowed 12) = true := by kernel_rfl
theorem k_b3 : (Rows.fnExactLitTermsRow.recurses == Try.prog.recurses 12) = true := by kernel_rfl
theorem k_b4 : (Rows.fnExactLitTermsRow.named == Try.prog.varsNamed 12) = true := by kernel_rfl
theorem k_c1 : (Rows.fnExactLitTermsRow.maps == (Try.f12.params.toList ++ Rows.fnExactLitTermsSpec.plain.varTypes Try.prog).any (Try.prog.mapsRec ·)) = true := by kernel_rfl
theorem k_c2 : (Rows.fnExactLitTermsRow.ifaces == (Try.f12.params.toList ++ Rows.fnExactLitTermsSpec.plain.varTypes Try.prog).any (Try.prog.ifacesRec ·)) = true := by kernel_rfl
theorem k_c3 : (Rows.fnExactLitTermsRow.mapsOut == Try.prog.mapsAmong Try.f12.resultTypes.toList) = true := by kernel_rfl
theorem k_c4 : (Rows.fnExactLitTermsRow.loops == (Try.f12.params.toList ++ Rows.fnExactLitTermsSpec.plain.varTypes Try.prog).any (Try.prog.loopsFrom ·)) = true := by kernel_rfl
theorem k_c5 : (Rows.fnExactLitTermsRow.wideKeys == (Try.f12.params.toList ++ Rows.fnExactLitTermsSpec.plain.varTypes Try.prog ++ Try.f12.resultTypes.toList).any (Try.prog.wideKeysFrom ·)) = true := by kernel_rfl
theorem k_d1 : Rows.fnExactLitTermsSpec.vars.all (Try.prog.varReadable ·) = true := by kernel_rfl
theorem k_d2 : Try.f12.resultTypes.all (fun t => Try.prog.readableRec t && decide (t < Try.prog.types.size)) = true := by kernel_rfl
theorem k_d3 : (Rows.fnExactLitTermsRow.ifacesOut == Try.f12.resultTypes.toList.any (Try.prog.ifacesRec ·)) = true := by kernel_rfl
theorem k_d4 : (Rows.fnExactLitTermsRow.loopsOut == Try.f12.resultTypes.toList.any (Try.prog.loopsFrom ·)) = true := by kernel_rfl
theorem k_d5 : (Rows.fnExactLitTermsRow.plainKeys == Try.prog.plainKeys) = true := by kernel_rfl
theorem k_d6 : Rows.fnExactLitTermsRow.shortTexts.isNone = true := by kernel_rfl
theorem k_d9 : (Rows.fnExactLitTermsRow.lifted == Try.prog.liftsFinal) = true := by rw [p_lifts]; kernel_rfl
theorem k_e1 : (Try.prog.make == some Rows.fnExactLitTermsRow.make) = true := by rw [p_make]; kernel_rfl
theorem k_e2 : (Rows.fnExactLitTermsRow.kinds == (if Rows.fnExactLitTermsRow.domain.isEmpty then [] else Try.f12.params.toList.map fun t => match Try.prog.underlying t with | some (.int k) => some k | _ => none)) = true := by kernel_rfl
theorem k_e3 : (Rows.fnExactLitTermsRow.pinned == Rows.fnExactLitTermsRow.pinnedBy) = true := by kernel_rfl
theorem k_e4 : (Rows.fnExactLitTermsRow.veiled == (Try.f12.params.toList ++ Rows.fnExactLitTermsSpec.plain.varTypes Try.prog ++ Try.f12.resultTypes.toList).any (Try.prog.veiledRec ·)) = true := by kernel_rfl
theorem k_e5 : Rows.fnExactLitTermsRow.veiledFits Try.prog Try.f12.params.toList (Try.f12.params.toList ++ Rows.fnExactLitTermsSpec.plain.varTypes Try.prog ++ Try.f12.resultTypes.toList) = true := by kernel_rfl
theorem k_name : Try.prog.funcNamed Rows.fnExactLitTermsRow.func = some 12 := by kernel_rfl
theorem k_inst : Try.f12.isInstance Try.prog Rows.fnExactLitTermsRow.origin Rows.fnExactLitTermsRow.targs := of_decide_eq_true (by kernel_rfl)
theorem k_wrap : Try.f12.isWrapper Try.prog Rows.fnExactLitTermsRow.wrapper Rows.fnExactLitTermsRow.mainSum := by unfold Func.isWrapper; first | (rw [if_pos (by decide +kernel)]; kernel_rfl) | (rw [if_neg (by decide +kernel)]; exact ⟨rfl, rfl⟩)
set_option maxRecDepth 100000 in
theorem k_closed : joinedFacts Try.prog 12 Try.f12 Rows.fnExactLitTermsSpec Rows.fnExactLitTermsRow = true := joined_of k_a1 p_laid p_rowed k_a4 k_a5 k_a6 p_stops k_a8 p_knobs k_b1 k_b2 k_b3 k_b4 k_c1 k_c2 k_c3 k_c4 k_c5 k_d1 k_d2 k_d3 k_d4 k_d5 k_d6 p_heard p_enter k_d9 k_e1 k_e2 k_e3 k_e4 k_e5
set_option maxRecDepth 100000 in
theorem holds : Rows.FnExactLitTermsSaid :=
  OpenClaim.holds_of_wide 12 Try.f12 rfl rfl rfl rfl rfl rfl rfl ⟨rfl, rfl, rfl, rfl, rfl⟩ rfl rfl rfl rfl rfl k_name Try.func12 k_closed k_inst k_wrap
    (fun os started H enc _ => lifted os started H enc)
end Go.Proofs.Ytanfljajafelgaa.PExactLitTerms
namespace Go.Proofs.Ytanfljajafelgaa
theorem proved_ExactLitTerms : Rows.FnExactLitTermsSaid := PExactLitTerms.holds
end Go.Proofs.Ytanfljajafelgaa
