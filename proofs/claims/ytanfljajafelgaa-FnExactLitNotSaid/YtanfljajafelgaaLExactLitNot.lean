/- For every input laws.FnExactLitNot answers true, and each argument reads afterwards as it read before; there is no further condition. -/
import Derived.Test.YtanfljajafelgaaRows
import Derived.Test.YtanfljajafelgaaIO
import Derived.Test.YtanfljajafelgaaJoin
import Derived.Test.YtanfljajafelgaaBN
import Derived.WalkKit
import Derived.ProofKit
import Derived.OpenShut
import Derived.Lib.SmallJoins
import Derived.ChangeMaps5
import Derived.Test.YtanfljajafelgaaBO
namespace Go.Proofs.Ytanfljajafelgaa.PExactLitNot
set_option linter.unusedVariables false
set_option linter.unusedSimpArgs false
open Go.Proofs.Ytanfljajafelgaa
open Go.ChangeShapes Go.WideShapes Go.ChangeAt Go.RowKit Go.Joins Go.WideMaps Go.WideElems
theorem own : ownKnob Try.prog.godebug = none := by kernel_rfl
theorem laidOut : laidOutB Try.prog = true := by kernel_rfl
set_option maxRecDepth 100000 in
theorem lifted (os : Os) (started : os.Started) (H : Type) (enc : TypeId × Value → H) :
    ReturnsInHanded {} Try.checked os 11 .any (Rows.fnExactLitNotSpec.pre6 enc Try.prog Try.f11 Rows.fnExactLitNotRow.domain false) (Rows.fnExactLitNotSpec.post enc Try.prog Try.f11 false true false false) := by
  refine returnsInHanded_of_change (C := Try.checked) own started (by kernel_rfl) Try.func11
    (ChangeSpec.witness6 (enc := enc) (C := Try.checked) false ⟨#[], #[.agg #[.int .i64 0, .string ByteArray.empty, .slice none 0 0, .string ByteArray.empty, .slice none 0 0, .slice none 0 0, .slice none 0 0, .int .i64 0, .bool false, .bool false]], []⟩ 8 (by kernel_rfl) (by kernel_rfl) (by kernel_rfl) (by kernel_rfl)) ?_
  intro W base args ds gs before hval0 hW hcnd _
  have hval : ∀ (j : Nat) t v, Try.f11.params[j]? = some t → args[j]? = some v → Value.okWide Try.prog W .any base t v := hval0
  have hW' := hW
  obtain ⟨p, q, hA0, hV, rfl, hfz, hnd⟩ := hW
  have hA : DataW.TrodAll enc Try.prog W 0 (fun _ => true) true Try.f11.params.toList args.toList ds p := hA0
  rw [Try.params11] at hA hval
  obtain ⟨v0, d0, rfl, rfl, h0⟩ := trodAll_one hA
  obtain ⟨rfl, rfl⟩ := trodVars_none hV
  clear hA0
  simp only [List.append_nil] at hW'
  have hlt : ∀ x ∈ p, x.block < W.heap.size := fun x hx => by simpa using hW'.lt x hx
  have hargs0 : ∀ (W' : World), Below W.heap.size W W' → DataW.Trod enc Try.prog W' 0 (fun b => decide (b < W.heap.size)) true 100 v0 d0 p :=
    fun W' hn => Below.trod laidOut (by kernel_rfl) (of_decide_eq_true (by kernel_rfl)) h0 hn hlt
  obtain ⟨x0, no0, A10, c10, A20, c20, A30, c30, A40, c40, rfl, hF0, hZ0⟩ := lit_open (hval 0 100 v0 rfl rfl) h0
  clear hval0 hval hA
  refine (walk_ExactLitNot x0 no0 A10 c10 A20 c20 A30 c30 A40 c40 W hF0 hZ0).mono fun e W' ⟨he, hg⟩ => ?_
  subst he
  exact ⟨_, rfl, _, _, _, [], _, [], hW', trodAll_mk1 (shut_bool Try.underlying4 _), trodAll_mk1 (hargs0 _ hg), rfl, hg.frame _, fun h => by cases h⟩
theorem k_a1 : Rows.fnExactLitNotRow.wf (OpenSpec.ofChange Rows.fnExactLitNotSpec) = true := by kernel_rfl
theorem k_a4 : Try.f11.params.all (Try.prog.readableRec ·) = true := by kernel_rfl
theorem k_a5 : namedTie Try.prog Rows.fnExactLitNotRow.named Rows.fnExactLitNotSpec.vars = true := by kernel_rfl
theorem k_a6 : (Rows.fnExactLitNotRow.stops == []) = true := by kernel_rfl
theorem k_a8 : (Rows.fnExactLitNotRow.knobs == []) = true := by kernel_rfl
theorem k_b1 : (Rows.fnExactLitNotRow.inPlace == Try.prog.inPlace 11) = true := by kernel_rfl
theorem k_b2 : (Rows.fnExactLitNotRow.unfollowed == Try.prog.unfollowed 11) = true := by kernel_rfl
theorem k_b3 : (Rows.fnExactLitNotRow.recurses == Try.prog.recurses 11) = true := by kernel_rfl
theorem k_b4 : (Rows.fnExactLitNotRow.named == Try.prog.varsNamed 11) = true := by kernel_rfl
theorem k_c1 : (Rows.fnExactLitNotRow.maps == (Try.f11.params.toList ++ Rows.fnExactLitNotSpec.plain.varTypes Try.prog).any (Try.prog.mapsRec ·)) = true := by kernel_rfl
theorem k_c2 : (Rows.fnExactLitNotRow.ifaces == (Try.f11.params.toList ++ Rows.fnExactLitNotSpec.plain.varTypes Try.prog).any (Try.prog.ifacesRec ·)) = true := by kernel_rfl
theorem k_c3 : (Rows.fnExactLitNotRow.mapsOut == Try.prog.mapsAmong Try.f11.resultTypes.toList) = true := by kernel_rfl
theorem k_c4 : (Rows.fnExactLitNotRow.loops == (Try.f11.params.toList ++ Rows.fnExactLitNotSpec.plain.varTypes Try.prog).any (Try.prog.loopsFrom ·)) = true := by kernel_rfl
theorem k_c5 : (Rows.fnExactLitNotRow.wideKeys == (Try.f11.params.toList ++ Rows.fnExactLitNotSpec.plain.varTypes Try.prog ++ Try.f11.resultTypes.toList).any (Try.prog.wideKeysFrom ·)) = true := by kernel_rfl
theorem k_d1 : Rows.fnExactLitNotSpec.vars.all (Try.prog.varReadable ·) = true := by kernel_rfl
theorem k_d2 : Try.f11.resultTypes.all (fun t => Try.prog.readableRec t && decide (t < Try.prog.types.size)) = true := by kernel_rfl
theorem k_d3 : (Rows.fnExactLitNotRow.ifacesOut == Try.f11.resultTypes.toList.any (Try.prog.ifacesRec ·)) = true := by kernel_rfl
theorem k_d4 : (Rows.fnExactLitNotRow.loopsOut == Try.f11.resultTypes.toList.any (Try.prog.loopsFrom ·)) = true := by kernel_rfl
theorem k_d5 : (Rows.fnExactLitNotRow.plainKeys == Try.prog.plainKeys) = true := by kernel_rfl
theorem k_d6 : Rows.fnExactLitNotRow.shortTexts.isNone = true := by kernel_rfl
theorem k_d9 : (Rows.fnExactLitNotRow.lifted == Try.prog.liftsFinal) = true := by rw [p_lifts]; kernel_rfl
theorem k_e1 : (Try.prog.make == some Rows.fnExactLitNotRow.make) = true := by rw [p_make]; kernel_rfl
theorem k_e2 : (Rows.fnExactLitNotRow.kinds == (if Rows.fnExactLitNotRow.domain.isEmpty then [] else Try.f11.params.toList.map fun t => match Try.prog.underlying t with | some (.int k) => some k | _ => none)) = true := by kernel_rfl
theorem k_e3 : (Rows.fnExactLitNotRow.pinned == Rows.fnExactLitNotRow.pinnedBy) = true := by kernel_rfl
theorem k_e4 : (Rows.fnExactLitNotRow.veiled == (Try.f11.params.toList ++ Rows.fnExactLitNotSpec.plain.varTypes Try.prog ++ Try.f11.resultTypes.toList).any (Try.prog.veiledRec ·)) = true := by kernel_rfl
theorem k_e5 : Rows.fnExactLitNotRow.veiledFits Try.prog Try.f11.params.toList (Try.f11.params.toList ++ Rows.fnExactLitNotSpec.plain.varTypes Try.prog ++ Try.f11.resultTypes.toList) = true := by kernel_rfl
theorem k_name : Try.prog.funcNamed Rows.fnExactLitNotRow.func = some 11 := by kernel_rfl
theorem k_inst : Try.f11.isInstance Try.prog Rows.fnExactLitNotRow.origin Rows.fnExactLitNotRow.targs := of_decide_eq_true (by kernel_rfl)
theorem k_wrap : Try.f11.isWrapper Try.prog Rows.fnExactLitNotRow.wrapper Rows.fnExactLitNotRow.mainSum := by unfold Func.isWrapper; first | (rw [if_pos (by decide +kernel)]; kernel_rfl) | (rw [if_neg (by decide +kernel)]; exact ⟨rfl, rfl⟩)
set_option maxRecDepth 100000 in
theorem k_closed : joinedFacts Try.prog 11 Try.f11 Rows.fnExactLitNotSpec Rows.fnExactLitNotRow = true := joined_of k_a1 p_laid p_rowed k_a4 k_a5 k_a6 p_stops k_a8 p_knobs k_b1 k_b2 k_b3 k_b4 k_c1 k_c2 k_c3 k_c4 k_c5 k_d1 k_d2 k_d3 k_d4 k_d5 k_d6 p_heard p_enter k_d9 k_e1 k_e2 k_e3 k_e4 k_e5
set_option maxRecDepth 100000 in
theorem holds : Rows.FnExactLitNotSaid :=
  OpenClaim.holds_of_wide 11 Try.f11 rfl rfl rfl rfl rfl rfl rfl ⟨rfl, rfl, rfl, rfl, rfl⟩ rfl rfl rfl rfl rfl k_name Try.func11 k_closed k_inst k_wrap
    (fun os started H enc _ => lifted os started H enc)
end Go.Proofs.Ytanfljajafelgaa.PExactLitNot
namespace Go.Proofs.Ytanfljajafelgaa
theorem proved_ExactLitNot : Rows.FnExactLitNotSaid := PExactLitNot.holds
end Go.Proofs.Ytanfljajafelgaa
