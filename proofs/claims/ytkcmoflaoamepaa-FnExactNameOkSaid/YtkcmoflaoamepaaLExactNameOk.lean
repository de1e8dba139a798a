/- For every input laws.FnExactNameOk answers true, and each argument reads afterwards as it read before; there is no further condition. -/
import Derived.Test.YtkcmoflaoamepaaRows
import Derived.Test.YtkcmoflaoamepaaIO
import Derived.Test.YtkcmoflaoamepaaJoin
import Derived.Test.YtkcmoflaoamepaaNameA
import Derived.WalkKit
import Derived.ProofKit
import Derived.OpenShut
import Derived.Lib.SmallJoins
import Derived.ChangeMaps5
namespace Go.Proofs.Ytkcmoflaoamepaa.PExactNameOk
set_option linter.unusedVariables false
set_option linter.unusedSimpArgs false
open Go.Proofs.Ytkcmoflaoamepaa
open Go.ChangeShapes Go.WideShapes Go.ChangeAt Go.RowKit Go.Joins Go.WideMaps Go.WideElems
theorem own : ownKnob Try.prog.godebug = none := by kernel_rfl
theorem laidOut : laidOutB Try.prog = true := by kernel_rfl
set_option maxRecDepth 100000 in
theorem lifted (os : Os) (started : os.Started) (H : Type) (enc : TypeId × Value → H) :
    ReturnsInHanded {} Try.checked os 7 .any (Rows.fnExactNameOkSpec.pre6 enc Try.prog Try.f7 Rows.fnExactNameOkRow.domain false) (Rows.fnExactNameOkSpec.post enc Try.prog Try.f7 false true false false) := by
  refine returnsInHanded_of_change (C := Try.checked) own started (by kernel_rfl) Try.func7
    (ChangeSpec.witness6 (enc := enc) (C := Try.checked) false ⟨#[], #[.string ByteArray.empty], []⟩ 8 (by kernel_rfl) (by kernel_rfl) (by kernel_rfl) (by kernel_rfl)) ?_
  intro W base args ds gs before hval0 hW hcnd _
  have hval : ∀ (j : Nat) t v, Try.f7.params[j]? = some t → args[j]? = some v → Value.okWide Try.prog W .any base t v := hval0
  have hW' := hW
  obtain ⟨p, q, hA0, hV, rfl, hfz, hnd⟩ := hW
  have hA : DataW.TrodAll enc Try.prog W 0 (fun _ => true) true Try.f7.params.toList args.toList ds p := hA0
  rw [Try.params7] at hA hval
  obtain ⟨v0, d0, rfl, rfl, h0⟩ := trodAll_one hA
  obtain ⟨rfl, rfl⟩ := trodVars_none hV
  clear hA0
  simp only [List.append_nil] at hW'
  have hlt : ∀ x ∈ p, x.block < W.heap.size := fun x hx => by simpa using hW'.lt x hx
  have hargs0 : ∀ (W' : World), Below W.heap.size W W' → DataW.Trod enc Try.prog W' 0 (fun b => decide (b < W.heap.size)) true 9 v0 d0 p :=
    fun W' hn => Below.trod laidOut (by kernel_rfl) (of_decide_eq_true (by kernel_rfl)) h0 hn hlt
  obtain ⟨s0, rfl, _, _, hs0⟩ := Go.ChangeMaps.open_string Try.underlying9 (hval 0 9 v0 rfl rfl) h0
  clear hval0 hval hA
  refine (walk_ExactNameOk s0 W hs0).mono fun e W' ⟨he, hg⟩ => ?_
  subst he
  exact ⟨_, rfl, _, _, _, [], _, [], hW', trodAll_mk1 (shut_bool Try.underlying4 _), trodAll_mk1 (hargs0 _ hg), rfl, hg.frame _, fun h => by cases h⟩
theorem k_a1 : Rows.fnExactNameOkRow.wf (OpenSpec.ofChange Rows.fnExactNameOkSpec) = true := by kernel_rfl
theorem k_a4 : Try.f7.params.all (Try.prog.readableRec ·) = true := by kernel_rfl
theorem k_a5 : namedTie Try.prog Rows.fnExactNameOkRow.named Rows.fnExactNameOkSpec.vars = true := by kernel_rfl
theorem k_a6 : (Rows.fnExactNameOkRow.stops == []) = true := by kernel_rfl
theorem k_a8 : (Rows.fnExactNameOkRow.knobs == []) = true := by kernel_rfl
theorem k_b1 : (Rows.fnExactNameOkRow.inPlace == Try.prog.inPlace 7) = true := by kernel_rfl
theorem k_b2 : (Rows.fnExactNameOkRow.unfollowed == Try.prog.unfollowed 7) = true := by kernel_rfl
theorem k_b3 : (Rows.fnExactNameOkRow.recurses == Try.prog.recurses 7) = true := by kernel_rfl
theorem k_b4 : (Rows.fnExactNameOkRow.named == Try.prog.varsNamed 7) = true := by kernel_rfl
theorem k_c1 : (Rows.fnExactNameOkRow.maps == (Try.f7.params.toList ++ Rows.fnExactNameOkSpec.plain.varTypes Try.prog).any (Try.prog.mapsRec ·)) = true := by kernel_rfl
theorem k_c2 : (Rows.fnExactNameOkRow.ifaces == (Try.f7.params.toList ++ Rows.fnExactNameOkSpec.plain.varTypes Try.prog).any (Try.prog.ifacesRec ·)) = true := by kernel_rfl
theorem k_c3 : (Rows.fnExactNameOkRow.mapsOut == Try.prog.mapsAmong Try.f7.resultTypes.toList) = true := by kernel_rfl
theorem k_c4 : (Rows.fnExactNameOkRow.loops == (Try.f7.params.toList ++ Rows.fnExactNameOkSpec.plain.varTypes Try.prog).any (Try.prog.loopsFrom ·)) = true := by kernel_rfl
theorem k_c5 : (Rows.fnExactNameOkRow.wideKeys == (Try.f7.params.toList ++ Rows.fnExactNameOkSpec.plain.varTypes Try.prog ++ Try.f7.resultTypes.toList).any (Try.prog.wideKeysFrom ·)) = true := by kernel_rfl
theorem k_d1 : Rows.fnExactNameOkSpec.vars.all (Try.prog.varReadable ·) = true := by kernel_rfl
theorem k_d2 : Try.f7.resultTypes.all (fun t => Try.prog.readableRec t && decide (t < Try.prog.types.size)) = true := by kernel_rfl
theorem k_d3 : (Rows.fnExactNameOkRow.ifacesOut == Try.f7.resultTypes.toList.any (Try.prog.ifacesRec ·)) = true := by kernel_rfl
theorem k_d4 : (Rows.fnExactNameOkRow.loopsOut == Try.f7.resultTypes.toList.any (Try.prog.loopsFrom ·)) = true := by kernel_rfl
theorem k_d5 : (Rows.fnExactNameOkRow.plainKeys == Try.prog.plainKeys) = true := by kernel_rfl
theorem k_d6 : Rows.fnExactNameOkRow.shortTexts.isNone = true := by kernel_rfl
theorem k_d9 : (Rows.fnExactNameOkRow.lifted == Try.prog.liftsFinal) = true := by rw [p_lifts]; kernel_rfl
theorem k_e1 : (Try.prog.make == some Rows.fnExactNameOkRow.make) = true := by rw [p_make]; kernel_rfl
theorem k_e2 : (Rows.fnExactNameOkRow.kinds == (if Rows.fnExactNameOkRow.domain.isEmpty then [] else Try.f7.params.toList.map fun t => match Try.prog.underlying t with | some (.int k) => some k | _ => none)) = true := by kernel_rfl
theorem k_e3 : (Rows.fnExactNameOkRow.pinned == Rows.fnExactNameOkRow.pinnedBy) = true := by kernel_rfl
theorem k_e4 : (Rows.fnExactNameOkRow.veiled == (Try.f7.params.toList ++ Rows.fnExactNameOkSpec.plain.varTypes Try.prog ++ Try.f7.resultTypes.toList).any (Try.prog.veiledRec ·)) = true := by kernel_rfl
theorem k_e5 : Rows.fnExactNameOkRow.veiledFits Try.prog Try.f7.params.toList (Try.f7.params.toList ++ Rows.fnExactNameOkSpec.plain.varTypes Try.prog ++ Try.f7.resultTypes.toList) = true := by kernel_rfl
theorem k_name : Try.prog.funcNamed Rows.fnExactNameOkRow.func = some 7 := by kernel_rfl
theorem k_inst : Try.f7.isInstance Try.prog Rows.fnExactNameOkRow.origin Rows.fnExactNameOkRow.targs := of_decide_eq_true (by kernel_rfl)
theorem k_wrap : Try.f7.isWrapper Try.prog Rows.fnExactNameOkRow.wrapper Rows.fnExactNameOkRow.mainSum := by unfold Func.isWrapper; first | (rw [if_pos (by decide +kernel)]; kernel_rfl) | (rw [if_neg (by decide +kernel)]; exact ⟨rfl, rfl⟩)
set_option maxRecDepth 100000 in
theorem k_closed : joinedFacts Try.prog 7 Try.f7 Rows.fnExactNameOkSpec Rows.fnExactNameOkRow = true := joined_of k_a1 p_laid p_rowed k_a4 k_a5 k_a6 p_stops k_a8 p_knobs k_b1 k_b2 k_b3 k_b4 k_c1 k_c2 k_c3 k_c4 k_c5 k_d1 k_d2 k_d3 k_d4 k_d5 k_d6 p_heard p_enter k_d9 k_e1 k_e2 k_e3 k_e4 k_e5
set_option maxRecDepth 100000 in
theorem holds : Rows.FnExactNameOkSaid :=
  OpenClaim.holds_of_wide 7 Try.f7 rfl rfl rfl rfl rfl rfl rfl ⟨rfl, rfl, rfl, rfl, rfl⟩ rfl rfl rfl rfl rfl k_name Try.func7 k_closed k_inst k_wrap
    (fun os started H enc _ => lifted os started H enc)
end Go.Proofs.Ytkcmoflaoamepaa.PExactNameOk
namespace Go.Proofs.Ytkcmoflaoamepaa
theorem proved_ExactNameOk : Rows.FnExactNameOkSaid := PExactNameOk.holds
end Go.Proofs.Ytkcmoflaoamepaa
