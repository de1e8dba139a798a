/- For every input laws.FnCnfRup answers true, and each argument reads afterwards as it read before; there is no further condition. -/
import Derived.Test.YtoechhdahokoiaaRows
import Derived.Test.YtoechhdahokoiaaIO
import Derived.Test.YtoechhdahokoiaaJoin
import Derived.Test.YtoechhdahokoiaaCxW
import Derived.WalkKit
import Derived.ProofKit
import Derived.OpenShut
import Derived.Lib.SmallJoins
namespace Go.Proofs.Ytoechhdahokoiaa.PCnfRup
set_option linter.unusedVariables false
set_option linter.unusedSimpArgs false
open Go.Proofs.Ytoechhdahokoiaa
open Go.ChangeShapes Go.WideShapes Go.ChangeAt Go.RowKit Go.Joins Go.WideMaps Go.WideElems
theorem own : ownKnob Try.prog.godebug = none := by kernel_rfl
theorem laidOut : laidOutB Try.prog = true := by kernel_rfl
theorem cellsU : Try.prog.cellsOf 5 = 1 := by kernel_rfl
set_option maxRecDepth 100000 in
theorem lifted (os : Os) (started : os.Started) (H : Type) (enc : TypeId × Value → H) :
    ReturnsInHanded {} Try.checked os 6 .any (Rows.fnCnfRupSpec.pre6 enc Try.prog Try.f6 Rows.fnCnfRupRow.domain false) (Rows.fnCnfRupSpec.post enc Try.prog Try.f6 false true false false) := by
  refine returnsInHanded_of_change (C := Try.checked) own started (by kernel_rfl) Try.func6
    (ChangeSpec.witness6 (enc := enc) (C := Try.checked) false ⟨#[], #[.slice none 0 0], []⟩ 8 (by kernel_rfl) (by kernel_rfl) (by kernel_rfl) (by kernel_rfl)) ?_
  intro W base args ds gs before hval0 hW hcnd _
  have hval : ∀ (j : Nat) t v, Try.f6.params[j]? = some t → args[j]? = some v → Value.okWide Try.prog W .any base t v := hval0
  have hW' := hW
  obtain ⟨p, q, hA0, hV, rfl, hfz, hnd⟩ := hW
  have hA : DataW.TrodAll enc Try.prog W 0 (fun _ => true) true Try.f6.params.toList args.toList ds p := hA0
  rw [Try.params6] at hA hval
  obtain ⟨v0, d0, rfl, rfl, h0⟩ := trodAll_one hA
  obtain ⟨rfl, rfl⟩ := trodVars_none hV
  clear hA0
  simp only [List.append_nil] at hW'
  have hlt : ∀ x ∈ p, x.block < W.heap.size := fun x hx => by simpa using hW'.lt x hx
  have hargs0 : ∀ (W' : World), Below W.heap.size W W' → DataW.Trod enc Try.prog W' 0 (fun b => decide (b < W.heap.size)) true 22 v0 d0 p :=
    fun W' hn => Below.trod laidOut (by kernel_rfl) (of_decide_eq_true (by kernel_rfl)) h0 hn hlt
  obtain ⟨a0, len0, cap0, rfl⟩ := okWide_slice Try.underlying22 (hval 0 22 v0 rfl rfl)
  have hr0 := bytes_of Try.underlying22 Try.underlying5 cellsU h0
  clear hval0 hval hA
  refine (walk_CnfRup a0 len0 cap0 W hr0.1 hr0.2.1 hr0.2.2).mono fun e W' ⟨he, hg⟩ => ?_
  subst he
  exact ⟨_, rfl, _, _, _, [], _, [], hW', trodAll_mk1 (shut_bool Try.underlying4 _), trodAll_mk1 (hargs0 _ hg), rfl, hg.frame _, fun h => by cases h⟩
theorem k_a1 : Rows.fnCnfRupRow.wf (OpenSpec.ofChange Rows.fnCnfRupSpec) = true := by kernel_rfl
theorem k_a4 : Try.f6.params.all (Try.prog.readableRec ·) = true := by kernel_rfl
theorem k_a5 : namedTie Try.prog Rows.fnCnfRupRow.named Rows.fnCnfRupSpec.vars = true := by kernel_rfl
theorem k_a6 : (Rows.fnCnfRupRow.stops == []) = true := by kernel_rfl
theorem k_a8 : (Rows.fnCnfRupRow.knobs == []) = true := by kernel_rfl
theorem k_b1 : (Rows.fnCnfRupRow.inPlace == Try.prog.inPlace 6) = true := by kernel_rfl
theorem k_b2 : (Rows.fnCnfRupRow.unfollowed == Try.prog.unfollowed 6) = true := by kernel_rfl
theorem k_b3 : (Rows.fnCnfRupRow.recurses == Try.prog.recurses 6) = true := by kernel_rfl
theorem k_b4 : (Rows.fnCnfRupRow.named == Try.prog.varsNamed 6) = true := by kernel_rfl
theorem k_c1 : (Rows.fnCnfRupRow.maps == (Try.f6.params.toList ++ Rows.fnCnfRupSpec.plain.varTypes Try.prog).any (Try.prog.mapsRec ·)) = true := by kernel_rfl
theorem k_c2 : (Rows.fnCnfRupRow.ifaces == (Try.f6.params.toList ++ Rows.fnCnfRupSpec.plain.varTypes Try.prog).any (Try.prog.ifacesRec ·)) = true := by kernel_rfl
theorem k_c3 : (Rows.fnCnfRupRow.mapsOut == Try.prog.mapsAmong Try.f6.resultTypes.toList) = true := by kernel_rfl
theorem k_c4 : (Rows.fnCnfRupRow.loops == (Try.f6.params.toList ++ Rows.fnCnfRupSpec.plain.varTypes Try.prog).any (Try.prog.loopsFrom ·)) = true := by kernel_rfl
theorem k_c5 : (Rows.fnCnfRupRow.wideKeys == (Try.f6.params.toList ++ Rows.fnCnfRupSpec.plain.varTypes Try.prog ++ Try.f6.resultTypes.toList).any (Try.prog.wideKeysFrom ·)) = true := by kernel_rfl
theorem k_d1 : Rows.fnCnfRupSpec.vars.all (Try.prog.varReadable ·) = true := by kernel_rfl
theorem k_d2 : Try.f6.resultTypes.all (fun t => Try.prog.readableRec t && decide (t < Try.prog.types.size)) = true := by kernel_rfl
theorem k_d3 : (Rows.fnCnfRupRow.ifacesOut == Try.f6.resultTypes.toList.any (Try.prog.ifacesRec ·)) = true := by kernel_rfl
theorem k_d4 : (Rows.fnCnfRupRow.loopsOut == Try.f6.resultTypes.toList.any (Try.prog.loopsFrom ·)) = true := by kernel_rfl
theorem k_d5 : (Rows.fnCnfRupRow.plainKeys == Try.prog.plainKeys) = true := by kernel_rfl
theorem k_d6 : Rows.fnCnfRupRow.shortTexts.isNone = true := by kernel_rfl
theorem k_d9 : (Rows.fnCnfRupRow.lifted == Try.prog.liftsFinal) = true := by rw [p_lifts]; kernel_rfl
theorem k_e1 : (Try.prog.make == some Rows.fnCnfRupRow.make) = true := by rw [p_make]; kernel_rfl
theorem k_e2 : (Rows.fnCnfRupRow.kinds == (if Rows.fnCnfRupRow.domain.isEmpty then [] else Try.f6.params.toList.map fun t => match Try.prog.underlying t with | some (.int k) => some k | _ => none)) = true := by kernel_rfl
theorem k_e3 : (Rows.fnCnfRupRow.pinned == Rows.fnCnfRupRow.pinnedBy) = true := by kernel_rfl
theorem k_e4 : (Rows.fnCnfRupRow.veiled == (Try.f6.params.toList ++ Rows.fnCnfRupSpec.plain.varTypes Try.prog ++ Try.f6.resultTypes.toList).any (Try.prog.veiledRec ·)) = true := by kernel_rfl
theorem k_e5 : Rows.fnCnfRupRow.veiledFits Try.prog Try.f6.params.toList (Try.f6.params.toList ++ Rows.fnCnfRupSpec.plain.varTypes Try.prog ++ Try.f6.resultTypes.toList) = true := by kernel_rfl
theorem k_name : Try.prog.funcNamed Rows.fnCnfRupRow.func = some 6 := by kernel_rfl
theorem k_inst : Try.f6.isInstance Try.prog Rows.fnCnfRupRow.origin Rows.fnCnfRupRow.targs := of_decide_eq_true (by kernel_rfl)
theorem k_wrap : Try.f6.isWrapper Try.prog Rows.fnCnfRupRow.wrapper Rows.fnCnfRupRow.mainSum := by unfold Func.isWrapper; first | (rw [if_pos (by decide +kernel)]; kernel_rfl) | (rw [if_neg (by decide +kernel)]; exact ⟨rfl, rfl⟩)
set_option maxRecDepth 100000 in
theorem k_closed : joinedFacts Try.prog 6 Try.f6 Rows.fnCnfRupSpec Rows.fnCnfRupRow = true := joined_of k_a1 p_laid p_rowed k_a4 k_a5 k_a6 p_stops k_a8 p_knobs k_b1 k_b2 k_b3 k_b4 k_c1 k_c2 k_c3 k_c4 k_c5 k_d1 k_d2 k_d3 k_d4 k_d5 k_d6 p_heard p_enter k_d9 k_e1 k_e2 k_e3 k_e4 k_e5
set_option maxRecDepth 100000 in
theorem holds : Rows.FnCnfRupSaid :=
  OpenClaim.holds_of_wide 6 Try.f6 rfl rfl rfl rfl rfl rfl rfl ⟨rfl, rfl, rfl, rfl, rfl⟩ rfl rfl rfl rfl rfl k_name Try.func6 k_closed k_inst k_wrap
    (fun os started H enc _ => lifted os started H enc)
end Go.Proofs.Ytoechhdahokoiaa.PCnfRup
namespace Go.Proofs.Ytoechhdahokoiaa
theorem proved_CnfRup : Rows.FnCnfRupSaid := PCnfRup.holds
end Go.Proofs.Ytoechhdahokoiaa
