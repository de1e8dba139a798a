/- For every input laws.FnCnfSame answers true, and each argument reads afterwards as it read before; there is no further condition. -/
import Derived.Test.YtoechhdahokoiaaRows
import Derived.Test.YtoechhdahokoiaaIO
import Derived.Test.YtoechhdahokoiaaJoin
import Derived.Test.YtoechhdahokoiaaCmW
import Derived.WalkKit
import Derived.ProofKit
import Derived.OpenShut
import Derived.Lib.SmallJoins
namespace Go.Proofs.Ytoechhdahokoiaa.PCnfSame
set_option linter.unusedVariables false
set_option linter.unusedSimpArgs false
open Go.Proofs.Ytoechhdahokoiaa
open Go.ChangeShapes Go.WideShapes Go.ChangeAt Go.RowKit Go.Joins Go.WideMaps Go.WideElems
theorem own : ownKnob Try.prog.godebug = none := by kernel_rfl
theorem laidOut : laidOutB Try.prog = true := by kernel_rfl
theorem cellsU : Try.prog.cellsOf 5 = 1 := by kernel_rfl
set_option maxRecDepth 100000 in
theorem lifted (os : Os) (started : os.Started) (H : Type) (enc : TypeId × Value → H) :
    ReturnsInHanded {} Try.checked os 4 .any (Rows.fnCnfSameSpec.pre6 enc Try.prog Try.f4 Rows.fnCnfSameRow.domain false) (Rows.fnCnfSameSpec.post enc Try.prog Try.f4 false true false false) := by
  refine returnsInHanded_of_change (C := Try.checked) own started (by kernel_rfl) Try.func4
    (ChangeSpec.witness6 (enc := enc) (C := Try.checked) false ⟨#[], #[.slice none 0 0], []⟩ 8 (by kernel_rfl) (by kernel_rfl) (by kernel_rfl) (by kernel_rfl)) ?_
  intro W base args ds gs before hval0 hW hcnd _
  have hval : ∀ (j : Nat) t v, Try.f4.params[j]? = some t → args[j]? = some v → Value.okWide Try.prog W .any base t v := hval0
  have hW' := hW
  obtain ⟨p, q, hA0, hV, rfl, hfz, hnd⟩ := hW
  have hA : DataW.TrodAll enc Try.prog W 0 (fun _ => true) true Try.f4.params.toList args.toList ds p := hA0
  rw [Try.params4] at hA hval
  obtain ⟨v0, d0, rfl, rfl, h0⟩ := trodAll_one hA
  obtain ⟨rfl, rfl⟩ := trodVars_none hV
  clear hA0
  simp only [List.append_nil] at hW'
  have hlt : ∀ x ∈ p, x.block < W.heap.size := fun x hx => by simpa using hW'.lt x hx
  have hargs0 : ∀ (W' : World), Below W.heap.size W W' → DataW.Trod enc Try.prog W' 0 (fun b => decide (b < W.heap.size)) true 22 v0 d0 p :=
    fun W' hn => Below.trod laidOut (by kernel_rfl) (of_decide_eq_true (by kernel_rfl)) h0 hn hlt
  obtain ⟨a0, len0, cap0, rfl⟩ := okWide_slice Try.underlying22 (hval 0 22 v0 rfl rfl)
  have hr0 := bytes_of Try.underlying22 Try.underlying5 cellsU h0
  clear hval0 hval hA
  refine (walk_CnfSame a0 len0 cap0 W hr0.1 hr0.2.1 hr0.2.2).mono fun e W' ⟨he, hg⟩ => ?_
  subst he
  exact ⟨_, rfl, _, _, _, [], _, [], hW', trodAll_mk1 (shut_bool Try.underlying4 _), trodAll_mk1 (hargs0 _ hg), rfl, hg.frame _, fun h => by cases h⟩
theorem k_a1 : Rows.fnCnfSameRow.wf (OpenSpec.ofChange Rows.fnCnfSameSpec) = true := by kernel_rfl
theorem k_a4 : Try.f4.params.all (Try.prog.readableRec ·) = true := by kernel_rfl
theorem k_a5 : namedTie Try.prog Rows.fnCnfSameRow.named Rows.fnCnfSameSpec.vars = true := by kernel_rfl
theorem k_a6 : (Rows.fnCnfSameRow.stops == []) = true := by kernel_rfl
theorem k_a8 : (Rows.fnCnfSameRow.knobs == []) = true := by kernel_rfl
theorem k_b1 : (Rows.fnCnfSameRow.inPlace == Try.prog.inPlace 4) = true := by kernel_rfl
theorem k_b2 : (Rows.fnCnfSameRow.unfollowed == Try.prog.unfollowed 4) = true := by kernel_rfl
theorem k_b3 : (Rows.fnCnfSameRow.recurses == Try.prog.recurses 4) = true := by kernel_rfl
theorem k_b4 : (Rows.fnCnfSameRow.named == Try.prog.varsNamed 4) = true := by kernel_rfl
theorem k_c1 : (Rows.fnCnfSameRow.maps == (Try.f4.params.toList ++ Rows.fnCnfSameSpec.plain.varTypes Try.prog).any (Try.prog.mapsRec ·)) = true := by kernel_rfl
theorem k_c2 : (Rows.fnCnfSameRow.ifaces == (Try.f4.params.toList ++ Rows.fnCnfSameSpec.plain.varTypes Try.prog).any (Try.prog.ifacesRec ·)) = true := by kernel_rfl
theorem k_c3 : (Rows.fnCnfSameRow.mapsOut == Try.prog.mapsAmong Try.f4.resultTypes.toList) = true := by kernel_rfl
theorem k_c4 : (Rows.fnCnfSameRow.loops == (Try.f4.params.toList ++ Rows.fnCnfSameSpec.plain.varTypes Try.prog).any (Try.prog.loopsFrom ·)) = true := by kernel_rfl
theorem k_c5 : (Rows.fnCnfSameRow.wideKeys == (Try.f4.params.toList ++ Rows.fnCnfSameSpec.plain.varTypes Try.prog ++ Try.f4.resultTypes.toList).any (Try.prog.wideKeysFrom ·)) = true := by kernel_rfl
theorem k_d1 : Rows.fnCnfSameSpec.vars.all (Try.prog.varReadable ·) = true := by kernel_rfl
theorem k_d2 : Try.f4.resultTypes.all (fun t => Try.prog.readableRec t && decide (t < Try.prog.types.size)) = true := by kernel_rfl
theorem k_d3 : (Rows.fnCnfSameRow.ifacesOut == Try.f4.resultTypes.toList.any (Try.prog.ifacesRec ·)) = true := by kernel_rfl
theorem k_d4 : (Rows.fnCnfSameRow.loopsOut == Try.f4.resultTypes.toList.any (Try.prog.loopsFrom ·)) = true := by kernel_rfl
theorem k_d5 : (Rows.fnCnfSameRow.plainKeys == Try.prog.plainKeys) = true := by kernel_rfl
theorem k_d6 : Rows.fnCnfSameRow.shortTexts.isNone = true := by kernel_rfl
theorem k_d9 : (Rows.fnCnfSameRow.lifted == Try.prog.liftsFinal) = true := by rw [p_lifts]; kernel_rfl
theorem k_e1 : (Try.prog.make == some Rows.fnCnfSameRow.make) = true := by rw [p_make]; kernel_rfl
theorem k_e2 : (Rows.fnCnfSameRow.kinds == (if Rows.fnCnfSameRow.domain.isEmpty then [] else Try.f4.params.toList.map fun t => match Try.prog.underlying t with | some (.int k) => some k | _ => none)) = true := by kernel_rfl
theorem k_e3 : (Rows.fnCnfSameRow.pinned == Rows.fnCnfSameRow.pinnedBy) = true := by kernel_rfl
theorem k_e4 : (Rows.fnCnfSameRow.veiled == (Try.f4.params.toList ++ Rows.fnCnfSameSpec.plain.varTypes Try.prog ++ Try.f4.resultTypes.toList).any (Try.prog.veiledRec ·)) = true := by kernel_rfl
theorem k_e5 : Rows.fnCnfSameRow.veiledFits Try.prog Try.f4.params.toList (Try.f4.params.toList ++ Rows.fnCnfSameSpec.plain.varTypes Try.prog ++ Try.f4.resultTypes.toList) = true := by kernel_rfl
theorem k_name : Try.prog.funcNamed Rows.fnCnfSameRow.func = some 4 := by kernel_rfl
theorem k_inst : Try.f4.isInstance Try.prog Rows.fnCnfSameRow.origin Rows.fnCnfSameRow.targs := of_decide_eq_true (by kernel_rfl)
theorem k_wrap : Try.f4.isWrapper Try.prog Rows.fnCnfSameRow.wrapper Rows.fnCnfSameRow.mainSum := by unfold Func.isWrapper; first | (rw [if_pos (by decide +kernel)]; kernel_rfl) | (rw [if_neg (by decide +kernel)]; exact ⟨rfl, rfl⟩)
set_option maxRecDepth 100000 in
theorem k_closed : joinedFacts Try.prog 4 Try.f4 Rows.fnCnfSameSpec Rows.fnCnfSameRow = true := joined_of k_a1 p_laid p_rowed k_a4 k_a5 k_a6 p_stops k_a8 p_knobs k_b1 k_b2 k_b3 k_b4 k_c1 k_c2 k_c3 k_c4 k_c5 k_d1 k_d2 k_d3 k_d4 k_d5 k_d6 p_heard p_enter k_d9 k_e1 k_e2 k_e3 k_e4 k_e5
set_option maxRecDepth 100000 in
theorem holds : Rows.FnCnfSameSaid :=
  OpenClaim.holds_of_wide 4 Try.f4 rfl rfl rfl rfl rfl rfl rfl ⟨rfl, rfl, rfl, rfl, rfl⟩ rfl rfl rfl rfl rfl k_name Try.func4 k_closed k_inst k_wrap
    (fun os started H enc _ => lifted os started H enc)
end Go.Proofs.Ytoechhdahokoiaa.PCnfSame
namespace Go.Proofs.Ytoechhdahokoiaa
theorem proved_CnfSame : Rows.FnCnfSameSaid := PCnfSame.holds
end Go.Proofs.Ytoechhdahokoiaa
