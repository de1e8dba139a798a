/- For every input laws.FnExactLogEnds answers true, and each argument reads afterwards as it read before; there is no further condition. -/
import Derived.Test.YtjnngijilkdhbaaRows
import Derived.Test.YtjnngijilkdhbaaIO
import Derived.Test.YtjnngijilkdhbaaJoin
import Derived.Test.YtjnngijilkdhbaaLeA
import Derived.WalkKit
import Derived.ProofKit
import Derived.OpenShut
import Derived.Lib.SmallJoins
import Derived.Test.YtjnngijilkdhbaaFramC
namespace Go.Proofs.Ytjnngijilkdhbaa.PExactLogEnds
set_option linter.unusedVariables false
set_option linter.unusedSimpArgs false
open Go.Proofs.Ytjnngijilkdhbaa
open Go.ChangeShapes Go.WideShapes Go.ChangeAt Go.RowKit Go.Joins Go.WideMaps Go.WideElems
theorem own : ownKnob Try.prog.godebug = none := by kernel_rfl
theorem laidOut : laidOutB Try.prog = true := by kernel_rfl
set_option maxRecDepth 100000 in
theorem lifted (os : Os) (started : os.Started) (H : Type) (enc : TypeId × Value → H) :
    ReturnsInHanded {} Try.checked os 3 .any (Rows.fnExactLogEndsSpec.pre6 enc Try.prog Try.f3 Rows.fnExactLogEndsRow.domain false) (Rows.fnExactLogEndsSpec.post enc Try.prog Try.f3 false true false false) := by
  refine returnsInHanded_of_change (C := Try.checked) own started (by kernel_rfl) Try.func3
    (ChangeSpec.witness6 (enc := enc) (C := Try.checked) false ⟨#[], #[.slice none 0 0], []⟩ 8 (by kernel_rfl) (by kernel_rfl) (by kernel_rfl) (by kernel_rfl)) ?_
  intro W base args ds gs before hval0 hW hcnd _
  have hval : ∀ (j : Nat) t v, Try.f3.params[j]? = some t → args[j]? = some v → Value.okWide Try.prog W .any base t v := hval0
  have hW' := hW
  obtain ⟨p, q, hA0, hV, rfl, hfz, hnd⟩ := hW
  have hA : DataW.TrodAll enc Try.prog W 0 (fun _ => true) true Try.f3.params.toList args.toList ds p := hA0
  rw [Try.params3] at hA hval
  obtain ⟨v0, d0, rfl, rfl, h0⟩ := trodAll_one hA
  obtain ⟨rfl, rfl⟩ := trodVars_none hV
  clear hA0
  simp only [List.append_nil] at hW'
  have hlt : ∀ x ∈ p, x.block < W.heap.size := fun x hx => by simpa using hW'.lt x hx
  have hargs0 : ∀ (W' : World), Below W.heap.size W W' → DataW.Trod enc Try.prog W' 0 (fun b => decide (b < W.heap.size)) true 22 v0 d0 p :=
    fun W' hn => Below.trod laidOut (by kernel_rfl) (of_decide_eq_true (by kernel_rfl)) h0 hn hlt
  obtain ⟨A0, n0, c0, L0, rfl, hZ0, hn0⟩ := intssW_open (hval 0 22 v0 rfl rfl) h0
  clear hval0 hval hA
  refine (walk_ExactLogEnds A0 n0 c0 L0 W hn0 hZ0).mono fun e W' ⟨he, hg⟩ => ?_
  subst he
  exact ⟨_, rfl, _, _, _, [], _, [], hW', trodAll_mk1 (shut_bool Try.underlying4 _), trodAll_mk1 (hargs0 _ hg), rfl, hg.frame _, fun h => by cases h⟩
theorem k_a1 : Rows.fnExactLogEndsRow.wf (OpenSpec.ofChange Rows.fnExactLogEndsSpec) = true := by kernel_rfl
theorem k_a4 : Try.f3.params.all (Try.prog.readableRec ·) = true := by kernel_rfl
theorem k_a5 : namedTie Try.prog Rows.fnExactLogEndsRow.named Rows.fnExactLogEndsSpec.vars = true := by kernel_rfl
theorem k_a6 : (Rows.fnExactLogEndsRow.stops == []) = true := by kernel_rfl
theorem k_a8 : (Rows.fnExactLogEndsRow.knobs == []) = true := by kernel_rfl
theorem k_b1 : (Rows.fnExactLogEndsRow.inPlace == Try.prog.inPlace 3) = true := by kernel_rfl
theorem k_b2 : (Rows.fnExactLogEndsRow.unfollowed == Try.prog.unfollowed 3) = true := by kernel_rfl
theorem k_b3 : (Rows.fnExactLogEndsRow.recurses == Try.prog.recurses 3) = true := by kernel_rfl
theorem k_b4 : (Rows.fnExactLogEndsRow.named == Try.prog.varsNamed 3) = true := by kernel_rfl
theorem k_c1 : (Rows.fnExactLogEndsRow.maps == (Try.f3.params.toList ++ Rows.fnExactLogEndsSpec.plain.varTypes Try.prog).any (Try.prog.mapsRec ·)) = true := by kernel_rfl
theorem k_c2 : (Rows.fnExactLogEndsRow.ifaces == (Try.f3.params.toList ++ Rows.fnExactLogEndsSpec.plain.varTypes Try.prog).any (Try.prog.ifacesRec ·)) = true := by kernel_rfl
theorem k_c3 : (Rows.fnExactLogEndsRow.mapsOut == Try.prog.mapsAmong Try.f3.resultTypes.toList) = true := by kernel_rfl
theorem k_c4 : (Rows.fnExactLogEndsRow.loops == (Try.f3.params.toList ++ Rows.fnExactLogEndsSpec.plain.varTypes Try.prog).any (Try.prog.loopsFrom ·)) = true := by kernel_rfl
theorem k_c5 : (Rows.fnExactLogEndsRow.wideKeys == (Try.f3.params.toList ++ Rows.fnExactLogEndsSpec.plain.varTypes Try.prog ++ Try.f3.resultTypes.toList).any (Try.prog.wideKeysFrom ·)) = true := by kernel_rfl
theorem k_d1 : Rows.fnExactLogEndsSpec.vars.all (Try.prog.varReadable ·) = true := by kernel_rfl
theorem k_d2 : Try.f3.resultTypes.all (fun t => Try.prog.readableRec t && decide (t < Try.prog.types.size)) = true := by kernel_rfl
theorem k_d3 : (Rows.fnExactLogEndsRow.ifacesOut == Try.f3.resultTypes.toList.any (Try.prog.ifacesRec ·)) = true := by kernel_rfl
theorem k_d4 : (Rows.fnExactLogEndsRow.loopsOut == Try.f3.resultTypes.toList.any (Try.prog.loopsFrom ·)) = true := by kernel_rfl
theorem k_d5 : (Rows.fnExactLogEndsRow.plainKeys == Try.prog.plainKeys) = true := by kernel_rfl
theorem k_d6 : Rows.fnExactLogEndsRow.shortTexts.isNone = true := by kernel_rfl
theorem k_d9 : (Rows.fnExactLogEndsRow.lifted == Try.prog.liftsFinal) = true := by rw [p_lifts]; kernel_rfl
theorem k_e1 : (Try.prog.make == some Rows.fnExactLogEndsRow.make) = true := by rw [p_make]; kernel_rfl
theorem k_e2 : (Rows.fnExactLogEndsRow.kinds == (if Rows.fnExactLogEndsRow.domain.isEmpty then [] else Try.f3.params.toList.map fun t => match Try.prog.underlying t with | some (.int k) => some k | _ => none)) = true := by kernel_rfl
theorem k_e3 : (Rows.fnExactLogEndsRow.pinned == Rows.fnExactLogEndsRow.pinnedBy) = true := by kernel_rfl
theorem k_e4 : (Rows.fnExactLogEndsRow.veiled == (Try.f3.params.toList ++ Rows.fnExactLogEndsSpec.plain.varTypes Try.prog ++ Try.f3.resultTypes.toList).any (Try.prog.veiledRec ·)) = true := by kernel_rfl
theorem k_e5 : Rows.fnExactLogEndsRow.veiledFits Try.prog Try.f3.params.toList (Try.f3.params.toList ++ Rows.fnExactLogEndsSpec.plain.varTypes Try.prog ++ Try.f3.resultTypes.toList) = true := by kernel_rfl
theorem k_name : Try.prog.funcNamed Rows.fnExactLogEndsRow.func = some 3 := by kernel_rfl
theorem k_inst : Try.f3.isInstance Try.prog Rows.fnExactLogEndsRow.origin Rows.fnExactLogEndsRow.targs := of_decide_eq_true (by kernel_rfl)
theorem k_wrap : Try.f3.isWrapper Try.prog Rows.fnExactLogEndsRow.wrapper Rows.fnExactLogEndsRow.mainSum := by unfold Func.isWrapper; first | (rw [if_pos (by decide +kernel)]; kernel_rfl) | (rw [if_neg (by decide +kernel)]; exact ⟨rfl, rfl⟩)
set_option maxRecDepth 100000 in
theorem k_closed : joinedFacts Try.prog 3 Try.f3 Rows.fnExactLogEndsSpec Rows.fnExactLogEndsRow = true := joined_of k_a1 p_laid p_rowed k_a4 k_a5 k_a6 p_stops k_a8 p_knobs k_b1 k_b2 k_b3 k_b4 k_c1 k_c2 k_c3 k_c4 k_c5 k_d1 k_d2 k_d3 k_d4 k_d5 k_d6 p_heard p_enter k_d9 k_e1 k_e2 k_e3 k_e4 k_e5
set_option maxRecDepth 100000 in
theorem holds : Rows.FnExactLogEndsSaid :=
  OpenClaim.holds_of_wide 3 Try.f3 rfl rfl rfl rfl rfl rfl rfl ⟨rfl, rfl, rfl, rfl, rfl⟩ rfl rfl rfl rfl rfl k_name Try.func3 k_closed k_inst k_wrap
    (fun os started H enc _ => lifted os started H enc)
end Go.Proofs.Ytjnngijilkdhbaa.PExactLogEnds
namespace Go.Proofs.Ytjnngijilkdhbaa
theorem proved_ExactLogEnds : Rows.FnExactLogEndsSaid := PExactLogEnds.holds
end Go.Proofs.Ytjnngijilkdhbaa
