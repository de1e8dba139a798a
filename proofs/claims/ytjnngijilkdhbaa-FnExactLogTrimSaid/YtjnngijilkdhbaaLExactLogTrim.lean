/- For every input laws.FnExactLogTrim answers true, and each argument reads afterwards as it read before; there is no further condition. -/
import Derived.Test.YtjnngijilkdhbaaRows
import Derived.Test.YtjnngijilkdhbaaIO
import Derived.Test.YtjnngijilkdhbaaJoin
import Derived.Test.YtjnngijilkdhbaaLgW
import Derived.WalkKit
import Derived.ProofKit
import Derived.OpenShut
import Derived.Lib.SmallJoins
import Derived.Test.YtjnngijilkdhbaaFramC
namespace Go.Proofs.Ytjnngijilkdhbaa.PExactLogTrim
set_option linter.unusedVariables false
set_option linter.unusedSimpArgs false
open Go.Proofs.Ytjnngijilkdhbaa
open Go.ChangeShapes Go.WideShapes Go.ChangeAt Go.RowKit Go.Joins Go.WideMaps Go.WideElems
theorem own : ownKnob Try.prog.godebug = none := by kernel_rfl
theorem laidOut : laidOutB Try.prog = true := by kernel_rfl
set_option maxRecDepth 100000 in
theorem lifted (os : Os) (started : os.Started) (H : Type) (enc : TypeId × Value → H) :
    ReturnsInHanded {} Try.checked os 5 .any (Rows.fnExactLogTrimSpec.pre6 enc Try.prog Try.f5 Rows.fnExactLogTrimRow.domain false) (Rows.fnExactLogTrimSpec.post enc Try.prog Try.f5 false true false false) := by
  refine returnsInHanded_of_change (C := Try.checked) own started (by kernel_rfl) Try.func5
    (ChangeSpec.witness6 (enc := enc) (C := Try.checked) false ⟨#[], #[.agg #[.int .i64 0, .slice none 0 0], .slice none 0 0], []⟩ 8 (by kernel_rfl) (by kernel_rfl) (by kernel_rfl) (by kernel_rfl)) ?_
  intro W base args ds gs before hval0 hW hcnd _
  have hval : ∀ (j : Nat) t v, Try.f5.params[j]? = some t → args[j]? = some v → Value.okWide Try.prog W .any base t v := hval0
  have hW' := hW
  obtain ⟨p, q, hA0, hV, rfl, hfz, hnd⟩ := hW
  have hA : DataW.TrodAll enc Try.prog W 0 (fun _ => true) true Try.f5.params.toList args.toList ds p := hA0
  rw [Try.params5] at hA hval
  obtain ⟨v0, v1, d0, d1, p0, p1, rfl, rfl, rfl, h0, h1⟩ := trodAll_two hA
  obtain ⟨rfl, rfl⟩ := trodVars_none hV
  clear hA0
  simp only [List.append_nil] at hW'
  have hlt : ∀ x ∈ p0 ++ p1, x.block < W.heap.size := fun x hx => by simpa using hW'.lt x hx
  have hargs0 : ∀ (W' : World), Below W.heap.size W W' → DataW.Trod enc Try.prog W' 0 (fun b => decide (b < W.heap.size)) true 28 v0 d0 p0 :=
    fun W' hn => Below.trod laidOut (by kernel_rfl) (of_decide_eq_true (by kernel_rfl)) h0 hn (fun x hx => hlt x (by simp [hx]))
  obtain ⟨m0, A0, n0, c0, L0, rfl, hZ0, hn0⟩ := cnf_open (hval 0 28 v0 rfl rfl) h0
  have hargs1 : ∀ (W' : World), Below W.heap.size W W' → DataW.Trod enc Try.prog W' 0 (fun b => decide (b < W.heap.size)) true 22 v1 d1 p1 :=
    fun W' hn => Below.trod laidOut (by kernel_rfl) (of_decide_eq_true (by kernel_rfl)) h1 hn (fun x hx => hlt x (by simp [hx]))
  obtain ⟨A1, n1, c1, L1, rfl, hZ1, hn1⟩ := intssW_open (hval 1 22 v1 rfl rfl) h1
  clear hval0 hval hA
  refine (walk_ExactLogTrim m0 A0 n0 c0 L0 A1 n1 c1 L1 W hn0 hZ0 hn1 hZ1).mono fun e W' ⟨he, hg⟩ => ?_
  subst he
  exact ⟨_, rfl, _, _, _, [], _, [], hW', trodAll_mk1 (shut_bool Try.underlying4 _), trodAll_mk2 (hargs0 _ hg) (hargs1 _ hg), rfl, hg.frame _, fun h => by cases h⟩
theorem k_a1 : Rows.fnExactLogTrimRow.wf (OpenSpec.ofChange Rows.fnExactLogTrimSpec) = true := by kernel_rfl
theorem k_a4 : Try.f5.params.all (Try.prog.readableRec ·) = true := by kernel_rfl
theorem k_a5 : namedTie Try.prog Rows.fnExactLogTrimRow.named Rows.fnExactLogTrimSpec.vars = true := by kernel_rfl
theorem k_a6 : (Rows.fnExactLogTrimRow.stops == []) = true := by kernel_rfl
theorem k_a8 : (Rows.fnExactLogTrimRow.knobs == []) = true := by kernel_rfl
theorem k_b1 : (Rows.fnExactLogTrimRow.inPlace == Try.prog.inPlace 5) = true := by kernel_rfl
theorem k_b2 : (Rows.fnExactLogTrimRow.unfollowed == Try.prog.unfollowed 5) = true := by kernel_rfl
theorem k_b3 : (Rows.fnExactLogTrimRow.recurses == Try.prog.recurses 5) = true := by kernel_rfl
theorem k_b4 : (Rows.fnExactLogTrimRow.named == Try.prog.varsNamed 5) = true := by kernel_rfl
theorem k_c1 : (Rows.fnExactLogTrimRow.maps == (Try.f5.params.toList ++ Rows.fnExactLogTrimSpec.plain.varTypes Try.prog).any (Try.prog.mapsRec ·)) = true := by kernel_rfl
theorem k_c2 : (Rows.fnExactLogTrimRow.ifaces == (Try.f5.params.toList ++ Rows.fnExactLogTrimSpec.plain.varTypes Try.prog).any (Try.prog.ifacesRec ·)) = true := by kernel_rfl
theorem k_c3 : (Rows.fnExactLogTrimRow.mapsOut == Try.prog.mapsAmong Try.f5.resultTypes.toList) = true := by kernel_rfl
theorem k_c4 : (Rows.fnExactLogTrimRow.loops == (Try.f5.params.toList ++ Rows.fnExactLogTrimSpec.plain.varTypes Try.prog).any (Try.prog.loopsFrom ·)) = true := by kernel_rfl
theorem k_c5 : (Rows.fnExactLogTrimRow.wideKeys == (Try.f5.params.toList ++ Rows.fnExactLogTrimSpec.plain.varTypes Try.prog ++ Try.f5.resultTypes.toList).any (Try.prog.wideKeysFrom ·)) = true := by kernel_rfl
theorem k_d1 : Rows.fnExactLogTrimSpec.vars.all (Try.prog.varReadable ·) = true := by kernel_rfl
theorem k_d2 : Try.f5.resultTypes.all (fun t => Try.prog.readableRec t && decide (t < Try.prog.types.size)) = true := by kernel_rfl
theorem k_d3 : (Rows.fnExactLogTrimRow.ifacesOut == Try.f5.resultTypes.toList.any (Try.prog.ifacesRec ·)) = true := by kernel_rfl
theorem k_d4 : (Rows.fnExactLogTrimRow.loopsOut == Try.f5.resultTypes.toList.any (Try.prog.loopsFrom ·)) = true := by kernel_rfl
theorem k_d5 : (Rows.fnExactLogTrimRow.plainKeys == Try.prog.plainKeys) = true := by kernel_rfl
theorem k_d6 : Rows.fnExactLogTrimRow.shortTexts.isNone = true := by kernel_rfl
theorem k_d9 : (Rows.fnExactLogTrimRow.lifted == Try.prog.liftsFinal) = true := by rw [p_lifts]; kernel_rfl
theorem k_e1 : (Try.prog.make == some Rows.fnExactLogTrimRow.make) = true := by rw [p_make]; kernel_rfl
theorem k_e2 : (Rows.fnExactLogTrimRow.kinds == (if Rows.fnExactLogTrimRow.domain.isEmpty then [] else Try.f5.params.toList.map fun t => match Try.prog.underlying t with | some (.int k) => some k | _ => none)) = true := by kernel_rfl
theorem k_e3 : (Rows.fnExactLogTrimRow.pinned == Rows.fnExactLogTrimRow.pinnedBy) = true := by kernel_rfl
theorem k_e4 : (Rows.fnExactLogTrimRow.veiled == (Try.f5.params.toList ++ Rows.fnExactLogTrimSpec.plain.varTypes Try.prog ++ Try.f5.resultTypes.toList).any (Try.prog.veiledRec ·)) = true := by kernel_rfl
theorem k_e5 : Rows.fnExactLogTrimRow.veiledFits Try.prog Try.f5.params.toList (Try.f5.params.toList ++ Rows.fnExactLogTrimSpec.plain.varTypes Try.prog ++ Try.f5.resultTypes.toList) = true := by kernel_rfl
theorem k_name : Try.prog.funcNamed Rows.fnExactLogTrimRow.func = some 5 := by kernel_rfl
theorem k_inst : Try.f5.isInstance Try.prog Rows.fnExactLogTrimRow.origin Rows.fnExactLogTrimRow.targs := of_decide_eq_true (by kernel_rfl)
theorem k_wrap : Try.f5.isWrapper Try.prog Rows.fnExactLogTrimRow.wrapper Rows.fnExactLogTrimRow.mainSum := by unfold Func.isWrapper; first | (rw [if_pos (by decide +kernel)]; kernel_rfl) | (rw [if_neg (by decide +kernel)]; exact ⟨rfl, rfl⟩)
set_option maxRecDepth 100000 in
theorem k_closed : joinedFacts Try.prog 5 Try.f5 Rows.fnExactLogTrimSpec Rows.fnExactLogTrimRow = true := joined_of k_a1 p_laid p_rowed k_a4 k_a5 k_a6 p_stops k_a8 p_knobs k_b1 k_b2 k_b3 k_b4 k_c1 k_c2 k_c3 k_c4 k_c5 k_d1 k_d2 k_d3 k_d4 k_d5 k_d6 p_heard p_enter k_d9 k_e1 k_e2 k_e3 k_e4 k_e5
set_option maxRecDepth 100000 in
theorem holds : Rows.FnExactLogTrimSaid :=
  OpenClaim.holds_of_wide 5 Try.f5 rfl rfl rfl rfl rfl rfl rfl ⟨rfl, rfl, rfl, rfl, rfl⟩ rfl rfl rfl rfl rfl k_name Try.func5 k_closed k_inst k_wrap
    (fun os started H enc _ => lifted os started H enc)
end Go.Proofs.Ytjnngijilkdhbaa.PExactLogTrim
namespace Go.Proofs.Ytjnngijilkdhbaa
theorem proved_ExactLogTrim : Rows.FnExactLogTrimSaid := PExactLogTrim.holds
end Go.Proofs.Ytjnngijilkdhbaa
