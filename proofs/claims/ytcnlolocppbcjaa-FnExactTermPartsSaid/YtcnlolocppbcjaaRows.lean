/-
  NARROWER THAN 'FOR EVERY INPUT', by the rows' own cells (each row's printed sentence says how): FnExactTermSame: loops · FnExactTermParts: loops · FnExactAtomSame: loops · FnExactEqsOk: loops · FnExactWhySame: loops · FnExactWhyUses: loops · FnExactLitNot: loops.
  DERIVED. THE GIVEN ROWS OF THIS SEAT. 11 by the template 'for every input the law returns true; each argument reads behind the call as it read before'; 0 by the template 'total and deterministic' (their statements: YtcnlolocppbcjaaTotals.lean).
  GIVEN WITH THE SEED: the statements are not yours to turn. If you find one false, say at which input.
  Laid BY PROGRAM, IN A SANDBOX (cutbox-rows.mjs): the forced cells as the released guide's own fill.sh prints them over the translation ccb0508e37ee8c6b… (all of the seat's roots in one cut). By AI agents, Wed Nov 11 2026. No macro, syntax, notation, axiom, sorry.
-/
import Derived.Test.YtcnlolocppbcjaaChecked
import GoSem.Claim
import GoSem.ClaimJoined
import GoSem.ClaimMapViews
import Derived.JoinedTies
import Derived.KernelRfl
namespace Go.Proofs.Ytcnlolocppbcjaa
/- THE CELL 'sum', in the pinned program and in every row, IS THE sha256 OF THE DUMP (.gsa) THAT YtcnlolocppbcjaaProg.lean LOADS. Nothing in Lean hashes anything: it is a label: what it is worth is what the hold of that sum in a sandbox is worth. -/
noncomputable def Try.pinned : Pinned := { name := "ytcnlolocppbcjaa", sum := "ccb0508e37ee8c6b23e9718239f2c63cc81fe09b145579e6ca4fd9ac9398893c", checked := Try.checked }
namespace Rows
def none {H : Type} : Left H := { results := [], args := [] }

/-- 'laws.FnExactFarLess': WHATEVER THE INPUT: true; the input reads as it did. -/
def fnExactFarLessSpec : ChangeSpec := { name := "fnExactFarLess", fn := fun _ => fun
  | [d1, d2] => { results := [.lit (.bool true)], args := [d1, d2] }
  | _ => none }
def fnExactFarLessRow : OpenClaim := { program := "ytcnlolocppbcjaa", sum := "ccb0508e37ee8c6b23e9718239f2c63cc81fe09b145579e6ca4fd9ac9398893c", func := "loop.example/compurgator/laws.FnExactFarLess", spec := "fnExactFarLess", plainKeys := false, apart := false }
def FnExactFarLessSaid : Prop := fnExactFarLessRow.holds Try.pinned (OpenSpec.ofChange fnExactFarLessSpec)

/-- ITS FALSE NEIGHBOUR: 'it returns false'. Refute it at one input. -/
def fnExactFarLessWrong : ChangeSpec := { name := "fnExactFarLess", fn := fun _ => fun
  | [d1, d2] => { results := [.lit (.bool false)], args := [d1, d2] }
  | _ => none }
def FnExactFarLessWrongFalsely : Prop := fnExactFarLessRow.holds Try.pinned (OpenSpec.ofChange fnExactFarLessWrong)

/-- 'laws.FnExactTermSame': WHATEVER THE INPUT: true; the input reads as it did. -/
def fnExactTermSameSpec : ChangeSpec := { name := "fnExactTermSame", fn := fun _ => fun
  | [d1, d2] => { results := [.lit (.bool true)], args := [d1, d2] }
  | _ => none }
def fnExactTermSameRow : OpenClaim := { program := "ytcnlolocppbcjaa", sum := "ccb0508e37ee8c6b23e9718239f2c63cc81fe09b145579e6ca4fd9ac9398893c", func := "loop.example/compurgator/laws.FnExactTermSame", spec := "fnExactTermSame", recurses := true, loops := true, plainKeys := false, apart := false }
def FnExactTermSameSaid : Prop := fnExactTermSameRow.holds Try.pinned (OpenSpec.ofChange fnExactTermSameSpec)

/-- ITS FALSE NEIGHBOUR: 'it returns false'. Refute it at one input. -/
def fnExactTermSameWrong : ChangeSpec := { name := "fnExactTermSame", fn := fun _ => fun
  | [d1, d2] => { results := [.lit (.bool false)], args := [d1, d2] }
  | _ => none }
def FnExactTermSameWrongFalsely : Prop := fnExactTermSameRow.holds Try.pinned (OpenSpec.ofChange fnExactTermSameWrong)

/-- 'laws.FnExactTermParts': WHATEVER THE INPUT: true; the input reads as it did. -/
def fnExactTermPartsSpec : ChangeSpec := { name := "fnExactTermParts", fn := fun _ => fun
  | [d] => { results := [.lit (.bool true)], args := [d] }
  | _ => none }
def fnExactTermPartsRow : OpenClaim := { program := "ytcnlolocppbcjaa", sum := "ccb0508e37ee8c6b23e9718239f2c63cc81fe09b145579e6ca4fd9ac9398893c", func := "loop.example/compurgator/laws.FnExactTermParts", spec := "fnExactTermParts", recurses := true, loops := true, plainKeys := false, apart := false }
def FnExactTermPartsSaid : Prop := fnExactTermPartsRow.holds Try.pinned (OpenSpec.ofChange fnExactTermPartsSpec)

/-- ITS FALSE NEIGHBOUR: 'it returns false'. Refute it at one input. -/
def fnExactTermPartsWrong : ChangeSpec := { name := "fnExactTermParts", fn := fun _ => fun
  | [d] => { results := [.lit (.bool false)], args := [d] }
  | _ => none }
def FnExactTermPartsWrongFalsely : Prop := fnExactTermPartsRow.holds Try.pinned (OpenSpec.ofChange fnExactTermPartsWrong)

/-- 'laws.FnSigSame': WHATEVER THE INPUT: true; the input reads as it did. -/
def fnSigSameSpec : ChangeSpec := { name := "fnSigSame", fn := fun _ => fun
  | [d] => { results := [.lit (.bool true)], args := [d] }
  | _ => none }
def fnSigSameRow : OpenClaim := { program := "ytcnlolocppbcjaa", sum := "ccb0508e37ee8c6b23e9718239f2c63cc81fe09b145579e6ca4fd9ac9398893c", func := "loop.example/compurgator/laws.FnSigSame", spec := "fnSigSame", unfollowed := true, recurses := true, plainKeys := false, apart := false }
def FnSigSameSaid : Prop := fnSigSameRow.holds Try.pinned (OpenSpec.ofChange fnSigSameSpec)

/-- ITS FALSE NEIGHBOUR: 'it returns false'. Refute it at one input. -/
def fnSigSameWrong : ChangeSpec := { name := "fnSigSame", fn := fun _ => fun
  | [d] => { results := [.lit (.bool false)], args := [d] }
  | _ => none }
def FnSigSameWrongFalsely : Prop := fnSigSameRow.holds Try.pinned (OpenSpec.ofChange fnSigSameWrong)

/-- 'laws.FnSigLess': WHATEVER THE INPUT: true; the input reads as it did. -/
def fnSigLessSpec : ChangeSpec := { name := "fnSigLess", fn := fun _ => fun
  | [d] => { results := [.lit (.bool true)], args := [d] }
  | _ => none }
def fnSigLessRow : OpenClaim := { program := "ytcnlolocppbcjaa", sum := "ccb0508e37ee8c6b23e9718239f2c63cc81fe09b145579e6ca4fd9ac9398893c", func := "loop.example/compurgator/laws.FnSigLess", spec := "fnSigLess", unfollowed := true, recurses := true, plainKeys := false, apart := false }
def FnSigLessSaid : Prop := fnSigLessRow.holds Try.pinned (OpenSpec.ofChange fnSigLessSpec)

/-- ITS FALSE NEIGHBOUR: 'it returns false'. Refute it at one input. -/
def fnSigLessWrong : ChangeSpec := { name := "fnSigLess", fn := fun _ => fun
  | [d] => { results := [.lit (.bool false)], args := [d] }
  | _ => none }
def FnSigLessWrongFalsely : Prop := fnSigLessRow.holds Try.pinned (OpenSpec.ofChange fnSigLessWrong)

/-- 'laws.FnExactTermRead': WHATEVER THE INPUT: true; the input reads as it did. -/
def fnExactTermReadSpec : ChangeSpec := { name := "fnExactTermRead", fn := fun _ => fun
  | [d] => { results := [.lit (.bool true)], args := [d] }
  | _ => none }
def fnExactTermReadRow : OpenClaim := { program := "ytcnlolocppbcjaa", sum := "ccb0508e37ee8c6b23e9718239f2c63cc81fe09b145579e6ca4fd9ac9398893c", func := "loop.example/compurgator/laws.FnExactTermRead", spec := "fnExactTermRead", inPlace := ["internal/bytealg.IndexByteString", "internal/bytealg.IndexString", "internal/abi.NoEscape"], unfollowed := true, recurses := true, named := ["internal/bytealg.MaxLen"], plainKeys := false, apart := false }
def FnExactTermReadSaid : Prop := fnExactTermReadRow.holds Try.pinned (OpenSpec.ofChange fnExactTermReadSpec)

/-- ITS FALSE NEIGHBOUR: 'it returns false'. Refute it at one input. -/
def fnExactTermReadWrong : ChangeSpec := { name := "fnExactTermRead", fn := fun _ => fun
  | [d] => { results := [.lit (.bool false)], args := [d] }
  | _ => none }
def FnExactTermReadWrongFalsely : Prop := fnExactTermReadRow.holds Try.pinned (OpenSpec.ofChange fnExactTermReadWrong)

/-- 'laws.FnExactAtomSame': WHATEVER THE INPUT: true; the input reads as it did. -/
def fnExactAtomSameSpec : ChangeSpec := { name := "fnExactAtomSame", fn := fun _ => fun
  | [d1, d2] => { results := [.lit (.bool true)], args := [d1, d2] }
  | _ => none }
def fnExactAtomSameRow : OpenClaim := { program := "ytcnlolocppbcjaa", sum := "ccb0508e37ee8c6b23e9718239f2c63cc81fe09b145579e6ca4fd9ac9398893c", func := "loop.example/compurgator/laws.FnExactAtomSame", spec := "fnExactAtomSame", recurses := true, loops := true, plainKeys := false, apart := false }
def FnExactAtomSameSaid : Prop := fnExactAtomSameRow.holds Try.pinned (OpenSpec.ofChange fnExactAtomSameSpec)

/-- ITS FALSE NEIGHBOUR: 'it returns false'. Refute it at one input. -/
def fnExactAtomSameWrong : ChangeSpec := { name := "fnExactAtomSame", fn := fun _ => fun
  | [d1, d2] => { results := [.lit (.bool false)], args := [d1, d2] }
  | _ => none }
def FnExactAtomSameWrongFalsely : Prop := fnExactAtomSameRow.holds Try.pinned (OpenSpec.ofChange fnExactAtomSameWrong)

/-- 'laws.FnExactEqsOk': WHATEVER THE INPUT: true; the input reads as it did. -/
def fnExactEqsOkSpec : ChangeSpec := { name := "fnExactEqsOk", fn := fun _ => fun
  | [d1, d2] => { results := [.lit (.bool true)], args := [d1, d2] }
  | _ => none }
def fnExactEqsOkRow : OpenClaim := { program := "ytcnlolocppbcjaa", sum := "ccb0508e37ee8c6b23e9718239f2c63cc81fe09b145579e6ca4fd9ac9398893c", func := "loop.example/compurgator/laws.FnExactEqsOk", spec := "fnExactEqsOk", unfollowed := true, recurses := true, loops := true, plainKeys := false, apart := false }
def FnExactEqsOkSaid : Prop := fnExactEqsOkRow.holds Try.pinned (OpenSpec.ofChange fnExactEqsOkSpec)

/-- ITS FALSE NEIGHBOUR: 'it returns false'. Refute it at one input. -/
def fnExactEqsOkWrong : ChangeSpec := { name := "fnExactEqsOk", fn := fun _ => fun
  | [d1, d2] => { results := [.lit (.bool false)], args := [d1, d2] }
  | _ => none }
def FnExactEqsOkWrongFalsely : Prop := fnExactEqsOkRow.holds Try.pinned (OpenSpec.ofChange fnExactEqsOkWrong)

/-- 'laws.FnExactWhySame': WHATEVER THE INPUT: true; the input reads as it did. -/
def fnExactWhySameSpec : ChangeSpec := { name := "fnExactWhySame", fn := fun _ => fun
  | [d1, d2] => { results := [.lit (.bool true)], args := [d1, d2] }
  | _ => none }
def fnExactWhySameRow : OpenClaim := { program := "ytcnlolocppbcjaa", sum := "ccb0508e37ee8c6b23e9718239f2c63cc81fe09b145579e6ca4fd9ac9398893c", func := "loop.example/compurgator/laws.FnExactWhySame", spec := "fnExactWhySame", recurses := true, loops := true, plainKeys := false, apart := false }
def FnExactWhySameSaid : Prop := fnExactWhySameRow.holds Try.pinned (OpenSpec.ofChange fnExactWhySameSpec)

/-- ITS FALSE NEIGHBOUR: 'it returns false'. Refute it at one input. -/
def fnExactWhySameWrong : ChangeSpec := { name := "fnExactWhySame", fn := fun _ => fun
  | [d1, d2] => { results := [.lit (.bool false)], args := [d1, d2] }
  | _ => none }
def FnExactWhySameWrongFalsely : Prop := fnExactWhySameRow.holds Try.pinned (OpenSpec.ofChange fnExactWhySameWrong)

/-- 'laws.FnExactWhyUses': WHATEVER THE INPUT: true; the input reads as it did. -/
def fnExactWhyUsesSpec : ChangeSpec := { name := "fnExactWhyUses", fn := fun _ => fun
  | [d] => { results := [.lit (.bool true)], args := [d] }
  | _ => none }
def fnExactWhyUsesRow : OpenClaim := { program := "ytcnlolocppbcjaa", sum := "ccb0508e37ee8c6b23e9718239f2c63cc81fe09b145579e6ca4fd9ac9398893c", func := "loop.example/compurgator/laws.FnExactWhyUses", spec := "fnExactWhyUses", unfollowed := true, recurses := true, loops := true, plainKeys := false, apart := false }
def FnExactWhyUsesSaid : Prop := fnExactWhyUsesRow.holds Try.pinned (OpenSpec.ofChange fnExactWhyUsesSpec)

/-- ITS FALSE NEIGHBOUR: 'it returns false'. Refute it at one input. -/
def fnExactWhyUsesWrong : ChangeSpec := { name := "fnExactWhyUses", fn := fun _ => fun
  | [d] => { results := [.lit (.bool false)], args := [d] }
  | _ => none }
def FnExactWhyUsesWrongFalsely : Prop := fnExactWhyUsesRow.holds Try.pinned (OpenSpec.ofChange fnExactWhyUsesWrong)

/-- 'laws.FnExactLitNot': WHATEVER THE INPUT: true; the input reads as it did. -/
def fnExactLitNotSpec : ChangeSpec := { name := "fnExactLitNot", fn := fun _ => fun
  | [d] => { results := [.lit (.bool true)], args := [d] }
  | _ => none }
def fnExactLitNotRow : OpenClaim := { program := "ytcnlolocppbcjaa", sum := "ccb0508e37ee8c6b23e9718239f2c63cc81fe09b145579e6ca4fd9ac9398893c", func := "loop.example/compurgator/laws.FnExactLitNot", spec := "fnExactLitNot", inPlace := ["internal/abi.NoEscape"], unfollowed := true, recurses := true, loops := true, plainKeys := false, apart := false }
def FnExactLitNotSaid : Prop := fnExactLitNotRow.holds Try.pinned (OpenSpec.ofChange fnExactLitNotSpec)

/-- ITS FALSE NEIGHBOUR: 'it returns false'. Refute it at one input. -/
def fnExactLitNotWrong : ChangeSpec := { name := "fnExactLitNot", fn := fun _ => fun
  | [d] => { results := [.lit (.bool false)], args := [d] }
  | _ => none }
def FnExactLitNotWrongFalsely : Prop := fnExactLitNotRow.holds Try.pinned (OpenSpec.ofChange fnExactLitNotWrong)

/- THE SECOND FORM. 'bulk': how many values and letters a reading holds, each counted each time it is reached (what is shared counts as often as it is met; a slice's spare places count too). A statement '..UptoSaid' is the law's where the arguments, and the package variables that the reading takes, are together of bulk at most 1048576: NARROWER than '..Said'. Prove '..Said' where nothing that the law and all that it calls make is longer than what came in: it says more and counts as full. Else prove '..UptoSaid'. A law counts once. -/
mutual
def uptoBulk {H : Type} : DataW H → Nat
  | .lit (.string bytes) => bytes.length + 1
  | .lit _ => 1
  | .nil => 1
  | .ptr d => uptoBulk d + 1
  | .slice elems spare => uptoBulkAll elems + uptoBulkAll spare + 1
  | .agg parts => uptoBulkAll parts + 1
  | .iface _ d => uptoBulk d + 1
  | .map entries => uptoBulkEntries entries + 1
  | .held _ => 1
def uptoBulkAll {H : Type} : List (DataW H) → Nat
  | [] => 0
  | d :: r => uptoBulk d + uptoBulkAll r
def uptoBulkEntries {H : Type} : List (Lit × DataW H) → Nat
  | [] => 0
  | x :: r => uptoBulkEntry x + uptoBulkEntries r
def uptoBulkEntry {H : Type} : Lit × DataW H → Nat
  | (.string bytes, d) => bytes.length + uptoBulk d + 1
  | (_, d) => uptoBulk d + 1
 end
def uptoSmall : (H : Type) → List (DataW H) → Bool := fun _ ds => decide (uptoBulkAll ds ≤ 1048576)
def OpenSpec.upto (s : _root_.Go.ChangeSpec) : _root_.Go.OpenSpec := { _root_.Go.OpenSpec.ofChange s with cond := some uptoSmall }

/-- 'laws.FnExactFarLess', WHERE WHAT IT READS IS OF BULK AT MOST 1048576: true; the input reads as it did. -/
def fnExactFarLessUptoRow : OpenClaim := { program := "ytcnlolocppbcjaa", sum := "ccb0508e37ee8c6b23e9718239f2c63cc81fe09b145579e6ca4fd9ac9398893c", func := "loop.example/compurgator/laws.FnExactFarLess", spec := "fnExactFarLess", plainKeys := false, apart := false, narrowed := true }
def FnExactFarLessUptoSaid : Prop := fnExactFarLessUptoRow.holds Try.pinned (OpenSpec.upto fnExactFarLessSpec)

/-- 'laws.FnExactTermSame', WHERE WHAT IT READS IS OF BULK AT MOST 1048576: true; the input reads as it did. -/
def fnExactTermSameUptoRow : OpenClaim := { program := "ytcnlolocppbcjaa", sum := "ccb0508e37ee8c6b23e9718239f2c63cc81fe09b145579e6ca4fd9ac9398893c", func := "loop.example/compurgator/laws.FnExactTermSame", spec := "fnExactTermSame", recurses := true, loops := true, plainKeys := false, apart := false, narrowed := true }
def FnExactTermSameUptoSaid : Prop := fnExactTermSameUptoRow.holds Try.pinned (OpenSpec.upto fnExactTermSameSpec)

/-- 'laws.FnExactTermParts', WHERE WHAT IT READS IS OF BULK AT MOST 1048576: true; the input reads as it did. -/
def fnExactTermPartsUptoRow : OpenClaim := { program := "ytcnlolocppbcjaa", sum := "ccb0508e37ee8c6b23e9718239f2c63cc81fe09b145579e6ca4fd9ac9398893c", func := "loop.example/compurgator/laws.FnExactTermParts", spec := "fnExactTermParts", recurses := true, loops := true, plainKeys := false, apart := false, narrowed := true }
def FnExactTermPartsUptoSaid : Prop := fnExactTermPartsUptoRow.holds Try.pinned (OpenSpec.upto fnExactTermPartsSpec)

/-- 'laws.FnSigSame', WHERE WHAT IT READS IS OF BULK AT MOST 1048576: true; the input reads as it did. -/
def fnSigSameUptoRow : OpenClaim := { program := "ytcnlolocppbcjaa", sum := "ccb0508e37ee8c6b23e9718239f2c63cc81fe09b145579e6ca4fd9ac9398893c", func := "loop.example/compurgator/laws.FnSigSame", spec := "fnSigSame", unfollowed := true, recurses := true, plainKeys := false, apart := false, narrowed := true }
def FnSigSameUptoSaid : Prop := fnSigSameUptoRow.holds Try.pinned (OpenSpec.upto fnSigSameSpec)

/-- 'laws.FnSigLess', WHERE WHAT IT READS IS OF BULK AT MOST 1048576: true; the input reads as it did. -/
def fnSigLessUptoRow : OpenClaim := { program := "ytcnlolocppbcjaa", sum := "ccb0508e37ee8c6b23e9718239f2c63cc81fe09b145579e6ca4fd9ac9398893c", func := "loop.example/compurgator/laws.FnSigLess", spec := "fnSigLess", unfollowed := true, recurses := true, plainKeys := false, apart := false, narrowed := true }
def FnSigLessUptoSaid : Prop := fnSigLessUptoRow.holds Try.pinned (OpenSpec.upto fnSigLessSpec)

/-- 'laws.FnExactTermRead', WHERE WHAT IT READS IS OF BULK AT MOST 1048576: true; the input reads as it did. -/
def fnExactTermReadUptoRow : OpenClaim := { program := "ytcnlolocppbcjaa", sum := "ccb0508e37ee8c6b23e9718239f2c63cc81fe09b145579e6ca4fd9ac9398893c", func := "loop.example/compurgator/laws.FnExactTermRead", spec := "fnExactTermRead", inPlace := ["internal/bytealg.IndexByteString", "internal/bytealg.IndexString", "internal/abi.NoEscape"], unfollowed := true, recurses := true, named := ["internal/bytealg.MaxLen"], plainKeys := false, apart := false, narrowed := true }
def FnExactTermReadUptoSaid : Prop := fnExactTermReadUptoRow.holds Try.pinned (OpenSpec.upto fnExactTermReadSpec)

/-- 'laws.FnExactAtomSame', WHERE WHAT IT READS IS OF BULK AT MOST 1048576: true; the input reads as it did. -/
def fnExactAtomSameUptoRow : OpenClaim := { program := "ytcnlolocppbcjaa", sum := "ccb0508e37ee8c6b23e9718239f2c63cc81fe09b145579e6ca4fd9ac9398893c", func := "loop.example/compurgator/laws.FnExactAtomSame", spec := "fnExactAtomSame", recurses := true, loops := true, plainKeys := false, apart := false, narrowed := true }
def FnExactAtomSameUptoSaid : Prop := fnExactAtomSameUptoRow.holds Try.pinned (OpenSpec.upto fnExactAtomSameSpec)

/-- 'laws.FnExactEqsOk', WHERE WHAT IT READS IS OF BULK AT MOST 1048576: true; the input reads as it did. -/
def fnExactEqsOkUptoRow : OpenClaim := { program := "ytcnlolocppbcjaa", sum := "ccb0508e37ee8c6b23e9718239f2c63cc81fe09b145579e6ca4fd9ac9398893c", func := "loop.example/compurgator/laws.FnExactEqsOk", spec := "fnExactEqsOk", unfollowed := true, recurses := true, loops := true, plainKeys := false, apart := false, narrowed := true }
def FnExactEqsOkUptoSaid : Prop := fnExactEqsOkUptoRow.holds Try.pinned (OpenSpec.upto fnExactEqsOkSpec)

/-- 'laws.FnExactWhySame', WHERE WHAT IT READS IS OF BULK AT MOST 1048576: true; the input reads as it did. -/
def fnExactWhySameUptoRow : OpenClaim := { program := "ytcnlolocppbcjaa", sum := "ccb0508e37ee8c6b23e9718239f2c63cc81fe09b145579e6ca4fd9ac9398893c", func := "loop.example/compurgator/laws.FnExactWhySame", spec := "fnExactWhySame", recurses := true, loops := true, plainKeys := false, apart := false, narrowed := true }
def FnExactWhySameUptoSaid : Prop := fnExactWhySameUptoRow.holds Try.pinned (OpenSpec.upto fnExactWhySameSpec)

/-- 'laws.FnExactWhyUses', WHERE WHAT IT READS IS OF BULK AT MOST 1048576: true; the input reads as it did. -/
def fnExactWhyUsesUptoRow : OpenClaim := { program := "ytcnlolocppbcjaa", sum := "ccb0508e37ee8c6b23e9718239f2c63cc81fe09b145579e6ca4fd9ac9398893c", func := "loop.example/compurgator/laws.FnExactWhyUses", spec := "fnExactWhyUses", unfollowed := true, recurses := true, loops := true, plainKeys := false, apart := false, narrowed := true }
def FnExactWhyUsesUptoSaid : Prop := fnExactWhyUsesUptoRow.holds Try.pinned (OpenSpec.upto fnExactWhyUsesSpec)

/-- 'laws.FnExactLitNot', WHERE WHAT IT READS IS OF BULK AT MOST 1048576: true; the input reads as it did. -/
def fnExactLitNotUptoRow : OpenClaim := { program := "ytcnlolocppbcjaa", sum := "ccb0508e37ee8c6b23e9718239f2c63cc81fe09b145579e6ca4fd9ac9398893c", func := "loop.example/compurgator/laws.FnExactLitNot", spec := "fnExactLitNot", inPlace := ["internal/abi.NoEscape"], unfollowed := true, recurses := true, loops := true, plainKeys := false, apart := false, narrowed := true }
def FnExactLitNotUptoSaid : Prop := fnExactLitNotUptoRow.holds Try.pinned (OpenSpec.upto fnExactLitNotSpec)

end Rows
end Go.Proofs.Ytcnlolocppbcjaa
