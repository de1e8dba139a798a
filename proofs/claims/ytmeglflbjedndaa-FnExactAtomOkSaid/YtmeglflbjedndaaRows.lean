/-
  NARROWER THAN 'FOR EVERY INPUT', by the rows' own cells (each row's printed sentence says how): FnExactModelTerm: loops · FnExactAtomOk: loops · FnExactLitTerms: loops · FnExactLitNot: loops · FnExactEqsOk: loops · FnExactSameIs: loops · FnExactWhySame: loops.
  DERIVED. THE GIVEN ROWS OF THIS SEAT. 12 by the template 'for every input the law returns true; each argument reads behind the call as it read before'; 0 by the template 'total and deterministic' (their statements: YtmeglflbjedndaaTotals.lean).
  GIVEN WITH THE SEED: the statements are not yours to turn. If you find one false, say at which input.
  Laid BY PROGRAM, IN A SANDBOX (cutbox-rows.mjs): the forced cells as the released guide's own fill.sh prints them over the translation c925bf7ac076b758… (all of the seat's roots in one cut). By AI agents, Wed Nov 11 2026. No macro, syntax, notation, axiom, sorry.
-/
import Derived.Test.YtmeglflbjedndaaChecked
import GoSem.Claim
import GoSem.ClaimJoined
import GoSem.ClaimMapViews
import Derived.JoinedTies
import Derived.KernelRfl
namespace Go.Proofs.Ytmeglflbjedndaa
/- THE CELL 'sum', in the pinned program and in every row, IS THE sha256 OF THE DUMP (.gsa) THAT YtmeglflbjedndaaProg.lean LOADS. Nothing in Lean hashes anything: it is a label: what it is worth is what the hold of that sum in a sandbox is worth. -/
noncomputable def Try.pinned : Pinned := { name := "ytmeglflbjedndaa", sum := "c925bf7ac076b7587f4382851926df1962580744eaaf88f4d4c7ac856b4d6880", checked := Try.checked }
namespace Rows
def none {H : Type} : Left H := { results := [], args := [] }

/-- 'laws.FnExactModelSame': WHATEVER THE INPUT: true; the input reads as it did. -/
def fnExactModelSameSpec : ChangeSpec := { name := "fnExactModelSame", fn := fun _ => fun
  | [d1, d2] => { results := [.lit (.bool true)], args := [d1, d2] }
  | _ => none }
def fnExactModelSameRow : OpenClaim := { program := "ytmeglflbjedndaa", sum := "c925bf7ac076b7587f4382851926df1962580744eaaf88f4d4c7ac856b4d6880", func := "loop.example/compurgator/laws.FnExactModelSame", spec := "fnExactModelSame", unfollowed := true, recurses := true, plainKeys := false, apart := false }
def FnExactModelSameSaid : Prop := fnExactModelSameRow.holds Try.pinned (OpenSpec.ofChange fnExactModelSameSpec)

/-- ITS FALSE NEIGHBOUR: 'it returns false'. Refute it at one input. -/
def fnExactModelSameWrong : ChangeSpec := { name := "fnExactModelSame", fn := fun _ => fun
  | [d1, d2] => { results := [.lit (.bool false)], args := [d1, d2] }
  | _ => none }
def FnExactModelSameWrongFalsely : Prop := fnExactModelSameRow.holds Try.pinned (OpenSpec.ofChange fnExactModelSameWrong)

/-- 'laws.FnExactModelOk': WHATEVER THE INPUT: true; the input reads as it did. -/
def fnExactModelOkSpec : ChangeSpec := { name := "fnExactModelOk", fn := fun _ => fun
  | [d1, d2] => { results := [.lit (.bool true)], args := [d1, d2] }
  | _ => none }
def fnExactModelOkRow : OpenClaim := { program := "ytmeglflbjedndaa", sum := "c925bf7ac076b7587f4382851926df1962580744eaaf88f4d4c7ac856b4d6880", func := "loop.example/compurgator/laws.FnExactModelOk", spec := "fnExactModelOk", unfollowed := true, recurses := true, plainKeys := false, apart := false }
def FnExactModelOkSaid : Prop := fnExactModelOkRow.holds Try.pinned (OpenSpec.ofChange fnExactModelOkSpec)

/-- ITS FALSE NEIGHBOUR: 'it returns false'. Refute it at one input. -/
def fnExactModelOkWrong : ChangeSpec := { name := "fnExactModelOk", fn := fun _ => fun
  | [d1, d2] => { results := [.lit (.bool false)], args := [d1, d2] }
  | _ => none }
def FnExactModelOkWrongFalsely : Prop := fnExactModelOkRow.holds Try.pinned (OpenSpec.ofChange fnExactModelOkWrong)

/-- 'laws.FnExactModelTerm': WHATEVER THE INPUT: true; the input reads as it did. -/
def fnExactModelTermSpec : ChangeSpec := { name := "fnExactModelTerm", fn := fun _ => fun
  | [d1, d2, d3] => { results := [.lit (.bool true)], args := [d1, d2, d3] }
  | _ => none }
def fnExactModelTermRow : OpenClaim := { program := "ytmeglflbjedndaa", sum := "c925bf7ac076b7587f4382851926df1962580744eaaf88f4d4c7ac856b4d6880", func := "loop.example/compurgator/laws.FnExactModelTerm", spec := "fnExactModelTerm", unfollowed := true, recurses := true, loops := true, plainKeys := false, apart := false }
def FnExactModelTermSaid : Prop := fnExactModelTermRow.holds Try.pinned (OpenSpec.ofChange fnExactModelTermSpec)

/-- ITS FALSE NEIGHBOUR: 'it returns false'. Refute it at one input. -/
def fnExactModelTermWrong : ChangeSpec := { name := "fnExactModelTerm", fn := fun _ => fun
  | [d1, d2, d3] => { results := [.lit (.bool false)], args := [d1, d2, d3] }
  | _ => none }
def FnExactModelTermWrongFalsely : Prop := fnExactModelTermRow.holds Try.pinned (OpenSpec.ofChange fnExactModelTermWrong)

/-- 'laws.FnExactAtomOk': WHATEVER THE INPUT: true; the input reads as it did. -/
def fnExactAtomOkSpec : ChangeSpec := { name := "fnExactAtomOk", fn := fun _ => fun
  | [d1, d2] => { results := [.lit (.bool true)], args := [d1, d2] }
  | _ => none }
def fnExactAtomOkRow : OpenClaim := { program := "ytmeglflbjedndaa", sum := "c925bf7ac076b7587f4382851926df1962580744eaaf88f4d4c7ac856b4d6880", func := "loop.example/compurgator/laws.FnExactAtomOk", spec := "fnExactAtomOk", inPlace := ["internal/abi.NoEscape"], unfollowed := true, recurses := true, loops := true, plainKeys := false, apart := false }
def FnExactAtomOkSaid : Prop := fnExactAtomOkRow.holds Try.pinned (OpenSpec.ofChange fnExactAtomOkSpec)

/-- ITS FALSE NEIGHBOUR: 'it returns false'. Refute it at one input. -/
def fnExactAtomOkWrong : ChangeSpec := { name := "fnExactAtomOk", fn := fun _ => fun
  | [d1, d2] => { results := [.lit (.bool false)], args := [d1, d2] }
  | _ => none }
def FnExactAtomOkWrongFalsely : Prop := fnExactAtomOkRow.holds Try.pinned (OpenSpec.ofChange fnExactAtomOkWrong)

/-- 'laws.FnExactLitTerms': WHATEVER THE INPUT: true; the input reads as it did. -/
def fnExactLitTermsSpec : ChangeSpec := { name := "fnExactLitTerms", fn := fun _ => fun
  | [d] => { results := [.lit (.bool true)], args := [d] }
  | _ => none }
def fnExactLitTermsRow : OpenClaim := { program := "ytmeglflbjedndaa", sum := "c925bf7ac076b7587f4382851926df1962580744eaaf88f4d4c7ac856b4d6880", func := "loop.example/compurgator/laws.FnExactLitTerms", spec := "fnExactLitTerms", inPlace := ["internal/abi.NoEscape"], unfollowed := true, recurses := true, loops := true, plainKeys := false, apart := false }
def FnExactLitTermsSaid : Prop := fnExactLitTermsRow.holds Try.pinned (OpenSpec.ofChange fnExactLitTermsSpec)

/-- ITS FALSE NEIGHBOUR: 'it returns false'. Refute it at one input. -/
def fnExactLitTermsWrong : ChangeSpec := { name := "fnExactLitTerms", fn := fun _ => fun
  | [d] => { results := [.lit (.bool false)], args := [d] }
  | _ => none }
def FnExactLitTermsWrongFalsely : Prop := fnExactLitTermsRow.holds Try.pinned (OpenSpec.ofChange fnExactLitTermsWrong)

/-- 'laws.FnExactLitNot': WHATEVER THE INPUT: true; the input reads as it did. -/
def fnExactLitNotSpec : ChangeSpec := { name := "fnExactLitNot", fn := fun _ => fun
  | [d] => { results := [.lit (.bool true)], args := [d] }
  | _ => none }
def fnExactLitNotRow : OpenClaim := { program := "ytmeglflbjedndaa", sum := "c925bf7ac076b7587f4382851926df1962580744eaaf88f4d4c7ac856b4d6880", func := "loop.example/compurgator/laws.FnExactLitNot", spec := "fnExactLitNot", inPlace := ["internal/abi.NoEscape"], unfollowed := true, recurses := true, loops := true, plainKeys := false, apart := false }
def FnExactLitNotSaid : Prop := fnExactLitNotRow.holds Try.pinned (OpenSpec.ofChange fnExactLitNotSpec)

/-- ITS FALSE NEIGHBOUR: 'it returns false'. Refute it at one input. -/
def fnExactLitNotWrong : ChangeSpec := { name := "fnExactLitNot", fn := fun _ => fun
  | [d] => { results := [.lit (.bool false)], args := [d] }
  | _ => none }
def FnExactLitNotWrongFalsely : Prop := fnExactLitNotRow.holds Try.pinned (OpenSpec.ofChange fnExactLitNotWrong)

/-- 'laws.FnExactEqsOk': WHATEVER THE INPUT: true; the input reads as it did. -/
def fnExactEqsOkSpec : ChangeSpec := { name := "fnExactEqsOk", fn := fun _ => fun
  | [d1, d2] => { results := [.lit (.bool true)], args := [d1, d2] }
  | _ => none }
def fnExactEqsOkRow : OpenClaim := { program := "ytmeglflbjedndaa", sum := "c925bf7ac076b7587f4382851926df1962580744eaaf88f4d4c7ac856b4d6880", func := "loop.example/compurgator/laws.FnExactEqsOk", spec := "fnExactEqsOk", unfollowed := true, recurses := true, loops := true, plainKeys := false, apart := false }
def FnExactEqsOkSaid : Prop := fnExactEqsOkRow.holds Try.pinned (OpenSpec.ofChange fnExactEqsOkSpec)

/-- ITS FALSE NEIGHBOUR: 'it returns false'. Refute it at one input. -/
def fnExactEqsOkWrong : ChangeSpec := { name := "fnExactEqsOk", fn := fun _ => fun
  | [d1, d2] => { results := [.lit (.bool false)], args := [d1, d2] }
  | _ => none }
def FnExactEqsOkWrongFalsely : Prop := fnExactEqsOkRow.holds Try.pinned (OpenSpec.ofChange fnExactEqsOkWrong)

/-- 'laws.FnExactSameIs': WHATEVER THE INPUT: true; the input reads as it did. -/
def fnExactSameIsSpec : ChangeSpec := { name := "fnExactSameIs", fn := fun _ => fun
  | [d1, d2, d3, d4] => { results := [.lit (.bool true)], args := [d1, d2, d3, d4] }
  | _ => none }
def fnExactSameIsRow : OpenClaim := { program := "ytmeglflbjedndaa", sum := "c925bf7ac076b7587f4382851926df1962580744eaaf88f4d4c7ac856b4d6880", func := "loop.example/compurgator/laws.FnExactSameIs", spec := "fnExactSameIs", unfollowed := true, recurses := true, loops := true, plainKeys := false, apart := false }
def FnExactSameIsSaid : Prop := fnExactSameIsRow.holds Try.pinned (OpenSpec.ofChange fnExactSameIsSpec)

/-- ITS FALSE NEIGHBOUR: 'it returns false'. Refute it at one input. -/
def fnExactSameIsWrong : ChangeSpec := { name := "fnExactSameIs", fn := fun _ => fun
  | [d1, d2, d3, d4] => { results := [.lit (.bool false)], args := [d1, d2, d3, d4] }
  | _ => none }
def FnExactSameIsWrongFalsely : Prop := fnExactSameIsRow.holds Try.pinned (OpenSpec.ofChange fnExactSameIsWrong)

/-- 'laws.FnExactFarLess': WHATEVER THE INPUT: true; the input reads as it did. -/
def fnExactFarLessSpec : ChangeSpec := { name := "fnExactFarLess", fn := fun _ => fun
  | [d1, d2] => { results := [.lit (.bool true)], args := [d1, d2] }
  | _ => none }
def fnExactFarLessRow : OpenClaim := { program := "ytmeglflbjedndaa", sum := "c925bf7ac076b7587f4382851926df1962580744eaaf88f4d4c7ac856b4d6880", func := "loop.example/compurgator/laws.FnExactFarLess", spec := "fnExactFarLess", plainKeys := false, apart := false }
def FnExactFarLessSaid : Prop := fnExactFarLessRow.holds Try.pinned (OpenSpec.ofChange fnExactFarLessSpec)

/-- ITS FALSE NEIGHBOUR: 'it returns false'. Refute it at one input. -/
def fnExactFarLessWrong : ChangeSpec := { name := "fnExactFarLess", fn := fun _ => fun
  | [d1, d2] => { results := [.lit (.bool false)], args := [d1, d2] }
  | _ => none }
def FnExactFarLessWrongFalsely : Prop := fnExactFarLessRow.holds Try.pinned (OpenSpec.ofChange fnExactFarLessWrong)

/-- 'laws.FnSigSame': WHATEVER THE INPUT: true; the input reads as it did. -/
def fnSigSameSpec : ChangeSpec := { name := "fnSigSame", fn := fun _ => fun
  | [d] => { results := [.lit (.bool true)], args := [d] }
  | _ => none }
def fnSigSameRow : OpenClaim := { program := "ytmeglflbjedndaa", sum := "c925bf7ac076b7587f4382851926df1962580744eaaf88f4d4c7ac856b4d6880", func := "loop.example/compurgator/laws.FnSigSame", spec := "fnSigSame", unfollowed := true, recurses := true, plainKeys := false, apart := false }
def FnSigSameSaid : Prop := fnSigSameRow.holds Try.pinned (OpenSpec.ofChange fnSigSameSpec)

/-- ITS FALSE NEIGHBOUR: 'it returns false'. Refute it at one input. -/
def fnSigSameWrong : ChangeSpec := { name := "fnSigSame", fn := fun _ => fun
  | [d] => { results := [.lit (.bool false)], args := [d] }
  | _ => none }
def FnSigSameWrongFalsely : Prop := fnSigSameRow.holds Try.pinned (OpenSpec.ofChange fnSigSameWrong)

/-- 'laws.FnSigLess': WHATEVER THE INPUT: true; the input reads as it did. -/
def fnSigLessSpec : ChangeSpec := { name := "fnSigLess", fn := fun _ => fun
  | [d] => { results := [.lit (.bool true)], args := [d] }
  | _ => none }
def fnSigLessRow : OpenClaim := { program := "ytmeglflbjedndaa", sum := "c925bf7ac076b7587f4382851926df1962580744eaaf88f4d4c7ac856b4d6880", func := "loop.example/compurgator/laws.FnSigLess", spec := "fnSigLess", unfollowed := true, recurses := true, plainKeys := false, apart := false }
def FnSigLessSaid : Prop := fnSigLessRow.holds Try.pinned (OpenSpec.ofChange fnSigLessSpec)

/-- ITS FALSE NEIGHBOUR: 'it returns false'. Refute it at one input. -/
def fnSigLessWrong : ChangeSpec := { name := "fnSigLess", fn := fun _ => fun
  | [d] => { results := [.lit (.bool false)], args := [d] }
  | _ => none }
def FnSigLessWrongFalsely : Prop := fnSigLessRow.holds Try.pinned (OpenSpec.ofChange fnSigLessWrong)

/-- 'laws.FnExactWhySame': WHATEVER THE INPUT: true; the input reads as it did. -/
def fnExactWhySameSpec : ChangeSpec := { name := "fnExactWhySame", fn := fun _ => fun
  | [d1, d2] => { results := [.lit (.bool true)], args := [d1, d2] }
  | _ => none }
def fnExactWhySameRow : OpenClaim := { program := "ytmeglflbjedndaa", sum := "c925bf7ac076b7587f4382851926df1962580744eaaf88f4d4c7ac856b4d6880", func := "loop.example/compurgator/laws.FnExactWhySame", spec := "fnExactWhySame", recurses := true, loops := true, plainKeys := false, apart := false }
def FnExactWhySameSaid : Prop := fnExactWhySameRow.holds Try.pinned (OpenSpec.ofChange fnExactWhySameSpec)

/-- ITS FALSE NEIGHBOUR: 'it returns false'. Refute it at one input. -/
def fnExactWhySameWrong : ChangeSpec := { name := "fnExactWhySame", fn := fun _ => fun
  | [d1, d2] => { results := [.lit (.bool false)], args := [d1, d2] }
  | _ => none }
def FnExactWhySameWrongFalsely : Prop := fnExactWhySameRow.holds Try.pinned (OpenSpec.ofChange fnExactWhySameWrong)

/- THE SECOND FORM. 'bulk': how many values and letters a reading holds, each counted each time it is reached (what is shared counts as often as it is met; a slice's spare places count too). A statement '..UptoSaid' is the law's where the arguments, and the package variables that the reading takes, are together of bulk at most 1048576: NARROWER than '..Said'. Prove '..Said' where nothing that the law and all that it calls make is longer than what came in: it says more and counts as full. Else prove '..UptoSaid'. A law counts once. -/
mutual
def uptoBulk {H : Type} : DataW H → Nat
  | .lit (.string bytes) => bytes.length + 1
  | .lit _ => 1
  | .nil => 1
  | .ptr d => uptoBulk d + 1
  | .slice elems spare => uptoBulkAll elems + uptoBulkAll spare + 1
  | .agg parts => uptoBulkAll parts + 1
  | .iface _ d => uptoBulk d + 1
  | .map entries => uptoBulkEntries entries + 1
  | .held _ => 1
def uptoBulkAll {H : Type} : List (DataW H) → Nat
  | [] => 0
  | d :: r => uptoBulk d + uptoBulkAll r
def uptoBulkEntries {H : Type} : List (Lit × DataW H) → Nat
  | [] => 0
  | x :: r => uptoBulkEntry x + uptoBulkEntries r
def uptoBulkEntry {H : Type} : Lit × DataW H → Nat
  | (.string bytes, d) => bytes.length + uptoBulk d + 1
  | (_, d) => uptoBulk d + 1
 end
def uptoSmall : (H : Type) → List (DataW H) → Bool := fun _ ds => decide (uptoBulkAll ds ≤ 1048576)
def OpenSpec.upto (s : _root_.Go.ChangeSpec) : _root_.Go.OpenSpec := { _root_.Go.OpenSpec.ofChange s with cond := some uptoSmall }

/-- 'laws.FnExactModelSame', WHERE WHAT IT READS IS OF BULK AT MOST 1048576: true; the input reads as it did. -/
def fnExactModelSameUptoRow : OpenClaim := { program := "ytmeglflbjedndaa", sum := "c925bf7ac076b7587f4382851926df1962580744eaaf88f4d4c7ac856b4d6880", func := "loop.example/compurgator/laws.FnExactModelSame", spec := "fnExactModelSame", unfollowed := true, recurses := true, plainKeys := false, apart := false, narrowed := true }
def FnExactModelSameUptoSaid : Prop := fnExactModelSameUptoRow.holds Try.pinned (OpenSpec.upto fnExactModelSameSpec)

/-- 'laws.FnExactModelOk', WHERE WHAT IT READS IS OF BULK AT MOST 1048576: true; the input reads as it did. -/
def fnExactModelOkUptoRow : OpenClaim := { program := "ytmeglflbjedndaa", sum := "c925bf7ac076b7587f4382851926df1962580744eaaf88f4d4c7ac856b4d6880", func := "loop.example/compurgator/laws.FnExactModelOk", spec := "fnExactModelOk", unfollowed := true, recurses := true, plainKeys := false, apart := false, narrowed := true }
def FnExactModelOkUptoSaid : Prop := fnExactModelOkUptoRow.holds Try.pinned (OpenSpec.upto fnExactModelOkSpec)

/-- 'laws.FnExactModelTerm', WHERE WHAT IT READS IS OF BULK AT MOST 1048576: true; the input reads as it did. -/
def fnExactModelTermUptoRow : OpenClaim := { program := "ytmeglflbjedndaa", sum := "c925bf7ac076b7587f4382851926df1962580744eaaf88f4d4c7ac856b4d6880", func := "loop.example/compurgator/laws.FnExactModelTerm", spec := "fnExactModelTerm", unfollowed := true, recurses := true, loops := true, plainKeys := false, apart := false, narrowed := true }
def FnExactModelTermUptoSaid : Prop := fnExactModelTermUptoRow.holds Try.pinned (OpenSpec.upto fnExactModelTermSpec)

/-- 'laws.FnExactAtomOk', WHERE WHAT IT READS IS OF BULK AT MOST 1048576: true; the input reads as it did. -/
def fnExactAtomOkUptoRow : OpenClaim := { program := "ytmeglflbjedndaa", sum := "c925bf7ac076b7587f4382851926df1962580744eaaf88f4d4c7ac856b4d6880", func := "loop.example/compurgator/laws.FnExactAtomOk", spec := "fnExactAtomOk", inPlace := ["internal/abi.NoEscape"], unfollowed := true, recurses := true, loops := true, plainKeys := false, apart := false, narrowed := true }
def FnExactAtomOkUptoSaid : Prop := fnExactAtomOkUptoRow.holds Try.pinned (OpenSpec.upto fnExactAtomOkSpec)

/-- 'laws.FnExactLitTerms', WHERE WHAT IT READS IS OF BULK AT MOST 1048576: true; the input reads as it did. -/
def fnExactLitTermsUptoRow : OpenClaim := { program := "ytmeglflbjedndaa", sum := "c925bf7ac076b7587f4382851926df1962580744eaaf88f4d4c7ac856b4d6880", func := "loop.example/compurgator/laws.FnExactLitTerms", spec := "fnExactLitTerms", inPlace := ["internal/abi.NoEscape"], unfollowed := true, recurses := true, loops := true, plainKeys := false, apart := false, narrowed := true }
def FnExactLitTermsUptoSaid : Prop := fnExactLitTermsUptoRow.holds Try.pinned (OpenSpec.upto fnExactLitTermsSpec)

/-- 'laws.FnExactLitNot', WHERE WHAT IT READS IS OF BULK AT MOST 1048576: true; the input reads as it did. -/
def fnExactLitNotUptoRow : OpenClaim := { program := "ytmeglflbjedndaa", sum := "c925bf7ac076b7587f4382851926df1962580744eaaf88f4d4c7ac856b4d6880", func := "loop.example/compurgator/laws.FnExactLitNot", spec := "fnExactLitNot", inPlace := ["internal/abi.NoEscape"], unfollowed := true, recurses := true, loops := true, plainKeys := false, apart := false, narrowed := true }
def FnExactLitNotUptoSaid : Prop := fnExactLitNotUptoRow.holds Try.pinned (OpenSpec.upto fnExactLitNotSpec)

/-- 'laws.FnExactEqsOk', WHERE WHAT IT READS IS OF BULK AT MOST 1048576: true; the input reads as it did. -/
def fnExactEqsOkUptoRow : OpenClaim := { program := "ytmeglflbjedndaa", sum := "c925bf7ac076b7587f4382851926df1962580744eaaf88f4d4c7ac856b4d6880", func := "loop.example/compurgator/laws.FnExactEqsOk", spec := "fnExactEqsOk", unfollowed := true, recurses := true, loops := true, plainKeys := false, apart := false, narrowed := true }
def FnExactEqsOkUptoSaid : Prop := fnExactEqsOkUptoRow.holds Try.pinned (OpenSpec.upto fnExactEqsOkSpec)

/-- 'laws.FnExactSameIs', WHERE WHAT IT READS IS OF BULK AT MOST 1048576: true; the input reads as it did. -/
def fnExactSameIsUptoRow : OpenClaim := { program := "ytmeglflbjedndaa", sum := "c925bf7ac076b7587f4382851926df1962580744eaaf88f4d4c7ac856b4d6880", func := "loop.example/compurgator/laws.FnExactSameIs", spec := "fnExactSameIs", unfollowed := true, recurses := true, loops := true, plainKeys := false, apart := false, narrowed := true }
def FnExactSameIsUptoSaid : Prop := fnExactSameIsUptoRow.holds Try.pinned (OpenSpec.upto fnExactSameIsSpec)

/-- 'laws.FnExactFarLess', WHERE WHAT IT READS IS OF BULK AT MOST 1048576: true; the input reads as it did. -/
def fnExactFarLessUptoRow : OpenClaim := { program := "ytmeglflbjedndaa", sum := "c925bf7ac076b7587f4382851926df1962580744eaaf88f4d4c7ac856b4d6880", func := "loop.example/compurgator/laws.FnExactFarLess", spec := "fnExactFarLess", plainKeys := false, apart := false, narrowed := true }
def FnExactFarLessUptoSaid : Prop := fnExactFarLessUptoRow.holds Try.pinned (OpenSpec.upto fnExactFarLessSpec)

/-- 'laws.FnSigSame', WHERE WHAT IT READS IS OF BULK AT MOST 1048576: true; the input reads as it did. -/
def fnSigSameUptoRow : OpenClaim := { program := "ytmeglflbjedndaa", sum := "c925bf7ac076b7587f4382851926df1962580744eaaf88f4d4c7ac856b4d6880", func := "loop.example/compurgator/laws.FnSigSame", spec := "fnSigSame", unfollowed := true, recurses := true, plainKeys := false, apart := false, narrowed := true }
def FnSigSameUptoSaid : Prop := fnSigSameUptoRow.holds Try.pinned (OpenSpec.upto fnSigSameSpec)

/-- 'laws.FnSigLess', WHERE WHAT IT READS IS OF BULK AT MOST 1048576: true; the input reads as it did. -/
def fnSigLessUptoRow : OpenClaim := { program := "ytmeglflbjedndaa", sum := "c925bf7ac076b7587f4382851926df1962580744eaaf88f4d4c7ac856b4d6880", func := "loop.example/compurgator/laws.FnSigLess", spec := "fnSigLess", unfollowed := true, recurses := true, plainKeys := false, apart := false, narrowed := true }
def FnSigLessUptoSaid : Prop := fnSigLessUptoRow.holds Try.pinned (OpenSpec.upto fnSigLessSpec)

/-- 'laws.FnExactWhySame', WHERE WHAT IT READS IS OF BULK AT MOST 1048576: true; the input reads as it did. -/
def fnExactWhySameUptoRow : OpenClaim := { program := "ytmeglflbjedndaa", sum := "c925bf7ac076b7587f4382851926df1962580744eaaf88f4d4c7ac856b4d6880", func := "loop.example/compurgator/laws.FnExactWhySame", spec := "fnExactWhySame", recurses := true, loops := true, plainKeys := false, apart := false, narrowed := true }
def FnExactWhySameUptoSaid : Prop := fnExactWhySameUptoRow.holds Try.pinned (OpenSpec.upto fnExactWhySameSpec)

end Rows
end Go.Proofs.Ytmeglflbjedndaa
