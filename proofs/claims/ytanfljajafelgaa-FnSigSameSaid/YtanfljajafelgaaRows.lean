/-
  NARROWER THAN 'FOR EVERY INPUT', by the rows' own cells (each row's printed sentence says how): FnExactSameSteps: loops · FnExactSameClass: loops · FnExactSameIs: loops · FnExactWhySame: loops · FnExactAtomText: loops · FnExactLitText: loops · FnExactLitNot: loops · FnExactLitTerms: loops · FnExactModelTerm: loops · FnExactCaseSame: loops.
  DERIVED. THE GIVEN ROWS OF THIS SEAT. 12 by the template 'for every input the law returns true; each argument reads behind the call as it read before'; 0 by the template 'total and deterministic' (their statements: YtanfljajafelgaaTotals.lean).
  GIVEN WITH THE SEED: the statements are not yours to turn. If you find one false, say at which input.
  Laid BY PROGRAM, IN A SANDBOX (cutbox-rows.mjs): the forced cells as the released guide's own fill.sh prints them over the translation 6c855395f40b6c0b… (all of the seat's roots in one cut). By AI agents, Wed Nov 11 2026. No macro, syntax, notation, axiom, sorry.
-/
import Derived.Test.YtanfljajafelgaaChecked
import GoSem.Claim
import GoSem.ClaimJoined
import GoSem.ClaimMapViews
import Derived.JoinedTies
import Derived.KernelRfl
namespace Go.Proofs.Ytanfljajafelgaa
/- THE CELL 'sum', in the pinned program and in every row, IS THE sha256 OF THE DUMP (.gsa) THAT YtanfljajafelgaaProg.lean LOADS. Nothing in Lean hashes anything: it is a label: what it is worth is what the hold of that sum in a sandbox is worth. -/
noncomputable def Try.pinned : Pinned := { name := "ytanfljajafelgaa", sum := "6c855395f40b6c0b815ea0651decf6d9a5d38450afd7457a0303b77489dcb6dc", checked := Try.checked }
namespace Rows
def none {H : Type} : Left H := { results := [], args := [] }

/-- 'laws.FnSigSame': WHATEVER THE INPUT: true; the input reads as it did. -/
def fnSigSameSpec : ChangeSpec := { name := "fnSigSame", fn := fun _ => fun
  | [d] => { results := [.lit (.bool true)], args := [d] }
  | _ => none }
def fnSigSameRow : OpenClaim := { program := "ytanfljajafelgaa", sum := "6c855395f40b6c0b815ea0651decf6d9a5d38450afd7457a0303b77489dcb6dc", func := "loop.example/compurgator/laws.FnSigSame", spec := "fnSigSame", unfollowed := true, recurses := true, plainKeys := false, apart := false }
def FnSigSameSaid : Prop := fnSigSameRow.holds Try.pinned (OpenSpec.ofChange fnSigSameSpec)

/-- ITS FALSE NEIGHBOUR: 'it returns false'. Refute it at one input. -/
def fnSigSameWrong : ChangeSpec := { name := "fnSigSame", fn := fun _ => fun
  | [d] => { results := [.lit (.bool false)], args := [d] }
  | _ => none }
def FnSigSameWrongFalsely : Prop := fnSigSameRow.holds Try.pinned (OpenSpec.ofChange fnSigSameWrong)

/-- 'laws.FnExactFarLess': WHATEVER THE INPUT: true; the input reads as it did. -/
def fnExactFarLessSpec : ChangeSpec := { name := "fnExactFarLess", fn := fun _ => fun
  | [d1, d2] => { results := [.lit (.bool true)], args := [d1, d2] }
  | _ => none }
def fnExactFarLessRow : OpenClaim := { program := "ytanfljajafelgaa", sum := "6c855395f40b6c0b815ea0651decf6d9a5d38450afd7457a0303b77489dcb6dc", func := "loop.example/compurgator/laws.FnExactFarLess", spec := "fnExactFarLess", plainKeys := false, apart := false }
def FnExactFarLessSaid : Prop := fnExactFarLessRow.holds Try.pinned (OpenSpec.ofChange fnExactFarLessSpec)

/-- ITS FALSE NEIGHBOUR: 'it returns false'. Refute it at one input. -/
def fnExactFarLessWrong : ChangeSpec := { name := "fnExactFarLess", fn := fun _ => fun
  | [d1, d2] => { results := [.lit (.bool false)], args := [d1, d2] }
  | _ => none }
def FnExactFarLessWrongFalsely : Prop := fnExactFarLessRow.holds Try.pinned (OpenSpec.ofChange fnExactFarLessWrong)

/-- 'laws.FnExactSameSteps': WHATEVER THE INPUT: true; the input reads as it did. -/
def fnExactSameStepsSpec : ChangeSpec := { name := "fnExactSameSteps", fn := fun _ => fun
  | [d1, d2, d3] => { results := [.lit (.bool true)], args := [d1, d2, d3] }
  | _ => none }
def fnExactSameStepsRow : OpenClaim := { program := "ytanfljajafelgaa", sum := "6c855395f40b6c0b815ea0651decf6d9a5d38450afd7457a0303b77489dcb6dc", func := "loop.example/compurgator/laws.FnExactSameSteps", spec := "fnExactSameSteps", unfollowed := true, recurses := true, loops := true, plainKeys := false, apart := false }
def FnExactSameStepsSaid : Prop := fnExactSameStepsRow.holds Try.pinned (OpenSpec.ofChange fnExactSameStepsSpec)

/-- ITS FALSE NEIGHBOUR: 'it returns false'. Refute it at one input. -/
def fnExactSameStepsWrong : ChangeSpec := { name := "fnExactSameSteps", fn := fun _ => fun
  | [d1, d2, d3] => { results := [.lit (.bool false)], args := [d1, d2, d3] }
  | _ => none }
def FnExactSameStepsWrongFalsely : Prop := fnExactSameStepsRow.holds Try.pinned (OpenSpec.ofChange fnExactSameStepsWrong)

/-- 'laws.FnExactSameClass': WHATEVER THE INPUT: true; the input reads as it did. -/
def fnExactSameClassSpec : ChangeSpec := { name := "fnExactSameClass", fn := fun _ => fun
  | [d1, d2, d3] => { results := [.lit (.bool true)], args := [d1, d2, d3] }
  | _ => none }
def fnExactSameClassRow : OpenClaim := { program := "ytanfljajafelgaa", sum := "6c855395f40b6c0b815ea0651decf6d9a5d38450afd7457a0303b77489dcb6dc", func := "loop.example/compurgator/laws.FnExactSameClass", spec := "fnExactSameClass", unfollowed := true, recurses := true, loops := true, plainKeys := false, apart := false }
def FnExactSameClassSaid : Prop := fnExactSameClassRow.holds Try.pinned (OpenSpec.ofChange fnExactSameClassSpec)

/-- ITS FALSE NEIGHBOUR: 'it returns false'. Refute it at one input. -/
def fnExactSameClassWrong : ChangeSpec := { name := "fnExactSameClass", fn := fun _ => fun
  | [d1, d2, d3] => { results := [.lit (.bool false)], args := [d1, d2, d3] }
  | _ => none }
def FnExactSameClassWrongFalsely : Prop := fnExactSameClassRow.holds Try.pinned (OpenSpec.ofChange fnExactSameClassWrong)

/-- 'laws.FnExactSameIs': WHATEVER THE INPUT: true; the input reads as it did. -/
def fnExactSameIsSpec : ChangeSpec := { name := "fnExactSameIs", fn := fun _ => fun
  | [d1, d2, d3, d4] => { results := [.lit (.bool true)], args := [d1, d2, d3, d4] }
  | _ => none }
def fnExactSameIsRow : OpenClaim := { program := "ytanfljajafelgaa", sum := "6c855395f40b6c0b815ea0651decf6d9a5d38450afd7457a0303b77489dcb6dc", func := "loop.example/compurgator/laws.FnExactSameIs", spec := "fnExactSameIs", unfollowed := true, recurses := true, loops := true, plainKeys := false, apart := false }
def FnExactSameIsSaid : Prop := fnExactSameIsRow.holds Try.pinned (OpenSpec.ofChange fnExactSameIsSpec)

/-- ITS FALSE NEIGHBOUR: 'it returns false'. Refute it at one input. -/
def fnExactSameIsWrong : ChangeSpec := { name := "fnExactSameIs", fn := fun _ => fun
  | [d1, d2, d3, d4] => { results := [.lit (.bool false)], args := [d1, d2, d3, d4] }
  | _ => none }
def FnExactSameIsWrongFalsely : Prop := fnExactSameIsRow.holds Try.pinned (OpenSpec.ofChange fnExactSameIsWrong)

/-- 'laws.FnExactWhySame': WHATEVER THE INPUT: true; the input reads as it did. -/
def fnExactWhySameSpec : ChangeSpec := { name := "fnExactWhySame", fn := fun _ => fun
  | [d1, d2] => { results := [.lit (.bool true)], args := [d1, d2] }
  | _ => none }
def fnExactWhySameRow : OpenClaim := { program := "ytanfljajafelgaa", sum := "6c855395f40b6c0b815ea0651decf6d9a5d38450afd7457a0303b77489dcb6dc", func := "loop.example/compurgator/laws.FnExactWhySame", spec := "fnExactWhySame", recurses := true, loops := true, plainKeys := false, apart := false }
def FnExactWhySameSaid : Prop := fnExactWhySameRow.holds Try.pinned (OpenSpec.ofChange fnExactWhySameSpec)

/-- ITS FALSE NEIGHBOUR: 'it returns false'. Refute it at one input. -/
def fnExactWhySameWrong : ChangeSpec := { name := "fnExactWhySame", fn := fun _ => fun
  | [d1, d2] => { results := [.lit (.bool false)], args := [d1, d2] }
  | _ => none }
def FnExactWhySameWrongFalsely : Prop := fnExactWhySameRow.holds Try.pinned (OpenSpec.ofChange fnExactWhySameWrong)

/-- 'laws.FnExactAtomText': WHATEVER THE INPUT: true; the input reads as it did. -/
def fnExactAtomTextSpec : ChangeSpec := { name := "fnExactAtomText", fn := fun _ => fun
  | [d] => { results := [.lit (.bool true)], args := [d] }
  | _ => none }
def fnExactAtomTextRow : OpenClaim := { program := "ytanfljajafelgaa", sum := "6c855395f40b6c0b815ea0651decf6d9a5d38450afd7457a0303b77489dcb6dc", func := "loop.example/compurgator/laws.FnExactAtomText", spec := "fnExactAtomText", inPlace := ["internal/abi.NoEscape"], unfollowed := true, recurses := true, loops := true, plainKeys := false, apart := false }
def FnExactAtomTextSaid : Prop := fnExactAtomTextRow.holds Try.pinned (OpenSpec.ofChange fnExactAtomTextSpec)

/-- ITS FALSE NEIGHBOUR: 'it returns false'. Refute it at one input. -/
def fnExactAtomTextWrong : ChangeSpec := { name := "fnExactAtomText", fn := fun _ => fun
  | [d] => { results := [.lit (.bool false)], args := [d] }
  | _ => none }
def FnExactAtomTextWrongFalsely : Prop := fnExactAtomTextRow.holds Try.pinned (OpenSpec.ofChange fnExactAtomTextWrong)

/-- 'laws.FnExactLitText': WHATEVER THE INPUT: true; the input reads as it did. -/
def fnExactLitTextSpec : ChangeSpec := { name := "fnExactLitText", fn := fun _ => fun
  | [d] => { results := [.lit (.bool true)], args := [d] }
  | _ => none }
def fnExactLitTextRow : OpenClaim := { program := "ytanfljajafelgaa", sum := "6c855395f40b6c0b815ea0651decf6d9a5d38450afd7457a0303b77489dcb6dc", func := "loop.example/compurgator/laws.FnExactLitText", spec := "fnExactLitText", inPlace := ["internal/abi.NoEscape"], unfollowed := true, recurses := true, loops := true, plainKeys := false, apart := false }
def FnExactLitTextSaid : Prop := fnExactLitTextRow.holds Try.pinned (OpenSpec.ofChange fnExactLitTextSpec)

/-- ITS FALSE NEIGHBOUR: 'it returns false'. Refute it at one input. -/
def fnExactLitTextWrong : ChangeSpec := { name := "fnExactLitText", fn := fun _ => fun
  | [d] => { results := [.lit (.bool false)], args := [d] }
  | _ => none }
def FnExactLitTextWrongFalsely : Prop := fnExactLitTextRow.holds Try.pinned (OpenSpec.ofChange fnExactLitTextWrong)

/-- 'laws.FnExactLitNot': WHATEVER THE INPUT: true; the input reads as it did. -/
def fnExactLitNotSpec : ChangeSpec := { name := "fnExactLitNot", fn := fun _ => fun
  | [d] => { results := [.lit (.bool true)], args := [d] }
  | _ => none }
def fnExactLitNotRow : OpenClaim := { program := "ytanfljajafelgaa", sum := "6c855395f40b6c0b815ea0651decf6d9a5d38450afd7457a0303b77489dcb6dc", func := "loop.example/compurgator/laws.FnExactLitNot", spec := "fnExactLitNot", inPlace := ["internal/abi.NoEscape"], unfollowed := true, recurses := true, loops := true, plainKeys := false, apart := false }
def FnExactLitNotSaid : Prop := fnExactLitNotRow.holds Try.pinned (OpenSpec.ofChange fnExactLitNotSpec)

/-- ITS FALSE NEIGHBOUR: 'it returns false'. Refute it at one input. -/
def fnExactLitNotWrong : ChangeSpec := { name := "fnExactLitNot", fn := fun _ => fun
  | [d] => { results := [.lit (.bool false)], args := [d] }
  | _ => none }
def FnExactLitNotWrongFalsely : Prop := fnExactLitNotRow.holds Try.pinned (OpenSpec.ofChange fnExactLitNotWrong)

/-- 'laws.FnExactLitTerms': WHATEVER THE INPUT: true; the input reads as it did. -/
def fnExactLitTermsSpec : ChangeSpec := { name := "fnExactLitTerms", fn := fun _ => fun
  | [d] => { results := [.lit (.bool true)], args := [d] }
  | _ => none }
def fnExactLitTermsRow : OpenClaim := { program := "ytanfljajafelgaa", sum := "6c855395f40b6c0b815ea0651decf6d9a5d38450afd7457a0303b77489dcb6dc", func := "loop.example/compurgator/laws.FnExactLitTerms", spec := "fnExactLitTerms", inPlace := ["internal/abi.NoEscape"], unfollowed := true, recurses := true, loops := true, plainKeys := false, apart := false }
def FnExactLitTermsSaid : Prop := fnExactLitTermsRow.holds Try.pinned (OpenSpec.ofChange fnExactLitTermsSpec)

/-- ITS FALSE NEIGHBOUR: 'it returns false'. Refute it at one input. -/
def fnExactLitTermsWrong : ChangeSpec := { name := "fnExactLitTerms", fn := fun _ => fun
  | [d] => { results := [.lit (.bool false)], args := [d] }
  | _ => none }
def FnExactLitTermsWrongFalsely : Prop := fnExactLitTermsRow.holds Try.pinned (OpenSpec.ofChange fnExactLitTermsWrong)

/-- 'laws.FnExactModelTerm': WHATEVER THE INPUT: true; the input reads as it did. -/
def fnExactModelTermSpec : ChangeSpec := { name := "fnExactModelTerm", fn := fun _ => fun
  | [d1, d2, d3] => { results := [.lit (.bool true)], args := [d1, d2, d3] }
  | _ => none }
def fnExactModelTermRow : OpenClaim := { program := "ytanfljajafelgaa", sum := "6c855395f40b6c0b815ea0651decf6d9a5d38450afd7457a0303b77489dcb6dc", func := "loop.example/compurgator/laws.FnExactModelTerm", spec := "fnExactModelTerm", unfollowed := true, recurses := true, loops := true, plainKeys := false, apart := false }
def FnExactModelTermSaid : Prop := fnExactModelTermRow.holds Try.pinned (OpenSpec.ofChange fnExactModelTermSpec)

/-- ITS FALSE NEIGHBOUR: 'it returns false'. Refute it at one input. -/
def fnExactModelTermWrong : ChangeSpec := { name := "fnExactModelTerm", fn := fun _ => fun
  | [d1, d2, d3] => { results := [.lit (.bool false)], args := [d1, d2, d3] }
  | _ => none }
def FnExactModelTermWrongFalsely : Prop := fnExactModelTermRow.holds Try.pinned (OpenSpec.ofChange fnExactModelTermWrong)

/-- 'laws.FnExactCaseSame': WHATEVER THE INPUT: true; the input reads as it did. -/
def fnExactCaseSameSpec : ChangeSpec := { name := "fnExactCaseSame", fn := fun _ => fun
  | [d1, d2] => { results := [.lit (.bool true)], args := [d1, d2] }
  | _ => none }
def fnExactCaseSameRow : OpenClaim := { program := "ytanfljajafelgaa", sum := "6c855395f40b6c0b815ea0651decf6d9a5d38450afd7457a0303b77489dcb6dc", func := "loop.example/compurgator/laws.FnExactCaseSame", spec := "fnExactCaseSame", recurses := true, loops := true, plainKeys := false, apart := false }
def FnExactCaseSameSaid : Prop := fnExactCaseSameRow.holds Try.pinned (OpenSpec.ofChange fnExactCaseSameSpec)

/-- ITS FALSE NEIGHBOUR: 'it returns false'. Refute it at one input. -/
def fnExactCaseSameWrong : ChangeSpec := { name := "fnExactCaseSame", fn := fun _ => fun
  | [d1, d2] => { results := [.lit (.bool false)], args := [d1, d2] }
  | _ => none }
def FnExactCaseSameWrongFalsely : Prop := fnExactCaseSameRow.holds Try.pinned (OpenSpec.ofChange fnExactCaseSameWrong)

/- THE SECOND FORM. 'bulk': how many values and letters a reading holds, each counted each time it is reached (what is shared counts as often as it is met; a slice's spare places count too). A statement '..UptoSaid' is the law's where the arguments, and the package variables that the reading takes, are together of bulk at most 1048576: NARROWER than '..Said'. Prove '..Said' where nothing that the law and all that it calls make is longer than what came in: it says more and counts as full. Else prove '..UptoSaid'. A law counts once. -/
mutual
def uptoBulk {H : Type} : DataW H → Nat
  | .lit (.string bytes) => bytes.length + 1
  | .lit _ => 1
  | .nil => 1
  | .ptr d => uptoBulk d + 1
  | .slice elems spare => uptoBulkAll elems + uptoBulkAll spare + 1
  | .agg parts => uptoBulkAll parts + 1
  | .iface _ d => uptoBulk d + 1
  | .map entries => uptoBulkEntries entries + 1
  | .held _ => 1
def uptoBulkAll {H : Type} : List (DataW H) → Nat
  | [] => 0
  | d :: r => uptoBulk d + uptoBulkAll r
def uptoBulkEntries {H : Type} : List (Lit × DataW H) → Nat
  | [] => 0
  | x :: r => uptoBulkEntry x + uptoBulkEntries r
def uptoBulkEntry {H : Type} : Lit × DataW H → Nat
  | (.string bytes, d) => bytes.length + uptoBulk d + 1
  | (_, d) => uptoBulk d + 1
 end
def uptoSmall : (H : Type) → List (DataW H) → Bool := fun _ ds => decide (uptoBulkAll ds ≤ 1048576)
def OpenSpec.upto (s : _root_.Go.ChangeSpec) : _root_.Go.OpenSpec := { _root_.Go.OpenSpec.ofChange s with cond := some uptoSmall }

/-- 'laws.FnSigSame', WHERE WHAT IT READS IS OF BULK AT MOST 1048576: true; the input reads as it did. -/
def fnSigSameUptoRow : OpenClaim := { program := "ytanfljajafelgaa", sum := "6c855395f40b6c0b815ea0651decf6d9a5d38450afd7457a0303b77489dcb6dc", func := "loop.example/compurgator/laws.FnSigSame", spec := "fnSigSame", unfollowed := true, recurses := true, plainKeys := false, apart := false, narrowed := true }
def FnSigSameUptoSaid : Prop := fnSigSameUptoRow.holds Try.pinned (OpenSpec.upto fnSigSameSpec)

/-- 'laws.FnExactFarLess', WHERE WHAT IT READS IS OF BULK AT MOST 1048576: true; the input reads as it did. -/
def fnExactFarLessUptoRow : OpenClaim := { program := "ytanfljajafelgaa", sum := "6c855395f40b6c0b815ea0651decf6d9a5d38450afd7457a0303b77489dcb6dc", func := "loop.example/compurgator/laws.FnExactFarLess", spec := "fnExactFarLess", plainKeys := false, apart := false, narrowed := true }
def FnExactFarLessUptoSaid : Prop := fnExactFarLessUptoRow.holds Try.pinned (OpenSpec.upto fnExactFarLessSpec)

/-- 'laws.FnExactSameSteps', WHERE WHAT IT READS IS OF BULK AT MOST 1048576: true; the input reads as it did. -/
def fnExactSameStepsUptoRow : OpenClaim := { program := "ytanfljajafelgaa", sum := "6c855395f40b6c0b815ea0651decf6d9a5d38450afd7457a0303b77489dcb6dc", func := "loop.example/compurgator/laws.FnExactSameSteps", spec := "fnExactSameSteps", unfollowed := true, recurses := true, loops := true, plainKeys := false, apart := false, narrowed := true }
def FnExactSameStepsUptoSaid : Prop := fnExactSameStepsUptoRow.holds Try.pinned (OpenSpec.upto fnExactSameStepsSpec)

/-- 'laws.FnExactSameClass', WHERE WHAT IT READS IS OF BULK AT MOST 1048576: true; the input reads as it did. -/
def fnExactSameClassUptoRow : OpenClaim := { program := "ytanfljajafelgaa", sum := "6c855395f40b6c0b815ea0651decf6d9a5d38450afd7457a0303b77489dcb6dc", func := "loop.example/compurgator/laws.FnExactSameClass", spec := "fnExactSameClass", unfollowed := true, recurses := true, loops := true, plainKeys := false, apart := false, narrowed := true }
def FnExactSameClassUptoSaid : Prop := fnExactSameClassUptoRow.holds Try.pinned (OpenSpec.upto fnExactSameClassSpec)

/-- 'laws.FnExactSameIs', WHERE WHAT IT READS IS OF BULK AT MOST 1048576: true; the input reads as it did. -/
def fnExactSameIsUptoRow : OpenClaim := { program := "ytanfljajafelgaa", sum := "6c855395f40b6c0b815ea0651decf6d9a5d38450afd7457a0303b77489dcb6dc", func := "loop.example/compurgator/laws.FnExactSameIs", spec := "fnExactSameIs", unfollowed := true, recurses := true, loops := true, plainKeys := false, apart := false, narrowed := true }
def FnExactSameIsUptoSaid : Prop := fnExactSameIsUptoRow.holds Try.pinned (OpenSpec.upto fnExactSameIsSpec)

/-- 'laws.FnExactWhySame', WHERE WHAT IT READS IS OF BULK AT MOST 1048576: true; the input reads as it did. -/
def fnExactWhySameUptoRow : OpenClaim := { program := "ytanfljajafelgaa", sum := "6c855395f40b6c0b815ea0651decf6d9a5d38450afd7457a0303b77489dcb6dc", func := "loop.example/compurgator/laws.FnExactWhySame", spec := "fnExactWhySame", recurses := true, loops := true, plainKeys := false, apart := false, narrowed := true }
def FnExactWhySameUptoSaid : Prop := fnExactWhySameUptoRow.holds Try.pinned (OpenSpec.upto fnExactWhySameSpec)

/-- 'laws.FnExactAtomText', WHERE WHAT IT READS IS OF BULK AT MOST 1048576: true; the input reads as it did. -/
def fnExactAtomTextUptoRow : OpenClaim := { program := "ytanfljajafelgaa", sum := "6c855395f40b6c0b815ea0651decf6d9a5d38450afd7457a0303b77489dcb6dc", func := "loop.example/compurgator/laws.FnExactAtomText", spec := "fnExactAtomText", inPlace := ["internal/abi.NoEscape"], unfollowed := true, recurses := true, loops := true, plainKeys := false, apart := false, narrowed := true }
def FnExactAtomTextUptoSaid : Prop := fnExactAtomTextUptoRow.holds Try.pinned (OpenSpec.upto fnExactAtomTextSpec)

/-- 'laws.FnExactLitText', WHERE WHAT IT READS IS OF BULK AT MOST 1048576: true; the input reads as it did. -/
def fnExactLitTextUptoRow : OpenClaim := { program := "ytanfljajafelgaa", sum := "6c855395f40b6c0b815ea0651decf6d9a5d38450afd7457a0303b77489dcb6dc", func := "loop.example/compurgator/laws.FnExactLitText", spec := "fnExactLitText", inPlace := ["internal/abi.NoEscape"], unfollowed := true, recurses := true, loops := true, plainKeys := false, apart := false, narrowed := true }
def FnExactLitTextUptoSaid : Prop := fnExactLitTextUptoRow.holds Try.pinned (OpenSpec.upto fnExactLitTextSpec)

/-- 'laws.FnExactLitNot', WHERE WHAT IT READS IS OF BULK AT MOST 1048576: true; the input reads as it did. -/
def fnExactLitNotUptoRow : OpenClaim := { program := "ytanfljajafelgaa", sum := "6c855395f40b6c0b815ea0651decf6d9a5d38450afd7457a0303b77489dcb6dc", func := "loop.example/compurgator/laws.FnExactLitNot", spec := "fnExactLitNot", inPlace := ["internal/abi.NoEscape"], unfollowed := true, recurses := true, loops := true, plainKeys := false, apart := false, narrowed := true }
def FnExactLitNotUptoSaid : Prop := fnExactLitNotUptoRow.holds Try.pinned (OpenSpec.upto fnExactLitNotSpec)

/-- 'laws.FnExactLitTerms', WHERE WHAT IT READS IS OF BULK AT MOST 1048576: true; the input reads as it did. -/
def fnExactLitTermsUptoRow : OpenClaim := { program := "ytanfljajafelgaa", sum := "6c855395f40b6c0b815ea0651decf6d9a5d38450afd7457a0303b77489dcb6dc", func := "loop.example/compurgator/laws.FnExactLitTerms", spec := "fnExactLitTerms", inPlace := ["internal/abi.NoEscape"], unfollowed := true, recurses := true, loops := true, plainKeys := false, apart := false, narrowed := true }
def FnExactLitTermsUptoSaid : Prop := fnExactLitTermsUptoRow.holds Try.pinned (OpenSpec.upto fnExactLitTermsSpec)

/-- 'laws.FnExactModelTerm', WHERE WHAT IT READS IS OF BULK AT MOST 1048576: true; the input reads as it did. -/
def fnExactModelTermUptoRow : OpenClaim := { program := "ytanfljajafelgaa", sum := "6c855395f40b6c0b815ea0651decf6d9a5d38450afd7457a0303b77489dcb6dc", func := "loop.example/compurgator/laws.FnExactModelTerm", spec := "fnExactModelTerm", unfollowed := true, recurses := true, loops := true, plainKeys := false, apart := false, narrowed := true }
def FnExactModelTermUptoSaid : Prop := fnExactModelTermUptoRow.holds Try.pinned (OpenSpec.upto fnExactModelTermSpec)

/-- 'laws.FnExactCaseSame', WHERE WHAT IT READS IS OF BULK AT MOST 1048576: true; the input reads as it did. -/
def fnExactCaseSameUptoRow : OpenClaim := { program := "ytanfljajafelgaa", sum := "6c855395f40b6c0b815ea0651decf6d9a5d38450afd7457a0303b77489dcb6dc", func := "loop.example/compurgator/laws.FnExactCaseSame", spec := "fnExactCaseSame", recurses := true, loops := true, plainKeys := false, apart := false, narrowed := true }
def FnExactCaseSameUptoSaid : Prop := fnExactCaseSameUptoRow.holds Try.pinned (OpenSpec.upto fnExactCaseSameSpec)

end Rows
end Go.Proofs.Ytanfljajafelgaa
