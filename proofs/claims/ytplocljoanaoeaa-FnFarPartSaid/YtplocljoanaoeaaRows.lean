/-
  No cell of these rows narrows 'for every input' (looked for: loops, veiled, ifaces, maps, wideKeys, modest, calm, conditions, laid).
  DERIVED. THE GIVEN ROWS OF THIS SEAT. 8 by the template 'for every input the law returns true; each argument reads behind the call as it read before'; 0 by the template 'total and deterministic' (their statements: YtplocljoanaoeaaTotals.lean).
  GIVEN WITH THE SEED: the statements are not yours to turn. If you find one false, say at which input.
  Laid BY PROGRAM, IN A SANDBOX (cutbox-rows.mjs): the forced cells as the released guide's own fill.sh prints them over the translation 625535ef73e4b59d… (all of the seat's roots in one cut). By AI agents, Wed Nov 11 2026. No macro, syntax, notation, axiom, sorry.
-/
import Derived.Test.YtplocljoanaoeaaChecked
import GoSem.Claim
import GoSem.ClaimJoined
import GoSem.ClaimMapViews
import Derived.JoinedTies
import Derived.KernelRfl
namespace Go.Proofs.Ytplocljoanaoeaa
/- THE CELL 'sum', in the pinned program and in every row, IS THE sha256 OF THE DUMP (.gsa) THAT YtplocljoanaoeaaProg.lean LOADS. Nothing in Lean hashes anything: it is a label: what it is worth is what the hold of that sum in a sandbox is worth. -/
noncomputable def Try.pinned : Pinned := { name := "ytplocljoanaoeaa", sum := "625535ef73e4b59d70d1201c3c1b9622607c4d637649e384581f2716638718c2", checked := Try.checked }
namespace Rows
def none {H : Type} : Left H := { results := [], args := [] }

/-- 'laws.FnFarNever': WHATEVER THE INPUT: true; the input reads as it did. -/
def fnFarNeverSpec : ChangeSpec := { name := "fnFarNever", fn := fun _ => fun
  | [d] => { results := [.lit (.bool true)], args := [d] }
  | _ => none }
def fnFarNeverRow : OpenClaim := { program := "ytplocljoanaoeaa", sum := "625535ef73e4b59d70d1201c3c1b9622607c4d637649e384581f2716638718c2", func := "loop.example/compurgator/laws.FnFarNever", spec := "fnFarNever", unfollowed := true, recurses := true, apart := false }
def FnFarNeverSaid : Prop := fnFarNeverRow.holds Try.pinned (OpenSpec.ofChange fnFarNeverSpec)

/-- ITS FALSE NEIGHBOUR: 'it returns false'. Refute it at one input. -/
def fnFarNeverWrong : ChangeSpec := { name := "fnFarNever", fn := fun _ => fun
  | [d] => { results := [.lit (.bool false)], args := [d] }
  | _ => none }
def FnFarNeverWrongFalsely : Prop := fnFarNeverRow.holds Try.pinned (OpenSpec.ofChange fnFarNeverWrong)

/-- 'laws.FnFarSum': WHATEVER THE INPUT: true; the input reads as it did. -/
def fnFarSumSpec : ChangeSpec := { name := "fnFarSum", fn := fun _ => fun
  | [d] => { results := [.lit (.bool true)], args := [d] }
  | _ => none }
def fnFarSumRow : OpenClaim := { program := "ytplocljoanaoeaa", sum := "625535ef73e4b59d70d1201c3c1b9622607c4d637649e384581f2716638718c2", func := "loop.example/compurgator/laws.FnFarSum", spec := "fnFarSum", unfollowed := true, recurses := true, apart := false }
def FnFarSumSaid : Prop := fnFarSumRow.holds Try.pinned (OpenSpec.ofChange fnFarSumSpec)

/-- ITS FALSE NEIGHBOUR: 'it returns false'. Refute it at one input. -/
def fnFarSumWrong : ChangeSpec := { name := "fnFarSum", fn := fun _ => fun
  | [d] => { results := [.lit (.bool false)], args := [d] }
  | _ => none }
def FnFarSumWrongFalsely : Prop := fnFarSumRow.holds Try.pinned (OpenSpec.ofChange fnFarSumWrong)

/-- 'laws.FnFarLess': WHATEVER THE INPUT: true; the input reads as it did. -/
def fnFarLessSpec : ChangeSpec := { name := "fnFarLess", fn := fun _ => fun
  | [d] => { results := [.lit (.bool true)], args := [d] }
  | _ => none }
def fnFarLessRow : OpenClaim := { program := "ytplocljoanaoeaa", sum := "625535ef73e4b59d70d1201c3c1b9622607c4d637649e384581f2716638718c2", func := "loop.example/compurgator/laws.FnFarLess", spec := "fnFarLess", unfollowed := true, recurses := true, apart := false }
def FnFarLessSaid : Prop := fnFarLessRow.holds Try.pinned (OpenSpec.ofChange fnFarLessSpec)

/-- ITS FALSE NEIGHBOUR: 'it returns false'. Refute it at one input. -/
def fnFarLessWrong : ChangeSpec := { name := "fnFarLess", fn := fun _ => fun
  | [d] => { results := [.lit (.bool false)], args := [d] }
  | _ => none }
def FnFarLessWrongFalsely : Prop := fnFarLessRow.holds Try.pinned (OpenSpec.ofChange fnFarLessWrong)

/-- 'laws.FnFarPart': WHATEVER THE INPUT: true; the input reads as it did. -/
def fnFarPartSpec : ChangeSpec := { name := "fnFarPart", fn := fun _ => fun
  | [d1, d2] => { results := [.lit (.bool true)], args := [d1, d2] }
  | _ => none }
def fnFarPartRow : OpenClaim := { program := "ytplocljoanaoeaa", sum := "625535ef73e4b59d70d1201c3c1b9622607c4d637649e384581f2716638718c2", func := "loop.example/compurgator/laws.FnFarPart", spec := "fnFarPart", unfollowed := true, recurses := true, apart := false }
def FnFarPartSaid : Prop := fnFarPartRow.holds Try.pinned (OpenSpec.ofChange fnFarPartSpec)

/-- ITS FALSE NEIGHBOUR: 'it returns false'. Refute it at one input. -/
def fnFarPartWrong : ChangeSpec := { name := "fnFarPart", fn := fun _ => fun
  | [d1, d2] => { results := [.lit (.bool false)], args := [d1, d2] }
  | _ => none }
def FnFarPartWrongFalsely : Prop := fnFarPartRow.holds Try.pinned (OpenSpec.ofChange fnFarPartWrong)

/-- 'laws.FnFarAll': WHATEVER THE INPUT: true; the input reads as it did. -/
def fnFarAllSpec : ChangeSpec := { name := "fnFarAll", fn := fun _ => fun
  | [d] => { results := [.lit (.bool true)], args := [d] }
  | _ => none }
def fnFarAllRow : OpenClaim := { program := "ytplocljoanaoeaa", sum := "625535ef73e4b59d70d1201c3c1b9622607c4d637649e384581f2716638718c2", func := "loop.example/compurgator/laws.FnFarAll", spec := "fnFarAll", apart := false }
def FnFarAllSaid : Prop := fnFarAllRow.holds Try.pinned (OpenSpec.ofChange fnFarAllSpec)

/-- ITS FALSE NEIGHBOUR: 'it returns false'. Refute it at one input. -/
def fnFarAllWrong : ChangeSpec := { name := "fnFarAll", fn := fun _ => fun
  | [d] => { results := [.lit (.bool false)], args := [d] }
  | _ => none }
def FnFarAllWrongFalsely : Prop := fnFarAllRow.holds Try.pinned (OpenSpec.ofChange fnFarAllWrong)

/-- 'laws.FnFarTwice': WHATEVER THE INPUT: true; the input reads as it did. -/
def fnFarTwiceSpec : ChangeSpec := { name := "fnFarTwice", fn := fun _ => fun
  | [d] => { results := [.lit (.bool true)], args := [d] }
  | _ => none }
def fnFarTwiceRow : OpenClaim := { program := "ytplocljoanaoeaa", sum := "625535ef73e4b59d70d1201c3c1b9622607c4d637649e384581f2716638718c2", func := "loop.example/compurgator/laws.FnFarTwice", spec := "fnFarTwice", unfollowed := true, recurses := true, apart := false }
def FnFarTwiceSaid : Prop := fnFarTwiceRow.holds Try.pinned (OpenSpec.ofChange fnFarTwiceSpec)

/-- ITS FALSE NEIGHBOUR: 'it returns false'. Refute it at one input. -/
def fnFarTwiceWrong : ChangeSpec := { name := "fnFarTwice", fn := fun _ => fun
  | [d] => { results := [.lit (.bool false)], args := [d] }
  | _ => none }
def FnFarTwiceWrongFalsely : Prop := fnFarTwiceRow.holds Try.pinned (OpenSpec.ofChange fnFarTwiceWrong)

/-- 'laws.FnFarNone': WHATEVER THE INPUT: true; the input reads as it did. -/
def fnFarNoneSpec : ChangeSpec := { name := "fnFarNone", fn := fun _ => fun
  | [d] => { results := [.lit (.bool true)], args := [d] }
  | _ => none }
def fnFarNoneRow : OpenClaim := { program := "ytplocljoanaoeaa", sum := "625535ef73e4b59d70d1201c3c1b9622607c4d637649e384581f2716638718c2", func := "loop.example/compurgator/laws.FnFarNone", spec := "fnFarNone", unfollowed := true, recurses := true, apart := false }
def FnFarNoneSaid : Prop := fnFarNoneRow.holds Try.pinned (OpenSpec.ofChange fnFarNoneSpec)

/-- ITS FALSE NEIGHBOUR: 'it returns false'. Refute it at one input. -/
def fnFarNoneWrong : ChangeSpec := { name := "fnFarNone", fn := fun _ => fun
  | [d] => { results := [.lit (.bool false)], args := [d] }
  | _ => none }
def FnFarNoneWrongFalsely : Prop := fnFarNoneRow.holds Try.pinned (OpenSpec.ofChange fnFarNoneWrong)

/-- 'laws.FnFarMore': WHATEVER THE INPUT: true; the input reads as it did. -/
def fnFarMoreSpec : ChangeSpec := { name := "fnFarMore", fn := fun _ => fun
  | [d] => { results := [.lit (.bool true)], args := [d] }
  | _ => none }
def fnFarMoreRow : OpenClaim := { program := "ytplocljoanaoeaa", sum := "625535ef73e4b59d70d1201c3c1b9622607c4d637649e384581f2716638718c2", func := "loop.example/compurgator/laws.FnFarMore", spec := "fnFarMore", unfollowed := true, recurses := true, apart := false }
def FnFarMoreSaid : Prop := fnFarMoreRow.holds Try.pinned (OpenSpec.ofChange fnFarMoreSpec)

/-- ITS FALSE NEIGHBOUR: 'it returns false'. Refute it at one input. -/
def fnFarMoreWrong : ChangeSpec := { name := "fnFarMore", fn := fun _ => fun
  | [d] => { results := [.lit (.bool false)], args := [d] }
  | _ => none }
def FnFarMoreWrongFalsely : Prop := fnFarMoreRow.holds Try.pinned (OpenSpec.ofChange fnFarMoreWrong)

/- THE SECOND FORM. 'bulk': how many values and letters a reading holds, each counted each time it is reached (what is shared counts as often as it is met; a slice's spare places count too). A statement '..UptoSaid' is the law's where the arguments, and the package variables that the reading takes, are together of bulk at most 1048576: NARROWER than '..Said'. Prove '..Said' where nothing that the law and all that it calls make is longer than what came in: it says more and counts as full. Else prove '..UptoSaid'. A law counts once. -/
mutual
def uptoBulk {H : Type} : DataW H → Nat
  | .lit (.string bytes) => bytes.length + 1
  | .lit _ => 1
  | .nil => 1
  | .ptr d => uptoBulk d + 1
  | .slice elems spare => uptoBulkAll elems + uptoBulkAll spare + 1
  | .agg parts => uptoBulkAll parts + 1
  | .iface _ d => uptoBulk d + 1
  | .map entries => uptoBulkEntries entries + 1
  | .held _ => 1
def uptoBulkAll {H : Type} : List (DataW H) → Nat
  | [] => 0
  | d :: r => uptoBulk d + uptoBulkAll r
def uptoBulkEntries {H : Type} : List (Lit × DataW H) → Nat
  | [] => 0
  | x :: r => uptoBulkEntry x + uptoBulkEntries r
def uptoBulkEntry {H : Type} : Lit × DataW H → Nat
  | (.string bytes, d) => bytes.length + uptoBulk d + 1
  | (_, d) => uptoBulk d + 1
 end
def uptoSmall : (H : Type) → List (DataW H) → Bool := fun _ ds => decide (uptoBulkAll ds ≤ 1048576)
def OpenSpec.upto (s : _root_.Go.ChangeSpec) : _root_.Go.OpenSpec := { _root_.Go.OpenSpec.ofChange s with cond := some uptoSmall }

/-- 'laws.FnFarNever', WHERE WHAT IT READS IS OF BULK AT MOST 1048576: true; the input reads as it did. -/
def fnFarNeverUptoRow : OpenClaim := { program := "ytplocljoanaoeaa", sum := "625535ef73e4b59d70d1201c3c1b9622607c4d637649e384581f2716638718c2", func := "loop.example/compurgator/laws.FnFarNever", spec := "fnFarNever", unfollowed := true, recurses := true, apart := false, narrowed := true }
def FnFarNeverUptoSaid : Prop := fnFarNeverUptoRow.holds Try.pinned (OpenSpec.upto fnFarNeverSpec)

/-- 'laws.FnFarSum', WHERE WHAT IT READS IS OF BULK AT MOST 1048576: true; the input reads as it did. -/
def fnFarSumUptoRow : OpenClaim := { program := "ytplocljoanaoeaa", sum := "625535ef73e4b59d70d1201c3c1b9622607c4d637649e384581f2716638718c2", func := "loop.example/compurgator/laws.FnFarSum", spec := "fnFarSum", unfollowed := true, recurses := true, apart := false, narrowed := true }
def FnFarSumUptoSaid : Prop := fnFarSumUptoRow.holds Try.pinned (OpenSpec.upto fnFarSumSpec)

/-- 'laws.FnFarLess', WHERE WHAT IT READS IS OF BULK AT MOST 1048576: true; the input reads as it did. -/
def fnFarLessUptoRow : OpenClaim := { program := "ytplocljoanaoeaa", sum := "625535ef73e4b59d70d1201c3c1b9622607c4d637649e384581f2716638718c2", func := "loop.example/compurgator/laws.FnFarLess", spec := "fnFarLess", unfollowed := true, recurses := true, apart := false, narrowed := true }
def FnFarLessUptoSaid : Prop := fnFarLessUptoRow.holds Try.pinned (OpenSpec.upto fnFarLessSpec)

/-- 'laws.FnFarPart', WHERE WHAT IT READS IS OF BULK AT MOST 1048576: true; the input reads as it did. -/
def fnFarPartUptoRow : OpenClaim := { program := "ytplocljoanaoeaa", sum := "625535ef73e4b59d70d1201c3c1b9622607c4d637649e384581f2716638718c2", func := "loop.example/compurgator/laws.FnFarPart", spec := "fnFarPart", unfollowed := true, recurses := true, apart := false, narrowed := true }
def FnFarPartUptoSaid : Prop := fnFarPartUptoRow.holds Try.pinned (OpenSpec.upto fnFarPartSpec)

/-- 'laws.FnFarAll', WHERE WHAT IT READS IS OF BULK AT MOST 1048576: true; the input reads as it did. -/
def fnFarAllUptoRow : OpenClaim := { program := "ytplocljoanaoeaa", sum := "625535ef73e4b59d70d1201c3c1b9622607c4d637649e384581f2716638718c2", func := "loop.example/compurgator/laws.FnFarAll", spec := "fnFarAll", apart := false, narrowed := true }
def FnFarAllUptoSaid : Prop := fnFarAllUptoRow.holds Try.pinned (OpenSpec.upto fnFarAllSpec)

/-- 'laws.FnFarTwice', WHERE WHAT IT READS IS OF BULK AT MOST 1048576: true; the input reads as it did. -/
def fnFarTwiceUptoRow : OpenClaim := { program := "ytplocljoanaoeaa", sum := "625535ef73e4b59d70d1201c3c1b9622607c4d637649e384581f2716638718c2", func := "loop.example/compurgator/laws.FnFarTwice", spec := "fnFarTwice", unfollowed := true, recurses := true, apart := false, narrowed := true }
def FnFarTwiceUptoSaid : Prop := fnFarTwiceUptoRow.holds Try.pinned (OpenSpec.upto fnFarTwiceSpec)

/-- 'laws.FnFarNone', WHERE WHAT IT READS IS OF BULK AT MOST 1048576: true; the input reads as it did. -/
def fnFarNoneUptoRow : OpenClaim := { program := "ytplocljoanaoeaa", sum := "625535ef73e4b59d70d1201c3c1b9622607c4d637649e384581f2716638718c2", func := "loop.example/compurgator/laws.FnFarNone", spec := "fnFarNone", unfollowed := true, recurses := true, apart := false, narrowed := true }
def FnFarNoneUptoSaid : Prop := fnFarNoneUptoRow.holds Try.pinned (OpenSpec.upto fnFarNoneSpec)

/-- 'laws.FnFarMore', WHERE WHAT IT READS IS OF BULK AT MOST 1048576: true; the input reads as it did. -/
def fnFarMoreUptoRow : OpenClaim := { program := "ytplocljoanaoeaa", sum := "625535ef73e4b59d70d1201c3c1b9622607c4d637649e384581f2716638718c2", func := "loop.example/compurgator/laws.FnFarMore", spec := "fnFarMore", unfollowed := true, recurses := true, apart := false, narrowed := true }
def FnFarMoreUptoSaid : Prop := fnFarMoreUptoRow.holds Try.pinned (OpenSpec.upto fnFarMoreSpec)

end Rows
end Go.Proofs.Ytplocljoanaoeaa
