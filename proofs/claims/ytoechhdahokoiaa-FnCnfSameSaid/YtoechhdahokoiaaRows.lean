/-
  No cell of these rows narrows 'for every input' (looked for: loops, veiled, ifaces, maps, wideKeys, modest, calm, conditions, laid).
  DERIVED. THE GIVEN ROWS OF THIS SEAT. 6 by the template 'for every input the law returns true; each argument reads behind the call as it read before'; 0 by the template 'total and deterministic' (their statements: YtoechhdahokoiaaTotals.lean).
  GIVEN WITH THE SEED: the statements are not yours to turn. If you find one false, say at which input.
  Laid BY PROGRAM, IN A SANDBOX (cutbox-rows.mjs): the forced cells as the released guide's own fill.sh prints them over the translation d4d918094c0b4d2f… (all of the seat's roots in one cut). By AI agents, Wed Nov 11 2026. No macro, syntax, notation, axiom, sorry.
-/
import Derived.Test.YtoechhdahokoiaaChecked
import GoSem.Claim
import GoSem.ClaimJoined
import GoSem.ClaimMapViews
import Derived.JoinedTies
import Derived.KernelRfl
namespace Go.Proofs.Ytoechhdahokoiaa
/- THE CELL 'sum', in the pinned program and in every row, IS THE sha256 OF THE DUMP (.gsa) THAT YtoechhdahokoiaaProg.lean LOADS. Nothing in Lean hashes anything: it is a label: what it is worth is what the hold of that sum in a sandbox is worth. -/
noncomputable def Try.pinned : Pinned := { name := "ytoechhdahokoiaa", sum := "d4d918094c0b4d2fe25a81fc43e9d904cff196f506aaba795a6424e05b7e8672", checked := Try.checked }
namespace Rows
def none {H : Type} : Left H := { results := [], args := [] }

/-- 'laws.FnCnfIs': WHATEVER THE INPUT: true; the input reads as it did. -/
def fnCnfIsSpec : ChangeSpec := { name := "fnCnfIs", fn := fun _ => fun
  | [d1, d2] => { results := [.lit (.bool true)], args := [d1, d2] }
  | _ => none }
def fnCnfIsRow : OpenClaim := { program := "ytoechhdahokoiaa", sum := "d4d918094c0b4d2fe25a81fc43e9d904cff196f506aaba795a6424e05b7e8672", func := "loop.example/compurgator/laws.FnCnfIs", spec := "fnCnfIs", unfollowed := true, recurses := true, apart := false }
def FnCnfIsSaid : Prop := fnCnfIsRow.holds Try.pinned (OpenSpec.ofChange fnCnfIsSpec)

/-- ITS FALSE NEIGHBOUR: 'it returns false'. Refute it at one input. -/
def fnCnfIsWrong : ChangeSpec := { name := "fnCnfIs", fn := fun _ => fun
  | [d1, d2] => { results := [.lit (.bool false)], args := [d1, d2] }
  | _ => none }
def FnCnfIsWrongFalsely : Prop := fnCnfIsRow.holds Try.pinned (OpenSpec.ofChange fnCnfIsWrong)

/-- 'laws.FnCnfSame': WHATEVER THE INPUT: true; the input reads as it did. -/
def fnCnfSameSpec : ChangeSpec := { name := "fnCnfSame", fn := fun _ => fun
  | [d] => { results := [.lit (.bool true)], args := [d] }
  | _ => none }
def fnCnfSameRow : OpenClaim := { program := "ytoechhdahokoiaa", sum := "d4d918094c0b4d2fe25a81fc43e9d904cff196f506aaba795a6424e05b7e8672", func := "loop.example/compurgator/laws.FnCnfSame", spec := "fnCnfSame", unfollowed := true, recurses := true, apart := false }
def FnCnfSameSaid : Prop := fnCnfSameRow.holds Try.pinned (OpenSpec.ofChange fnCnfSameSpec)

/-- ITS FALSE NEIGHBOUR: 'it returns false'. Refute it at one input. -/
def fnCnfSameWrong : ChangeSpec := { name := "fnCnfSame", fn := fun _ => fun
  | [d] => { results := [.lit (.bool false)], args := [d] }
  | _ => none }
def FnCnfSameWrongFalsely : Prop := fnCnfSameRow.holds Try.pinned (OpenSpec.ofChange fnCnfSameWrong)

/-- 'laws.FnCnfUnits': WHATEVER THE INPUT: true; the input reads as it did. -/
def fnCnfUnitsSpec : ChangeSpec := { name := "fnCnfUnits", fn := fun _ => fun
  | [d] => { results := [.lit (.bool true)], args := [d] }
  | _ => none }
def fnCnfUnitsRow : OpenClaim := { program := "ytoechhdahokoiaa", sum := "d4d918094c0b4d2fe25a81fc43e9d904cff196f506aaba795a6424e05b7e8672", func := "loop.example/compurgator/laws.FnCnfUnits", spec := "fnCnfUnits", unfollowed := true, recurses := true, apart := false }
def FnCnfUnitsSaid : Prop := fnCnfUnitsRow.holds Try.pinned (OpenSpec.ofChange fnCnfUnitsSpec)

/-- ITS FALSE NEIGHBOUR: 'it returns false'. Refute it at one input. -/
def fnCnfUnitsWrong : ChangeSpec := { name := "fnCnfUnits", fn := fun _ => fun
  | [d] => { results := [.lit (.bool false)], args := [d] }
  | _ => none }
def FnCnfUnitsWrongFalsely : Prop := fnCnfUnitsRow.holds Try.pinned (OpenSpec.ofChange fnCnfUnitsWrong)

/-- 'laws.FnCnfRup': WHATEVER THE INPUT: true; the input reads as it did. -/
def fnCnfRupSpec : ChangeSpec := { name := "fnCnfRup", fn := fun _ => fun
  | [d] => { results := [.lit (.bool true)], args := [d] }
  | _ => none }
def fnCnfRupRow : OpenClaim := { program := "ytoechhdahokoiaa", sum := "d4d918094c0b4d2fe25a81fc43e9d904cff196f506aaba795a6424e05b7e8672", func := "loop.example/compurgator/laws.FnCnfRup", spec := "fnCnfRup", unfollowed := true, recurses := true, apart := false }
def FnCnfRupSaid : Prop := fnCnfRupRow.holds Try.pinned (OpenSpec.ofChange fnCnfRupSpec)

/-- ITS FALSE NEIGHBOUR: 'it returns false'. Refute it at one input. -/
def fnCnfRupWrong : ChangeSpec := { name := "fnCnfRup", fn := fun _ => fun
  | [d] => { results := [.lit (.bool false)], args := [d] }
  | _ => none }
def FnCnfRupWrongFalsely : Prop := fnCnfRupRow.holds Try.pinned (OpenSpec.ofChange fnCnfRupWrong)

/-- 'laws.FnCnfTwice': WHATEVER THE INPUT: true; the input reads as it did. -/
def fnCnfTwiceSpec : ChangeSpec := { name := "fnCnfTwice", fn := fun _ => fun
  | [d] => { results := [.lit (.bool true)], args := [d] }
  | _ => none }
def fnCnfTwiceRow : OpenClaim := { program := "ytoechhdahokoiaa", sum := "d4d918094c0b4d2fe25a81fc43e9d904cff196f506aaba795a6424e05b7e8672", func := "loop.example/compurgator/laws.FnCnfTwice", spec := "fnCnfTwice", unfollowed := true, recurses := true, apart := false }
def FnCnfTwiceSaid : Prop := fnCnfTwiceRow.holds Try.pinned (OpenSpec.ofChange fnCnfTwiceSpec)

/-- ITS FALSE NEIGHBOUR: 'it returns false'. Refute it at one input. -/
def fnCnfTwiceWrong : ChangeSpec := { name := "fnCnfTwice", fn := fun _ => fun
  | [d] => { results := [.lit (.bool false)], args := [d] }
  | _ => none }
def FnCnfTwiceWrongFalsely : Prop := fnCnfTwiceRow.holds Try.pinned (OpenSpec.ofChange fnCnfTwiceWrong)

/-- 'laws.FnCnfBent': WHATEVER THE INPUT: true; the input reads as it did. -/
def fnCnfBentSpec : ChangeSpec := { name := "fnCnfBent", fn := fun _ => fun
  | [d] => { results := [.lit (.bool true)], args := [d] }
  | _ => none }
def fnCnfBentRow : OpenClaim := { program := "ytoechhdahokoiaa", sum := "d4d918094c0b4d2fe25a81fc43e9d904cff196f506aaba795a6424e05b7e8672", func := "loop.example/compurgator/laws.FnCnfBent", spec := "fnCnfBent", unfollowed := true, recurses := true, apart := false }
def FnCnfBentSaid : Prop := fnCnfBentRow.holds Try.pinned (OpenSpec.ofChange fnCnfBentSpec)

/-- ITS FALSE NEIGHBOUR: 'it returns false'. Refute it at one input. -/
def fnCnfBentWrong : ChangeSpec := { name := "fnCnfBent", fn := fun _ => fun
  | [d] => { results := [.lit (.bool false)], args := [d] }
  | _ => none }
def FnCnfBentWrongFalsely : Prop := fnCnfBentRow.holds Try.pinned (OpenSpec.ofChange fnCnfBentWrong)

/- THE SECOND FORM. 'bulk': how many values and letters a reading holds, each counted each time it is reached (what is shared counts as often as it is met; a slice's spare places count too). A statement '..UptoSaid' is the law's where the arguments, and the package variables that the reading takes, are together of bulk at most 1048576: NARROWER than '..Said'. Prove '..Said' where nothing that the law and all that it calls make is longer than what came in: it says more and counts as full. Else prove '..UptoSaid'. A law counts once. -/
mutual
def uptoBulk {H : Type} : DataW H → Nat
  | .lit (.string bytes) => bytes.length + 1
  | .lit _ => 1
  | .nil => 1
  | .ptr d => uptoBulk d + 1
  | .slice elems spare => uptoBulkAll elems + uptoBulkAll spare + 1
  | .agg parts => uptoBulkAll parts + 1
  | .iface _ d => uptoBulk d + 1
  | .map entries => uptoBulkEntries entries + 1
  | .held _ => 1
def uptoBulkAll {H : Type} : List (DataW H) → Nat
  | [] => 0
  | d :: r => uptoBulk d + uptoBulkAll r
def uptoBulkEntries {H : Type} : List (Lit × DataW H) → Nat
  | [] => 0
  | x :: r => uptoBulkEntry x + uptoBulkEntries r
def uptoBulkEntry {H : Type} : Lit × DataW H → Nat
  | (.string bytes, d) => bytes.length + uptoBulk d + 1
  | (_, d) => uptoBulk d + 1
 end
def uptoSmall : (H : Type) → List (DataW H) → Bool := fun _ ds => decide (uptoBulkAll ds ≤ 1048576)
def OpenSpec.upto (s : _root_.Go.ChangeSpec) : _root_.Go.OpenSpec := { _root_.Go.OpenSpec.ofChange s with cond := some uptoSmall }

/-- 'laws.FnCnfIs', WHERE WHAT IT READS IS OF BULK AT MOST 1048576: true; the input reads as it did. -/
def fnCnfIsUptoRow : OpenClaim := { program := "ytoechhdahokoiaa", sum := "d4d918094c0b4d2fe25a81fc43e9d904cff196f506aaba795a6424e05b7e8672", func := "loop.example/compurgator/laws.FnCnfIs", spec := "fnCnfIs", unfollowed := true, recurses := true, apart := false, narrowed := true }
def FnCnfIsUptoSaid : Prop := fnCnfIsUptoRow.holds Try.pinned (OpenSpec.upto fnCnfIsSpec)

/-- 'laws.FnCnfSame', WHERE WHAT IT READS IS OF BULK AT MOST 1048576: true; the input reads as it did. -/
def fnCnfSameUptoRow : OpenClaim := { program := "ytoechhdahokoiaa", sum := "d4d918094c0b4d2fe25a81fc43e9d904cff196f506aaba795a6424e05b7e8672", func := "loop.example/compurgator/laws.FnCnfSame", spec := "fnCnfSame", unfollowed := true, recurses := true, apart := false, narrowed := true }
def FnCnfSameUptoSaid : Prop := fnCnfSameUptoRow.holds Try.pinned (OpenSpec.upto fnCnfSameSpec)

/-- 'laws.FnCnfUnits', WHERE WHAT IT READS IS OF BULK AT MOST 1048576: true; the input reads as it did. -/
def fnCnfUnitsUptoRow : OpenClaim := { program := "ytoechhdahokoiaa", sum := "d4d918094c0b4d2fe25a81fc43e9d904cff196f506aaba795a6424e05b7e8672", func := "loop.example/compurgator/laws.FnCnfUnits", spec := "fnCnfUnits", unfollowed := true, recurses := true, apart := false, narrowed := true }
def FnCnfUnitsUptoSaid : Prop := fnCnfUnitsUptoRow.holds Try.pinned (OpenSpec.upto fnCnfUnitsSpec)

/-- 'laws.FnCnfRup', WHERE WHAT IT READS IS OF BULK AT MOST 1048576: true; the input reads as it did. -/
def fnCnfRupUptoRow : OpenClaim := { program := "ytoechhdahokoiaa", sum := "d4d918094c0b4d2fe25a81fc43e9d904cff196f506aaba795a6424e05b7e8672", func := "loop.example/compurgator/laws.FnCnfRup", spec := "fnCnfRup", unfollowed := true, recurses := true, apart := false, narrowed := true }
def FnCnfRupUptoSaid : Prop := fnCnfRupUptoRow.holds Try.pinned (OpenSpec.upto fnCnfRupSpec)

/-- 'laws.FnCnfTwice', WHERE WHAT IT READS IS OF BULK AT MOST 1048576: true; the input reads as it did. -/
def fnCnfTwiceUptoRow : OpenClaim := { program := "ytoechhdahokoiaa", sum := "d4d918094c0b4d2fe25a81fc43e9d904cff196f506aaba795a6424e05b7e8672", func := "loop.example/compurgator/laws.FnCnfTwice", spec := "fnCnfTwice", unfollowed := true, recurses := true, apart := false, narrowed := true }
def FnCnfTwiceUptoSaid : Prop := fnCnfTwiceUptoRow.holds Try.pinned (OpenSpec.upto fnCnfTwiceSpec)

/-- 'laws.FnCnfBent', WHERE WHAT IT READS IS OF BULK AT MOST 1048576: true; the input reads as it did. -/
def fnCnfBentUptoRow : OpenClaim := { program := "ytoechhdahokoiaa", sum := "d4d918094c0b4d2fe25a81fc43e9d904cff196f506aaba795a6424e05b7e8672", func := "loop.example/compurgator/laws.FnCnfBent", spec := "fnCnfBent", unfollowed := true, recurses := true, apart := false, narrowed := true }
def FnCnfBentUptoSaid : Prop := fnCnfBentUptoRow.holds Try.pinned (OpenSpec.upto fnCnfBentSpec)

end Rows
end Go.Proofs.Ytoechhdahokoiaa
