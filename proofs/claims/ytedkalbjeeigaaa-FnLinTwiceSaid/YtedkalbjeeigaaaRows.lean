/-
  No cell of these rows narrows 'for every input' (looked for: loops, veiled, ifaces, maps, wideKeys, modest, calm, conditions, laid).
  DERIVED. THE GIVEN ROWS OF THIS SEAT. 14 by the template 'for every input the law returns true; each argument reads behind the call as it read before'; 0 by the template 'total and deterministic' (their statements: YtedkalbjeeigaaaTotals.lean).
  GIVEN WITH THE SEED: the statements are not yours to turn. If you find one false, say at which input.
  Laid BY PROGRAM, IN A SANDBOX (cutbox-rows.mjs): the forced cells as the released guide's own fill.sh prints them over the translation b4c87e57e1f3d0bb… (all of the seat's roots in one cut). By AI agents, Wed Nov 11 2026. No macro, syntax, notation, axiom, sorry.
-/
import Derived.Test.YtedkalbjeeigaaaChecked
import GoSem.Claim
import GoSem.ClaimJoined
import GoSem.ClaimMapViews
import Derived.JoinedTies
import Derived.KernelRfl
namespace Go.Proofs.Ytedkalbjeeigaaa
/- THE CELL 'sum', in the pinned program and in every row, IS THE sha256 OF THE DUMP (.gsa) THAT YtedkalbjeeigaaaProg.lean LOADS. Nothing in Lean hashes anything: it is a label: what it is worth is what the hold of that sum in a sandbox is worth. -/
noncomputable def Try.pinned : Pinned := { name := "ytedkalbjeeigaaa", sum := "b4c87e57e1f3d0bbfdea749e98f83a5e1ba64ebc1ed9969f09ad94f535f5083c", checked := Try.checked }
namespace Rows
def none {H : Type} : Left H := { results := [], args := [] }

/-- 'laws.FnLinNot': WHATEVER THE INPUT: true; the input reads as it did. -/
def fnLinNotSpec : ChangeSpec := { name := "fnLinNot", fn := fun _ => fun
  | [d] => { results := [.lit (.bool true)], args := [d] }
  | _ => none }
def fnLinNotRow : OpenClaim := { program := "ytedkalbjeeigaaa", sum := "b4c87e57e1f3d0bbfdea749e98f83a5e1ba64ebc1ed9969f09ad94f535f5083c", func := "loop.example/compurgator/laws.FnLinNot", spec := "fnLinNot", apart := false }
def FnLinNotSaid : Prop := fnLinNotRow.holds Try.pinned (OpenSpec.ofChange fnLinNotSpec)

/-- ITS FALSE NEIGHBOUR: 'it returns false'. Refute it at one input. -/
def fnLinNotWrong : ChangeSpec := { name := "fnLinNot", fn := fun _ => fun
  | [d] => { results := [.lit (.bool false)], args := [d] }
  | _ => none }
def FnLinNotWrongFalsely : Prop := fnLinNotRow.holds Try.pinned (OpenSpec.ofChange fnLinNotWrong)

/-- 'laws.FnLinSum': WHATEVER THE INPUT: true; the input reads as it did. -/
def fnLinSumSpec : ChangeSpec := { name := "fnLinSum", fn := fun _ => fun
  | [d] => { results := [.lit (.bool true)], args := [d] }
  | _ => none }
def fnLinSumRow : OpenClaim := { program := "ytedkalbjeeigaaa", sum := "b4c87e57e1f3d0bbfdea749e98f83a5e1ba64ebc1ed9969f09ad94f535f5083c", func := "loop.example/compurgator/laws.FnLinSum", spec := "fnLinSum", unfollowed := true, recurses := true, apart := false }
def FnLinSumSaid : Prop := fnLinSumRow.holds Try.pinned (OpenSpec.ofChange fnLinSumSpec)

/-- ITS FALSE NEIGHBOUR: 'it returns false'. Refute it at one input. -/
def fnLinSumWrong : ChangeSpec := { name := "fnLinSum", fn := fun _ => fun
  | [d] => { results := [.lit (.bool false)], args := [d] }
  | _ => none }
def FnLinSumWrongFalsely : Prop := fnLinSumRow.holds Try.pinned (OpenSpec.ofChange fnLinSumWrong)

/-- 'laws.FnLinBad': WHATEVER THE INPUT: true; the input reads as it did. -/
def fnLinBadSpec : ChangeSpec := { name := "fnLinBad", fn := fun _ => fun
  | [d] => { results := [.lit (.bool true)], args := [d] }
  | _ => none }
def fnLinBadRow : OpenClaim := { program := "ytedkalbjeeigaaa", sum := "b4c87e57e1f3d0bbfdea749e98f83a5e1ba64ebc1ed9969f09ad94f535f5083c", func := "loop.example/compurgator/laws.FnLinBad", spec := "fnLinBad", apart := false }
def FnLinBadSaid : Prop := fnLinBadRow.holds Try.pinned (OpenSpec.ofChange fnLinBadSpec)

/-- ITS FALSE NEIGHBOUR: 'it returns false'. Refute it at one input. -/
def fnLinBadWrong : ChangeSpec := { name := "fnLinBad", fn := fun _ => fun
  | [d] => { results := [.lit (.bool false)], args := [d] }
  | _ => none }
def FnLinBadWrongFalsely : Prop := fnLinBadRow.holds Try.pinned (OpenSpec.ofChange fnLinBadWrong)

/-- 'laws.FnLinAt': WHATEVER THE INPUT: true; the input reads as it did. -/
def fnLinAtSpec : ChangeSpec := { name := "fnLinAt", fn := fun _ => fun
  | [d] => { results := [.lit (.bool true)], args := [d] }
  | _ => none }
def fnLinAtRow : OpenClaim := { program := "ytedkalbjeeigaaa", sum := "b4c87e57e1f3d0bbfdea749e98f83a5e1ba64ebc1ed9969f09ad94f535f5083c", func := "loop.example/compurgator/laws.FnLinAt", spec := "fnLinAt", unfollowed := true, recurses := true, apart := false }
def FnLinAtSaid : Prop := fnLinAtRow.holds Try.pinned (OpenSpec.ofChange fnLinAtSpec)

/-- ITS FALSE NEIGHBOUR: 'it returns false'. Refute it at one input. -/
def fnLinAtWrong : ChangeSpec := { name := "fnLinAt", fn := fun _ => fun
  | [d] => { results := [.lit (.bool false)], args := [d] }
  | _ => none }
def FnLinAtWrongFalsely : Prop := fnLinAtRow.holds Try.pinned (OpenSpec.ofChange fnLinAtWrong)

/-- 'laws.FnLinSame': WHATEVER THE INPUT: true; the input reads as it did. -/
def fnLinSameSpec : ChangeSpec := { name := "fnLinSame", fn := fun _ => fun
  | [d] => { results := [.lit (.bool true)], args := [d] }
  | _ => none }
def fnLinSameRow : OpenClaim := { program := "ytedkalbjeeigaaa", sum := "b4c87e57e1f3d0bbfdea749e98f83a5e1ba64ebc1ed9969f09ad94f535f5083c", func := "loop.example/compurgator/laws.FnLinSame", spec := "fnLinSame", apart := false }
def FnLinSameSaid : Prop := fnLinSameRow.holds Try.pinned (OpenSpec.ofChange fnLinSameSpec)

/-- ITS FALSE NEIGHBOUR: 'it returns false'. Refute it at one input. -/
def fnLinSameWrong : ChangeSpec := { name := "fnLinSame", fn := fun _ => fun
  | [d] => { results := [.lit (.bool false)], args := [d] }
  | _ => none }
def FnLinSameWrongFalsely : Prop := fnLinSameRow.holds Try.pinned (OpenSpec.ofChange fnLinSameWrong)

/-- 'laws.FnLinZero': WHATEVER THE INPUT: true; the input reads as it did. -/
def fnLinZeroSpec : ChangeSpec := { name := "fnLinZero", fn := fun _ => fun
  | [d] => { results := [.lit (.bool true)], args := [d] }
  | _ => none }
def fnLinZeroRow : OpenClaim := { program := "ytedkalbjeeigaaa", sum := "b4c87e57e1f3d0bbfdea749e98f83a5e1ba64ebc1ed9969f09ad94f535f5083c", func := "loop.example/compurgator/laws.FnLinZero", spec := "fnLinZero", unfollowed := true, recurses := true, apart := false }
def FnLinZeroSaid : Prop := fnLinZeroRow.holds Try.pinned (OpenSpec.ofChange fnLinZeroSpec)

/-- ITS FALSE NEIGHBOUR: 'it returns false'. Refute it at one input. -/
def fnLinZeroWrong : ChangeSpec := { name := "fnLinZero", fn := fun _ => fun
  | [d] => { results := [.lit (.bool false)], args := [d] }
  | _ => none }
def FnLinZeroWrongFalsely : Prop := fnLinZeroRow.holds Try.pinned (OpenSpec.ofChange fnLinZeroWrong)

/-- 'laws.FnLinTwice': WHATEVER THE INPUT: true; the input reads as it did. -/
def fnLinTwiceSpec : ChangeSpec := { name := "fnLinTwice", fn := fun _ => fun
  | [d] => { results := [.lit (.bool true)], args := [d] }
  | _ => none }
def fnLinTwiceRow : OpenClaim := { program := "ytedkalbjeeigaaa", sum := "b4c87e57e1f3d0bbfdea749e98f83a5e1ba64ebc1ed9969f09ad94f535f5083c", func := "loop.example/compurgator/laws.FnLinTwice", spec := "fnLinTwice", unfollowed := true, recurses := true, apart := false }
def FnLinTwiceSaid : Prop := fnLinTwiceRow.holds Try.pinned (OpenSpec.ofChange fnLinTwiceSpec)

/-- ITS FALSE NEIGHBOUR: 'it returns false'. Refute it at one input. -/
def fnLinTwiceWrong : ChangeSpec := { name := "fnLinTwice", fn := fun _ => fun
  | [d] => { results := [.lit (.bool false)], args := [d] }
  | _ => none }
def FnLinTwiceWrongFalsely : Prop := fnLinTwiceRow.holds Try.pinned (OpenSpec.ofChange fnLinTwiceWrong)

/-- 'laws.FnExactLinOk': WHATEVER THE INPUT: true; the input reads as it did. -/
def fnExactLinOkSpec : ChangeSpec := { name := "fnExactLinOk", fn := fun _ => fun
  | [d] => { results := [.lit (.bool true)], args := [d] }
  | _ => none }
def fnExactLinOkRow : OpenClaim := { program := "ytedkalbjeeigaaa", sum := "b4c87e57e1f3d0bbfdea749e98f83a5e1ba64ebc1ed9969f09ad94f535f5083c", func := "loop.example/compurgator/laws.FnExactLinOk", spec := "fnExactLinOk", apart := false }
def FnExactLinOkSaid : Prop := fnExactLinOkRow.holds Try.pinned (OpenSpec.ofChange fnExactLinOkSpec)

/-- ITS FALSE NEIGHBOUR: 'it returns false'. Refute it at one input. -/
def fnExactLinOkWrong : ChangeSpec := { name := "fnExactLinOk", fn := fun _ => fun
  | [d] => { results := [.lit (.bool false)], args := [d] }
  | _ => none }
def FnExactLinOkWrongFalsely : Prop := fnExactLinOkRow.holds Try.pinned (OpenSpec.ofChange fnExactLinOkWrong)

/-- 'laws.FnExactLinAt': WHATEVER THE INPUT: true; the input reads as it did. -/
def fnExactLinAtSpec : ChangeSpec := { name := "fnExactLinAt", fn := fun _ => fun
  | [d1, d2] => { results := [.lit (.bool true)], args := [d1, d2] }
  | _ => none }
def fnExactLinAtRow : OpenClaim := { program := "ytedkalbjeeigaaa", sum := "b4c87e57e1f3d0bbfdea749e98f83a5e1ba64ebc1ed9969f09ad94f535f5083c", func := "loop.example/compurgator/laws.FnExactLinAt", spec := "fnExactLinAt", apart := false }
def FnExactLinAtSaid : Prop := fnExactLinAtRow.holds Try.pinned (OpenSpec.ofChange fnExactLinAtSpec)

/-- ITS FALSE NEIGHBOUR: 'it returns false'. Refute it at one input. -/
def fnExactLinAtWrong : ChangeSpec := { name := "fnExactLinAt", fn := fun _ => fun
  | [d1, d2] => { results := [.lit (.bool false)], args := [d1, d2] }
  | _ => none }
def FnExactLinAtWrongFalsely : Prop := fnExactLinAtRow.holds Try.pinned (OpenSpec.ofChange fnExactLinAtWrong)

/-- 'laws.FnExactLinNot': WHATEVER THE INPUT: true; the input reads as it did. -/
def fnExactLinNotSpec : ChangeSpec := { name := "fnExactLinNot", fn := fun _ => fun
  | [d] => { results := [.lit (.bool true)], args := [d] }
  | _ => none }
def fnExactLinNotRow : OpenClaim := { program := "ytedkalbjeeigaaa", sum := "b4c87e57e1f3d0bbfdea749e98f83a5e1ba64ebc1ed9969f09ad94f535f5083c", func := "loop.example/compurgator/laws.FnExactLinNot", spec := "fnExactLinNot", apart := false }
def FnExactLinNotSaid : Prop := fnExactLinNotRow.holds Try.pinned (OpenSpec.ofChange fnExactLinNotSpec)

/-- ITS FALSE NEIGHBOUR: 'it returns false'. Refute it at one input. -/
def fnExactLinNotWrong : ChangeSpec := { name := "fnExactLinNot", fn := fun _ => fun
  | [d] => { results := [.lit (.bool false)], args := [d] }
  | _ => none }
def FnExactLinNotWrongFalsely : Prop := fnExactLinNotRow.holds Try.pinned (OpenSpec.ofChange fnExactLinNotWrong)

/-- 'laws.FnExactLinSum': WHATEVER THE INPUT: true; the input reads as it did. -/
def fnExactLinSumSpec : ChangeSpec := { name := "fnExactLinSum", fn := fun _ => fun
  | [d1, d2, d3, d4] => { results := [.lit (.bool true)], args := [d1, d2, d3, d4] }
  | _ => none }
def fnExactLinSumRow : OpenClaim := { program := "ytedkalbjeeigaaa", sum := "b4c87e57e1f3d0bbfdea749e98f83a5e1ba64ebc1ed9969f09ad94f535f5083c", func := "loop.example/compurgator/laws.FnExactLinSum", spec := "fnExactLinSum", unfollowed := true, recurses := true, apart := false }
def FnExactLinSumSaid : Prop := fnExactLinSumRow.holds Try.pinned (OpenSpec.ofChange fnExactLinSumSpec)

/-- ITS FALSE NEIGHBOUR: 'it returns false'. Refute it at one input. -/
def fnExactLinSumWrong : ChangeSpec := { name := "fnExactLinSum", fn := fun _ => fun
  | [d1, d2, d3, d4] => { results := [.lit (.bool false)], args := [d1, d2, d3, d4] }
  | _ => none }
def FnExactLinSumWrongFalsely : Prop := fnExactLinSumRow.holds Try.pinned (OpenSpec.ofChange fnExactLinSumWrong)

/-- 'laws.FnExactLinBad': WHATEVER THE INPUT: true; the input reads as it did. -/
def fnExactLinBadSpec : ChangeSpec := { name := "fnExactLinBad", fn := fun _ => fun
  | [d] => { results := [.lit (.bool true)], args := [d] }
  | _ => none }
def fnExactLinBadRow : OpenClaim := { program := "ytedkalbjeeigaaa", sum := "b4c87e57e1f3d0bbfdea749e98f83a5e1ba64ebc1ed9969f09ad94f535f5083c", func := "loop.example/compurgator/laws.FnExactLinBad", spec := "fnExactLinBad", apart := false }
def FnExactLinBadSaid : Prop := fnExactLinBadRow.holds Try.pinned (OpenSpec.ofChange fnExactLinBadSpec)

/-- ITS FALSE NEIGHBOUR: 'it returns false'. Refute it at one input. -/
def fnExactLinBadWrong : ChangeSpec := { name := "fnExactLinBad", fn := fun _ => fun
  | [d] => { results := [.lit (.bool false)], args := [d] }
  | _ => none }
def FnExactLinBadWrongFalsely : Prop := fnExactLinBadRow.holds Try.pinned (OpenSpec.ofChange fnExactLinBadWrong)

/-- 'laws.FnExactLinFree': WHATEVER THE INPUT: true; the input reads as it did. -/
def fnExactLinFreeSpec : ChangeSpec := { name := "fnExactLinFree", fn := fun _ => fun
  | [d] => { results := [.lit (.bool true)], args := [d] }
  | _ => none }
def fnExactLinFreeRow : OpenClaim := { program := "ytedkalbjeeigaaa", sum := "b4c87e57e1f3d0bbfdea749e98f83a5e1ba64ebc1ed9969f09ad94f535f5083c", func := "loop.example/compurgator/laws.FnExactLinFree", spec := "fnExactLinFree", apart := false }
def FnExactLinFreeSaid : Prop := fnExactLinFreeRow.holds Try.pinned (OpenSpec.ofChange fnExactLinFreeSpec)

/-- ITS FALSE NEIGHBOUR: 'it returns false'. Refute it at one input. -/
def fnExactLinFreeWrong : ChangeSpec := { name := "fnExactLinFree", fn := fun _ => fun
  | [d] => { results := [.lit (.bool false)], args := [d] }
  | _ => none }
def FnExactLinFreeWrongFalsely : Prop := fnExactLinFreeRow.holds Try.pinned (OpenSpec.ofChange fnExactLinFreeWrong)

/-- 'laws.FnExactLinSame': WHATEVER THE INPUT: true; the input reads as it did. -/
def fnExactLinSameSpec : ChangeSpec := { name := "fnExactLinSame", fn := fun _ => fun
  | [d1, d2] => { results := [.lit (.bool true)], args := [d1, d2] }
  | _ => none }
def fnExactLinSameRow : OpenClaim := { program := "ytedkalbjeeigaaa", sum := "b4c87e57e1f3d0bbfdea749e98f83a5e1ba64ebc1ed9969f09ad94f535f5083c", func := "loop.example/compurgator/laws.FnExactLinSame", spec := "fnExactLinSame", apart := false }
def FnExactLinSameSaid : Prop := fnExactLinSameRow.holds Try.pinned (OpenSpec.ofChange fnExactLinSameSpec)

/-- ITS FALSE NEIGHBOUR: 'it returns false'. Refute it at one input. -/
def fnExactLinSameWrong : ChangeSpec := { name := "fnExactLinSame", fn := fun _ => fun
  | [d1, d2] => { results := [.lit (.bool false)], args := [d1, d2] }
  | _ => none }
def FnExactLinSameWrongFalsely : Prop := fnExactLinSameRow.holds Try.pinned (OpenSpec.ofChange fnExactLinSameWrong)

/- THE SECOND FORM. 'bulk': how many values and letters a reading holds, each counted each time it is reached (what is shared counts as often as it is met; a slice's spare places count too). A statement '..UptoSaid' is the law's where the arguments, and the package variables that the reading takes, are together of bulk at most 1048576: NARROWER than '..Said'. Prove '..Said' where nothing that the law and all that it calls make is longer than what came in: it says more and counts as full. Else prove '..UptoSaid'. A law counts once. -/
mutual
def uptoBulk {H : Type} : DataW H → Nat
  | .lit (.string bytes) => bytes.length + 1
  | .lit _ => 1
  | .nil => 1
  | .ptr d => uptoBulk d + 1
  | .slice elems spare => uptoBulkAll elems + uptoBulkAll spare + 1
  | .agg parts => uptoBulkAll parts + 1
  | .iface _ d => uptoBulk d + 1
  | .map entries => uptoBulkEntries entries + 1
  | .held _ => 1
def uptoBulkAll {H : Type} : List (DataW H) → Nat
  | [] => 0
  | d :: r => uptoBulk d + uptoBulkAll r
def uptoBulkEntries {H : Type} : List (Lit × DataW H) → Nat
  | [] => 0
  | x :: r => uptoBulkEntry x + uptoBulkEntries r
def uptoBulkEntry {H : Type} : Lit × DataW H → Nat
  | (.string bytes, d) => bytes.length + uptoBulk d + 1
  | (_, d) => uptoBulk d + 1
 end
def uptoSmall : (H : Type) → List (DataW H) → Bool := fun _ ds => decide (uptoBulkAll ds ≤ 1048576)
def OpenSpec.upto (s : _root_.Go.ChangeSpec) : _root_.Go.OpenSpec := { _root_.Go.OpenSpec.ofChange s with cond := some uptoSmall }

/-- 'laws.FnLinNot', WHERE WHAT IT READS IS OF BULK AT MOST 1048576: true; the input reads as it did. -/
def fnLinNotUptoRow : OpenClaim := { program := "ytedkalbjeeigaaa", sum := "b4c87e57e1f3d0bbfdea749e98f83a5e1ba64ebc1ed9969f09ad94f535f5083c", func := "loop.example/compurgator/laws.FnLinNot", spec := "fnLinNot", apart := false, narrowed := true }
def FnLinNotUptoSaid : Prop := fnLinNotUptoRow.holds Try.pinned (OpenSpec.upto fnLinNotSpec)

/-- 'laws.FnLinSum', WHERE WHAT IT READS IS OF BULK AT MOST 1048576: true; the input reads as it did. -/
def fnLinSumUptoRow : OpenClaim := { program := "ytedkalbjeeigaaa", sum := "b4c87e57e1f3d0bbfdea749e98f83a5e1ba64ebc1ed9969f09ad94f535f5083c", func := "loop.example/compurgator/laws.FnLinSum", spec := "fnLinSum", unfollowed := true, recurses := true, apart := false, narrowed := true }
def FnLinSumUptoSaid : Prop := fnLinSumUptoRow.holds Try.pinned (OpenSpec.upto fnLinSumSpec)

/-- 'laws.FnLinBad', WHERE WHAT IT READS IS OF BULK AT MOST 1048576: true; the input reads as it did. -/
def fnLinBadUptoRow : OpenClaim := { program := "ytedkalbjeeigaaa", sum := "b4c87e57e1f3d0bbfdea749e98f83a5e1ba64ebc1ed9969f09ad94f535f5083c", func := "loop.example/compurgator/laws.FnLinBad", spec := "fnLinBad", apart := false, narrowed := true }
def FnLinBadUptoSaid : Prop := fnLinBadUptoRow.holds Try.pinned (OpenSpec.upto fnLinBadSpec)

/-- 'laws.FnLinAt', WHERE WHAT IT READS IS OF BULK AT MOST 1048576: true; the input reads as it did. -/
def fnLinAtUptoRow : OpenClaim := { program := "ytedkalbjeeigaaa", sum := "b4c87e57e1f3d0bbfdea749e98f83a5e1ba64ebc1ed9969f09ad94f535f5083c", func := "loop.example/compurgator/laws.FnLinAt", spec := "fnLinAt", unfollowed := true, recurses := true, apart := false, narrowed := true }
def FnLinAtUptoSaid : Prop := fnLinAtUptoRow.holds Try.pinned (OpenSpec.upto fnLinAtSpec)

/-- 'laws.FnLinSame', WHERE WHAT IT READS IS OF BULK AT MOST 1048576: true; the input reads as it did. -/
def fnLinSameUptoRow : OpenClaim := { program := "ytedkalbjeeigaaa", sum := "b4c87e57e1f3d0bbfdea749e98f83a5e1ba64ebc1ed9969f09ad94f535f5083c", func := "loop.example/compurgator/laws.FnLinSame", spec := "fnLinSame", apart := false, narrowed := true }
def FnLinSameUptoSaid : Prop := fnLinSameUptoRow.holds Try.pinned (OpenSpec.upto fnLinSameSpec)

/-- 'laws.FnLinZero', WHERE WHAT IT READS IS OF BULK AT MOST 1048576: true; the input reads as it did. -/
def fnLinZeroUptoRow : OpenClaim := { program := "ytedkalbjeeigaaa", sum := "b4c87e57e1f3d0bbfdea749e98f83a5e1ba64ebc1ed9969f09ad94f535f5083c", func := "loop.example/compurgator/laws.FnLinZero", spec := "fnLinZero", unfollowed := true, recurses := true, apart := false, narrowed := true }
def FnLinZeroUptoSaid : Prop := fnLinZeroUptoRow.holds Try.pinned (OpenSpec.upto fnLinZeroSpec)

/-- 'laws.FnLinTwice', WHERE WHAT IT READS IS OF BULK AT MOST 1048576: true; the input reads as it did. -/
def fnLinTwiceUptoRow : OpenClaim := { program := "ytedkalbjeeigaaa", sum := "b4c87e57e1f3d0bbfdea749e98f83a5e1ba64ebc1ed9969f09ad94f535f5083c", func := "loop.example/compurgator/laws.FnLinTwice", spec := "fnLinTwice", unfollowed := true, recurses := true, apart := false, narrowed := true }
def FnLinTwiceUptoSaid : Prop := fnLinTwiceUptoRow.holds Try.pinned (OpenSpec.upto fnLinTwiceSpec)

/-- 'laws.FnExactLinOk', WHERE WHAT IT READS IS OF BULK AT MOST 1048576: true; the input reads as it did. -/
def fnExactLinOkUptoRow : OpenClaim := { program := "ytedkalbjeeigaaa", sum := "b4c87e57e1f3d0bbfdea749e98f83a5e1ba64ebc1ed9969f09ad94f535f5083c", func := "loop.example/compurgator/laws.FnExactLinOk", spec := "fnExactLinOk", apart := false, narrowed := true }
def FnExactLinOkUptoSaid : Prop := fnExactLinOkUptoRow.holds Try.pinned (OpenSpec.upto fnExactLinOkSpec)

/-- 'laws.FnExactLinAt', WHERE WHAT IT READS IS OF BULK AT MOST 1048576: true; the input reads as it did. -/
def fnExactLinAtUptoRow : OpenClaim := { program := "ytedkalbjeeigaaa", sum := "b4c87e57e1f3d0bbfdea749e98f83a5e1ba64ebc1ed9969f09ad94f535f5083c", func := "loop.example/compurgator/laws.FnExactLinAt", spec := "fnExactLinAt", apart := false, narrowed := true }
def FnExactLinAtUptoSaid : Prop := fnExactLinAtUptoRow.holds Try.pinned (OpenSpec.upto fnExactLinAtSpec)

/-- 'laws.FnExactLinNot', WHERE WHAT IT READS IS OF BULK AT MOST 1048576: true; the input reads as it did. -/
def fnExactLinNotUptoRow : OpenClaim := { program := "ytedkalbjeeigaaa", sum := "b4c87e57e1f3d0bbfdea749e98f83a5e1ba64ebc1ed9969f09ad94f535f5083c", func := "loop.example/compurgator/laws.FnExactLinNot", spec := "fnExactLinNot", apart := false, narrowed := true }
def FnExactLinNotUptoSaid : Prop := fnExactLinNotUptoRow.holds Try.pinned (OpenSpec.upto fnExactLinNotSpec)

/-- 'laws.FnExactLinSum', WHERE WHAT IT READS IS OF BULK AT MOST 1048576: true; the input reads as it did. -/
def fnExactLinSumUptoRow : OpenClaim := { program := "ytedkalbjeeigaaa", sum := "b4c87e57e1f3d0bbfdea749e98f83a5e1ba64ebc1ed9969f09ad94f535f5083c", func := "loop.example/compurgator/laws.FnExactLinSum", spec := "fnExactLinSum", unfollowed := true, recurses := true, apart := false, narrowed := true }
def FnExactLinSumUptoSaid : Prop := fnExactLinSumUptoRow.holds Try.pinned (OpenSpec.upto fnExactLinSumSpec)

/-- 'laws.FnExactLinBad', WHERE WHAT IT READS IS OF BULK AT MOST 1048576: true; the input reads as it did. -/
def fnExactLinBadUptoRow : OpenClaim := { program := "ytedkalbjeeigaaa", sum := "b4c87e57e1f3d0bbfdea749e98f83a5e1ba64ebc1ed9969f09ad94f535f5083c", func := "loop.example/compurgator/laws.FnExactLinBad", spec := "fnExactLinBad", apart := false, narrowed := true }
def FnExactLinBadUptoSaid : Prop := fnExactLinBadUptoRow.holds Try.pinned (OpenSpec.upto fnExactLinBadSpec)

/-- 'laws.FnExactLinFree', WHERE WHAT IT READS IS OF BULK AT MOST 1048576: true; the input reads as it did. -/
def fnExactLinFreeUptoRow : OpenClaim := { program := "ytedkalbjeeigaaa", sum := "b4c87e57e1f3d0bbfdea749e98f83a5e1ba64ebc1ed9969f09ad94f535f5083c", func := "loop.example/compurgator/laws.FnExactLinFree", spec := "fnExactLinFree", apart := false, narrowed := true }
def FnExactLinFreeUptoSaid : Prop := fnExactLinFreeUptoRow.holds Try.pinned (OpenSpec.upto fnExactLinFreeSpec)

/-- 'laws.FnExactLinSame', WHERE WHAT IT READS IS OF BULK AT MOST 1048576: true; the input reads as it did. -/
def fnExactLinSameUptoRow : OpenClaim := { program := "ytedkalbjeeigaaa", sum := "b4c87e57e1f3d0bbfdea749e98f83a5e1ba64ebc1ed9969f09ad94f535f5083c", func := "loop.example/compurgator/laws.FnExactLinSame", spec := "fnExactLinSame", apart := false, narrowed := true }
def FnExactLinSameUptoSaid : Prop := fnExactLinSameUptoRow.holds Try.pinned (OpenSpec.upto fnExactLinSameSpec)

end Rows
end Go.Proofs.Ytedkalbjeeigaaa
