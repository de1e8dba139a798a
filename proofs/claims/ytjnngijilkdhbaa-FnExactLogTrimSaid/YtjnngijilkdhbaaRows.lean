/-
  No cell of these rows narrows 'for every input' (looked for: loops, veiled, ifaces, maps, wideKeys, modest, calm, conditions, laid).
  DERIVED. THE GIVEN ROWS OF THIS SEAT. 5 by the template 'for every input the law returns true; each argument reads behind the call as it read before'; 0 by the template 'total and deterministic' (their statements: YtjnngijilkdhbaaTotals.lean).
  GIVEN WITH THE SEED: the statements are not yours to turn. If you find one false, say at which input.
  Laid BY PROGRAM, IN A SANDBOX (cutbox-rows.mjs): the forced cells as the released guide's own fill.sh prints them over the translation e63a86da13fd6983… (all of the seat's roots in one cut). By AI agents, Wed Nov 11 2026. No macro, syntax, notation, axiom, sorry.
-/
import Derived.Test.YtjnngijilkdhbaaChecked
import GoSem.Claim
import GoSem.ClaimJoined
import GoSem.ClaimMapViews
import Derived.JoinedTies
import Derived.KernelRfl
namespace Go.Proofs.Ytjnngijilkdhbaa
/- THE CELL 'sum', in the pinned program and in every row, IS THE sha256 OF THE DUMP (.gsa) THAT YtjnngijilkdhbaaProg.lean LOADS. Nothing in Lean hashes anything: it is a label: what it is worth is what the hold of that sum in a sandbox is worth. -/
noncomputable def Try.pinned : Pinned := { name := "ytjnngijilkdhbaa", sum := "e63a86da13fd69831b8b18c8643a4c76fc681ebde85a14323247d0e1422ad0aa", checked := Try.checked }
namespace Rows
def none {H : Type} : Left H := { results := [], args := [] }

/-- 'laws.FnExactLogEnds': WHATEVER THE INPUT: true; the input reads as it did. -/
def fnExactLogEndsSpec : ChangeSpec := { name := "fnExactLogEnds", fn := fun _ => fun
  | [d] => { results := [.lit (.bool true)], args := [d] }
  | _ => none }
def fnExactLogEndsRow : OpenClaim := { program := "ytjnngijilkdhbaa", sum := "e63a86da13fd69831b8b18c8643a4c76fc681ebde85a14323247d0e1422ad0aa", func := "loop.example/compurgator/laws.FnExactLogEnds", spec := "fnExactLogEnds", apart := false }
def FnExactLogEndsSaid : Prop := fnExactLogEndsRow.holds Try.pinned (OpenSpec.ofChange fnExactLogEndsSpec)

/-- ITS FALSE NEIGHBOUR: 'it returns false'. Refute it at one input. -/
def fnExactLogEndsWrong : ChangeSpec := { name := "fnExactLogEnds", fn := fun _ => fun
  | [d] => { results := [.lit (.bool false)], args := [d] }
  | _ => none }
def FnExactLogEndsWrongFalsely : Prop := fnExactLogEndsRow.holds Try.pinned (OpenSpec.ofChange fnExactLogEndsWrong)

/-- 'laws.FnExactLogOk': WHATEVER THE INPUT: true; the input reads as it did. -/
def fnExactLogOkSpec : ChangeSpec := { name := "fnExactLogOk", fn := fun _ => fun
  | [d1, d2] => { results := [.lit (.bool true)], args := [d1, d2] }
  | _ => none }
def fnExactLogOkRow : OpenClaim := { program := "ytjnngijilkdhbaa", sum := "e63a86da13fd69831b8b18c8643a4c76fc681ebde85a14323247d0e1422ad0aa", func := "loop.example/compurgator/laws.FnExactLogOk", spec := "fnExactLogOk", unfollowed := true, recurses := true, apart := false }
def FnExactLogOkSaid : Prop := fnExactLogOkRow.holds Try.pinned (OpenSpec.ofChange fnExactLogOkSpec)

/-- ITS FALSE NEIGHBOUR: 'it returns false'. Refute it at one input. -/
def fnExactLogOkWrong : ChangeSpec := { name := "fnExactLogOk", fn := fun _ => fun
  | [d1, d2] => { results := [.lit (.bool false)], args := [d1, d2] }
  | _ => none }
def FnExactLogOkWrongFalsely : Prop := fnExactLogOkRow.holds Try.pinned (OpenSpec.ofChange fnExactLogOkWrong)

/-- 'laws.FnExactLogTrim': WHATEVER THE INPUT: true; the input reads as it did. -/
def fnExactLogTrimSpec : ChangeSpec := { name := "fnExactLogTrim", fn := fun _ => fun
  | [d1, d2] => { results := [.lit (.bool true)], args := [d1, d2] }
  | _ => none }
def fnExactLogTrimRow : OpenClaim := { program := "ytjnngijilkdhbaa", sum := "e63a86da13fd69831b8b18c8643a4c76fc681ebde85a14323247d0e1422ad0aa", func := "loop.example/compurgator/laws.FnExactLogTrim", spec := "fnExactLogTrim", unfollowed := true, recurses := true, apart := false }
def FnExactLogTrimSaid : Prop := fnExactLogTrimRow.holds Try.pinned (OpenSpec.ofChange fnExactLogTrimSpec)

/-- ITS FALSE NEIGHBOUR: 'it returns false'. Refute it at one input. -/
def fnExactLogTrimWrong : ChangeSpec := { name := "fnExactLogTrim", fn := fun _ => fun
  | [d1, d2] => { results := [.lit (.bool false)], args := [d1, d2] }
  | _ => none }
def FnExactLogTrimWrongFalsely : Prop := fnExactLogTrimRow.holds Try.pinned (OpenSpec.ofChange fnExactLogTrimWrong)

/-- 'laws.FnExactCnfUnits': WHATEVER THE INPUT: true; the input reads as it did. -/
def fnExactCnfUnitsSpec : ChangeSpec := { name := "fnExactCnfUnits", fn := fun _ => fun
  | [d1, d2] => { results := [.lit (.bool true)], args := [d1, d2] }
  | _ => none }
def fnExactCnfUnitsRow : OpenClaim := { program := "ytjnngijilkdhbaa", sum := "e63a86da13fd69831b8b18c8643a4c76fc681ebde85a14323247d0e1422ad0aa", func := "loop.example/compurgator/laws.FnExactCnfUnits", spec := "fnExactCnfUnits", unfollowed := true, recurses := true, apart := false }
def FnExactCnfUnitsSaid : Prop := fnExactCnfUnitsRow.holds Try.pinned (OpenSpec.ofChange fnExactCnfUnitsSpec)

/-- ITS FALSE NEIGHBOUR: 'it returns false'. Refute it at one input. -/
def fnExactCnfUnitsWrong : ChangeSpec := { name := "fnExactCnfUnits", fn := fun _ => fun
  | [d1, d2] => { results := [.lit (.bool false)], args := [d1, d2] }
  | _ => none }
def FnExactCnfUnitsWrongFalsely : Prop := fnExactCnfUnitsRow.holds Try.pinned (OpenSpec.ofChange fnExactCnfUnitsWrong)

/-- 'laws.FnExactCnfRup': WHATEVER THE INPUT: true; the input reads as it did. -/
def fnExactCnfRupSpec : ChangeSpec := { name := "fnExactCnfRup", fn := fun _ => fun
  | [d1, d2] => { results := [.lit (.bool true)], args := [d1, d2] }
  | _ => none }
def fnExactCnfRupRow : OpenClaim := { program := "ytjnngijilkdhbaa", sum := "e63a86da13fd69831b8b18c8643a4c76fc681ebde85a14323247d0e1422ad0aa", func := "loop.example/compurgator/laws.FnExactCnfRup", spec := "fnExactCnfRup", unfollowed := true, recurses := true, apart := false }
def FnExactCnfRupSaid : Prop := fnExactCnfRupRow.holds Try.pinned (OpenSpec.ofChange fnExactCnfRupSpec)

/-- ITS FALSE NEIGHBOUR: 'it returns false'. Refute it at one input. -/
def fnExactCnfRupWrong : ChangeSpec := { name := "fnExactCnfRup", fn := fun _ => fun
  | [d1, d2] => { results := [.lit (.bool false)], args := [d1, d2] }
  | _ => none }
def FnExactCnfRupWrongFalsely : Prop := fnExactCnfRupRow.holds Try.pinned (OpenSpec.ofChange fnExactCnfRupWrong)

/- THE SECOND FORM. 'bulk': how many values and letters a reading holds, each counted each time it is reached (what is shared counts as often as it is met; a slice's spare places count too). A statement '..UptoSaid' is the law's where the arguments, and the package variables that the reading takes, are together of bulk at most 1048576: NARROWER than '..Said'. Prove '..Said' where nothing that the law and all that it calls make is longer than what came in: it says more and counts as full. Else prove '..UptoSaid'. A law counts once. -/
mutual
def uptoBulk {H : Type} : DataW H → Nat
  | .lit (.string bytes) => bytes.length + 1
  | .lit _ => 1
  | .nil => 1
  | .ptr d => uptoBulk d + 1
  | .slice elems spare => uptoBulkAll elems + uptoBulkAll spare + 1
  | .agg parts => uptoBulkAll parts + 1
  | .iface _ d => uptoBulk d + 1
  | .map entries => uptoBulkEntries entries + 1
  | .held _ => 1
def uptoBulkAll {H : Type} : List (DataW H) → Nat
  | [] => 0
  | d :: r => uptoBulk d + uptoBulkAll r
def uptoBulkEntries {H : Type} : List (Lit × DataW H) → Nat
  | [] => 0
  | x :: r => uptoBulkEntry x + uptoBulkEntries r
def uptoBulkEntry {H : Type} : Lit × DataW H → Nat
  | (.string bytes, d) => bytes.length + uptoBulk d + 1
  | (_, d) => uptoBulk d + 1
 end
def uptoSmall : (H : Type) → List (DataW H) → Bool := fun _ ds => decide (uptoBulkAll ds ≤ 1048576)
def OpenSpec.upto (s : _root_.Go.ChangeSpec) : _root_.Go.OpenSpec := { _root_.Go.OpenSpec.ofChange s with cond := some uptoSmall }

/-- 'laws.FnExactLogEnds', WHERE WHAT IT READS IS OF BULK AT MOST 1048576: true; the input reads as it did. -/
def fnExactLogEndsUptoRow : OpenClaim := { program := "ytjnngijilkdhbaa", sum := "e63a86da13fd69831b8b18c8643a4c76fc681ebde85a14323247d0e1422ad0aa", func := "loop.example/compurgator/laws.FnExactLogEnds", spec := "fnExactLogEnds", apart := false, narrowed := true }
def FnExactLogEndsUptoSaid : Prop := fnExactLogEndsUptoRow.holds Try.pinned (OpenSpec.upto fnExactLogEndsSpec)

/-- 'laws.FnExactLogOk', WHERE WHAT IT READS IS OF BULK AT MOST 1048576: true; the input reads as it did. -/
def fnExactLogOkUptoRow : OpenClaim := { program := "ytjnngijilkdhbaa", sum := "e63a86da13fd69831b8b18c8643a4c76fc681ebde85a14323247d0e1422ad0aa", func := "loop.example/compurgator/laws.FnExactLogOk", spec := "fnExactLogOk", unfollowed := true, recurses := true, apart := false, narrowed := true }
def FnExactLogOkUptoSaid : Prop := fnExactLogOkUptoRow.holds Try.pinned (OpenSpec.upto fnExactLogOkSpec)

/-- 'laws.FnExactLogTrim', WHERE WHAT IT READS IS OF BULK AT MOST 1048576: true; the input reads as it did. -/
def fnExactLogTrimUptoRow : OpenClaim := { program := "ytjnngijilkdhbaa", sum := "e63a86da13fd69831b8b18c8643a4c76fc681ebde85a14323247d0e1422ad0aa", func := "loop.example/compurgator/laws.FnExactLogTrim", spec := "fnExactLogTrim", unfollowed := true, recurses := true, apart := false, narrowed := true }
def FnExactLogTrimUptoSaid : Prop := fnExactLogTrimUptoRow.holds Try.pinned (OpenSpec.upto fnExactLogTrimSpec)

/-- 'laws.FnExactCnfUnits', WHERE WHAT IT READS IS OF BULK AT MOST 1048576: true; the input reads as it did. -/
def fnExactCnfUnitsUptoRow : OpenClaim := { program := "ytjnngijilkdhbaa", sum := "e63a86da13fd69831b8b18c8643a4c76fc681ebde85a14323247d0e1422ad0aa", func := "loop.example/compurgator/laws.FnExactCnfUnits", spec := "fnExactCnfUnits", unfollowed := true, recurses := true, apart := false, narrowed := true }
def FnExactCnfUnitsUptoSaid : Prop := fnExactCnfUnitsUptoRow.holds Try.pinned (OpenSpec.upto fnExactCnfUnitsSpec)

/-- 'laws.FnExactCnfRup', WHERE WHAT IT READS IS OF BULK AT MOST 1048576: true; the input reads as it did. -/
def fnExactCnfRupUptoRow : OpenClaim := { program := "ytjnngijilkdhbaa", sum := "e63a86da13fd69831b8b18c8643a4c76fc681ebde85a14323247d0e1422ad0aa", func := "loop.example/compurgator/laws.FnExactCnfRup", spec := "fnExactCnfRup", unfollowed := true, recurses := true, apart := false, narrowed := true }
def FnExactCnfRupUptoSaid : Prop := fnExactCnfRupUptoRow.holds Try.pinned (OpenSpec.upto fnExactCnfRupSpec)

end Rows
end Go.Proofs.Ytjnngijilkdhbaa
