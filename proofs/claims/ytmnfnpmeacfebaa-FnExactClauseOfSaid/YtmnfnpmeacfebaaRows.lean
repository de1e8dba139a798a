/-
  No cell of these rows narrows 'for every input' (looked for: loops, veiled, ifaces, maps, wideKeys, modest, calm, conditions, laid).
  DERIVED. THE GIVEN ROWS OF THIS SEAT. 6 by the template 'for every input the law returns true; each argument reads behind the call as it read before'; 0 by the template 'total and deterministic' (their statements: YtmnfnpmeacfebaaTotals.lean).
  GIVEN WITH THE SEED: the statements are not yours to turn. If you find one false, say at which input.
  Laid BY PROGRAM, IN A SANDBOX (cutbox-rows.mjs): the forced cells as the released guide's own fill.sh prints them over the translation 9ed37fdd5a9a933a… (all of the seat's roots in one cut). By AI agents, Wed Nov 11 2026. No macro, syntax, notation, axiom, sorry.
-/
import Derived.Test.YtmnfnpmeacfebaaChecked
import GoSem.Claim
import GoSem.ClaimJoined
import GoSem.ClaimMapViews
import Derived.JoinedTies
import Derived.KernelRfl
namespace Go.Proofs.Ytmnfnpmeacfebaa
/- THE CELL 'sum', in the pinned program and in every row, IS THE sha256 OF THE DUMP (.gsa) THAT YtmnfnpmeacfebaaProg.lean LOADS. Nothing in Lean hashes anything: it is a label: what it is worth is what the hold of that sum in a sandbox is worth. -/
noncomputable def Try.pinned : Pinned := { name := "ytmnfnpmeacfebaa", sum := "9ed37fdd5a9a933a7c1bde77bcf4317b8e876d432fd766ef6fb010b073a76fcb", checked := Try.checked }
namespace Rows
def none {H : Type} : Left H := { results := [], args := [] }

/-- 'laws.FnExactClauseOk': WHATEVER THE INPUT: true; the input reads as it did. -/
def fnExactClauseOkSpec : ChangeSpec := { name := "fnExactClauseOk", fn := fun _ => fun
  | [d1, d2] => { results := [.lit (.bool true)], args := [d1, d2] }
  | _ => none }
def fnExactClauseOkRow : OpenClaim := { program := "ytmnfnpmeacfebaa", sum := "9ed37fdd5a9a933a7c1bde77bcf4317b8e876d432fd766ef6fb010b073a76fcb", func := "loop.example/compurgator/laws.FnExactClauseOk", spec := "fnExactClauseOk", apart := false }
def FnExactClauseOkSaid : Prop := fnExactClauseOkRow.holds Try.pinned (OpenSpec.ofChange fnExactClauseOkSpec)

/-- ITS FALSE NEIGHBOUR: 'it returns false'. Refute it at one input. -/
def fnExactClauseOkWrong : ChangeSpec := { name := "fnExactClauseOk", fn := fun _ => fun
  | [d1, d2] => { results := [.lit (.bool false)], args := [d1, d2] }
  | _ => none }
def FnExactClauseOkWrongFalsely : Prop := fnExactClauseOkRow.holds Try.pinned (OpenSpec.ofChange fnExactClauseOkWrong)

/-- 'laws.FnExactClauseOf': WHATEVER THE INPUT: true; the input reads as it did. -/
def fnExactClauseOfSpec : ChangeSpec := { name := "fnExactClauseOf", fn := fun _ => fun
  | [d] => { results := [.lit (.bool true)], args := [d] }
  | _ => none }
def fnExactClauseOfRow : OpenClaim := { program := "ytmnfnpmeacfebaa", sum := "9ed37fdd5a9a933a7c1bde77bcf4317b8e876d432fd766ef6fb010b073a76fcb", func := "loop.example/compurgator/laws.FnExactClauseOf", spec := "fnExactClauseOf", apart := false }
def FnExactClauseOfSaid : Prop := fnExactClauseOfRow.holds Try.pinned (OpenSpec.ofChange fnExactClauseOfSpec)

/-- ITS FALSE NEIGHBOUR: 'it returns false'. Refute it at one input. -/
def fnExactClauseOfWrong : ChangeSpec := { name := "fnExactClauseOf", fn := fun _ => fun
  | [d] => { results := [.lit (.bool false)], args := [d] }
  | _ => none }
def FnExactClauseOfWrongFalsely : Prop := fnExactClauseOfRow.holds Try.pinned (OpenSpec.ofChange fnExactClauseOfWrong)

/-- 'laws.FnExactClauseIs': WHATEVER THE INPUT: true; the input reads as it did. -/
def fnExactClauseIsSpec : ChangeSpec := { name := "fnExactClauseIs", fn := fun _ => fun
  | [d1, d2] => { results := [.lit (.bool true)], args := [d1, d2] }
  | _ => none }
def fnExactClauseIsRow : OpenClaim := { program := "ytmnfnpmeacfebaa", sum := "9ed37fdd5a9a933a7c1bde77bcf4317b8e876d432fd766ef6fb010b073a76fcb", func := "loop.example/compurgator/laws.FnExactClauseIs", spec := "fnExactClauseIs", unfollowed := true, recurses := true, apart := false }
def FnExactClauseIsSaid : Prop := fnExactClauseIsRow.holds Try.pinned (OpenSpec.ofChange fnExactClauseIsSpec)

/-- ITS FALSE NEIGHBOUR: 'it returns false'. Refute it at one input. -/
def fnExactClauseIsWrong : ChangeSpec := { name := "fnExactClauseIs", fn := fun _ => fun
  | [d1, d2] => { results := [.lit (.bool false)], args := [d1, d2] }
  | _ => none }
def FnExactClauseIsWrongFalsely : Prop := fnExactClauseIsRow.holds Try.pinned (OpenSpec.ofChange fnExactClauseIsWrong)

/-- 'laws.FnExactCnfOk': WHATEVER THE INPUT: true; the input reads as it did. -/
def fnExactCnfOkSpec : ChangeSpec := { name := "fnExactCnfOk", fn := fun _ => fun
  | [d] => { results := [.lit (.bool true)], args := [d] }
  | _ => none }
def fnExactCnfOkRow : OpenClaim := { program := "ytmnfnpmeacfebaa", sum := "9ed37fdd5a9a933a7c1bde77bcf4317b8e876d432fd766ef6fb010b073a76fcb", func := "loop.example/compurgator/laws.FnExactCnfOk", spec := "fnExactCnfOk", unfollowed := true, recurses := true, apart := false }
def FnExactCnfOkSaid : Prop := fnExactCnfOkRow.holds Try.pinned (OpenSpec.ofChange fnExactCnfOkSpec)

/-- ITS FALSE NEIGHBOUR: 'it returns false'. Refute it at one input. -/
def fnExactCnfOkWrong : ChangeSpec := { name := "fnExactCnfOk", fn := fun _ => fun
  | [d] => { results := [.lit (.bool false)], args := [d] }
  | _ => none }
def FnExactCnfOkWrongFalsely : Prop := fnExactCnfOkRow.holds Try.pinned (OpenSpec.ofChange fnExactCnfOkWrong)

/-- 'laws.FnExactCnfIs': WHATEVER THE INPUT: true; the input reads as it did. -/
def fnExactCnfIsSpec : ChangeSpec := { name := "fnExactCnfIs", fn := fun _ => fun
  | [d1, d2] => { results := [.lit (.bool true)], args := [d1, d2] }
  | _ => none }
def fnExactCnfIsRow : OpenClaim := { program := "ytmnfnpmeacfebaa", sum := "9ed37fdd5a9a933a7c1bde77bcf4317b8e876d432fd766ef6fb010b073a76fcb", func := "loop.example/compurgator/laws.FnExactCnfIs", spec := "fnExactCnfIs", unfollowed := true, recurses := true, apart := false }
def FnExactCnfIsSaid : Prop := fnExactCnfIsRow.holds Try.pinned (OpenSpec.ofChange fnExactCnfIsSpec)

/-- ITS FALSE NEIGHBOUR: 'it returns false'. Refute it at one input. -/
def fnExactCnfIsWrong : ChangeSpec := { name := "fnExactCnfIs", fn := fun _ => fun
  | [d1, d2] => { results := [.lit (.bool false)], args := [d1, d2] }
  | _ => none }
def FnExactCnfIsWrongFalsely : Prop := fnExactCnfIsRow.holds Try.pinned (OpenSpec.ofChange fnExactCnfIsWrong)

/-- 'laws.FnExactCnfSame': WHATEVER THE INPUT: true; the input reads as it did. -/
def fnExactCnfSameSpec : ChangeSpec := { name := "fnExactCnfSame", fn := fun _ => fun
  | [d1, d2] => { results := [.lit (.bool true)], args := [d1, d2] }
  | _ => none }
def fnExactCnfSameRow : OpenClaim := { program := "ytmnfnpmeacfebaa", sum := "9ed37fdd5a9a933a7c1bde77bcf4317b8e876d432fd766ef6fb010b073a76fcb", func := "loop.example/compurgator/laws.FnExactCnfSame", spec := "fnExactCnfSame", unfollowed := true, recurses := true, apart := false }
def FnExactCnfSameSaid : Prop := fnExactCnfSameRow.holds Try.pinned (OpenSpec.ofChange fnExactCnfSameSpec)

/-- ITS FALSE NEIGHBOUR: 'it returns false'. Refute it at one input. -/
def fnExactCnfSameWrong : ChangeSpec := { name := "fnExactCnfSame", fn := fun _ => fun
  | [d1, d2] => { results := [.lit (.bool false)], args := [d1, d2] }
  | _ => none }
def FnExactCnfSameWrongFalsely : Prop := fnExactCnfSameRow.holds Try.pinned (OpenSpec.ofChange fnExactCnfSameWrong)

/- THE SECOND FORM. 'bulk': how many values and letters a reading holds, each counted each time it is reached (what is shared counts as often as it is met; a slice's spare places count too). A statement '..UptoSaid' is the law's where the arguments, and the package variables that the reading takes, are together of bulk at most 1048576: NARROWER than '..Said'. Prove '..Said' where nothing that the law and all that it calls make is longer than what came in: it says more and counts as full. Else prove '..UptoSaid'. A law counts once. -/
mutual
def uptoBulk {H : Type} : DataW H → Nat
  | .lit (.string bytes) => bytes.length + 1
  | .lit _ => 1
  | .nil => 1
  | .ptr d => uptoBulk d + 1
  | .slice elems spare => uptoBulkAll elems + uptoBulkAll spare + 1
  | .agg parts => uptoBulkAll parts + 1
  | .iface _ d => uptoBulk d + 1
  | .map entries => uptoBulkEntries entries + 1
  | .held _ => 1
def uptoBulkAll {H : Type} : List (DataW H) → Nat
  | [] => 0
  | d :: r => uptoBulk d + uptoBulkAll r
def uptoBulkEntries {H : Type} : List (Lit × DataW H) → Nat
  | [] => 0
  | x :: r => uptoBulkEntry x + uptoBulkEntries r
def uptoBulkEntry {H : Type} : Lit × DataW H → Nat
  | (.string bytes, d) => bytes.length + uptoBulk d + 1
  | (_, d) => uptoBulk d + 1
 end
def uptoSmall : (H : Type) → List (DataW H) → Bool := fun _ ds => decide (uptoBulkAll ds ≤ 1048576)
def OpenSpec.upto (s : _root_.Go.ChangeSpec) : _root_.Go.OpenSpec := { _root_.Go.OpenSpec.ofChange s with cond := some uptoSmall }

/-- 'laws.FnExactClauseOk', WHERE WHAT IT READS IS OF BULK AT MOST 1048576: true; the input reads as it did. -/
def fnExactClauseOkUptoRow : OpenClaim := { program := "ytmnfnpmeacfebaa", sum := "9ed37fdd5a9a933a7c1bde77bcf4317b8e876d432fd766ef6fb010b073a76fcb", func := "loop.example/compurgator/laws.FnExactClauseOk", spec := "fnExactClauseOk", apart := false, narrowed := true }
def FnExactClauseOkUptoSaid : Prop := fnExactClauseOkUptoRow.holds Try.pinned (OpenSpec.upto fnExactClauseOkSpec)

/-- 'laws.FnExactClauseOf', WHERE WHAT IT READS IS OF BULK AT MOST 1048576: true; the input reads as it did. -/
def fnExactClauseOfUptoRow : OpenClaim := { program := "ytmnfnpmeacfebaa", sum := "9ed37fdd5a9a933a7c1bde77bcf4317b8e876d432fd766ef6fb010b073a76fcb", func := "loop.example/compurgator/laws.FnExactClauseOf", spec := "fnExactClauseOf", apart := false, narrowed := true }
def FnExactClauseOfUptoSaid : Prop := fnExactClauseOfUptoRow.holds Try.pinned (OpenSpec.upto fnExactClauseOfSpec)

/-- 'laws.FnExactClauseIs', WHERE WHAT IT READS IS OF BULK AT MOST 1048576: true; the input reads as it did. -/
def fnExactClauseIsUptoRow : OpenClaim := { program := "ytmnfnpmeacfebaa", sum := "9ed37fdd5a9a933a7c1bde77bcf4317b8e876d432fd766ef6fb010b073a76fcb", func := "loop.example/compurgator/laws.FnExactClauseIs", spec := "fnExactClauseIs", unfollowed := true, recurses := true, apart := false, narrowed := true }
def FnExactClauseIsUptoSaid : Prop := fnExactClauseIsUptoRow.holds Try.pinned (OpenSpec.upto fnExactClauseIsSpec)

/-- 'laws.FnExactCnfOk', WHERE WHAT IT READS IS OF BULK AT MOST 1048576: true; the input reads as it did. -/
def fnExactCnfOkUptoRow : OpenClaim := { program := "ytmnfnpmeacfebaa", sum := "9ed37fdd5a9a933a7c1bde77bcf4317b8e876d432fd766ef6fb010b073a76fcb", func := "loop.example/compurgator/laws.FnExactCnfOk", spec := "fnExactCnfOk", unfollowed := true, recurses := true, apart := false, narrowed := true }
def FnExactCnfOkUptoSaid : Prop := fnExactCnfOkUptoRow.holds Try.pinned (OpenSpec.upto fnExactCnfOkSpec)

/-- 'laws.FnExactCnfIs', WHERE WHAT IT READS IS OF BULK AT MOST 1048576: true; the input reads as it did. -/
def fnExactCnfIsUptoRow : OpenClaim := { program := "ytmnfnpmeacfebaa", sum := "9ed37fdd5a9a933a7c1bde77bcf4317b8e876d432fd766ef6fb010b073a76fcb", func := "loop.example/compurgator/laws.FnExactCnfIs", spec := "fnExactCnfIs", unfollowed := true, recurses := true, apart := false, narrowed := true }
def FnExactCnfIsUptoSaid : Prop := fnExactCnfIsUptoRow.holds Try.pinned (OpenSpec.upto fnExactCnfIsSpec)

/-- 'laws.FnExactCnfSame', WHERE WHAT IT READS IS OF BULK AT MOST 1048576: true; the input reads as it did. -/
def fnExactCnfSameUptoRow : OpenClaim := { program := "ytmnfnpmeacfebaa", sum := "9ed37fdd5a9a933a7c1bde77bcf4317b8e876d432fd766ef6fb010b073a76fcb", func := "loop.example/compurgator/laws.FnExactCnfSame", spec := "fnExactCnfSame", unfollowed := true, recurses := true, apart := false, narrowed := true }
def FnExactCnfSameUptoSaid : Prop := fnExactCnfSameUptoRow.holds Try.pinned (OpenSpec.upto fnExactCnfSameSpec)

end Rows
end Go.Proofs.Ytmnfnpmeacfebaa
