/-
  No cell of these rows narrows 'for every input' (looked for: loops, veiled, ifaces, maps, wideKeys, modest, calm, conditions, laid).
  DERIVED. THE GIVEN ROWS OF THIS SEAT. 4 by the template 'for every input the law returns true; each argument reads behind the call as it read before'; 0 by the template 'total and deterministic' (their statements: YtpnnpdofgcfmgaaTotals.lean).
  GIVEN WITH THE SEED: the statements are not yours to turn. If you find one false, say at which input.
  Laid BY PROGRAM, IN A SANDBOX (cutbox-rows.mjs): the forced cells as the released guide's own fill.sh prints them over the translation eba1e24f8baf8dd0… (all of the seat's roots in one cut). By AI agents, Wed Nov 11 2026. No macro, syntax, notation, axiom, sorry.
-/
import Derived.Test.YtpnnpdofgcfmgaaChecked
import GoSem.Claim
import GoSem.ClaimJoined
import GoSem.ClaimMapViews
import Derived.JoinedTies
import Derived.KernelRfl
namespace Go.Proofs.Ytpnnpdofgcfmgaa
/- THE CELL 'sum', in the pinned program and in every row, IS THE sha256 OF THE DUMP (.gsa) THAT YtpnnpdofgcfmgaaProg.lean LOADS. Nothing in Lean hashes anything: it is a label: what it is worth is what the hold of that sum in a sandbox is worth. -/
noncomputable def Try.pinned : Pinned := { name := "ytpnnpdofgcfmgaa", sum := "eba1e24f8baf8dd04edfa1abd55d741a9b0f6f08e47f35796fc3610f8c763040", checked := Try.checked }
namespace Rows
def none {H : Type} : Left H := { results := [], args := [] }

/-- 'laws.FnClauseOf': WHATEVER THE INPUT: true; the input reads as it did. -/
def fnClauseOfSpec : ChangeSpec := { name := "fnClauseOf", fn := fun _ => fun
  | [d] => { results := [.lit (.bool true)], args := [d] }
  | _ => none }
def fnClauseOfRow : OpenClaim := { program := "ytpnnpdofgcfmgaa", sum := "eba1e24f8baf8dd04edfa1abd55d741a9b0f6f08e47f35796fc3610f8c763040", func := "loop.example/compurgator/laws.FnClauseOf", spec := "fnClauseOf", unfollowed := true, recurses := true, apart := false }
def FnClauseOfSaid : Prop := fnClauseOfRow.holds Try.pinned (OpenSpec.ofChange fnClauseOfSpec)

/-- ITS FALSE NEIGHBOUR: 'it returns false'. Refute it at one input. -/
def fnClauseOfWrong : ChangeSpec := { name := "fnClauseOf", fn := fun _ => fun
  | [d] => { results := [.lit (.bool false)], args := [d] }
  | _ => none }
def FnClauseOfWrongFalsely : Prop := fnClauseOfRow.holds Try.pinned (OpenSpec.ofChange fnClauseOfWrong)

/-- 'laws.FnClauseAlways': WHATEVER THE INPUT: true; the input reads as it did. -/
def fnClauseAlwaysSpec : ChangeSpec := { name := "fnClauseAlways", fn := fun _ => fun
  | [d] => { results := [.lit (.bool true)], args := [d] }
  | _ => none }
def fnClauseAlwaysRow : OpenClaim := { program := "ytpnnpdofgcfmgaa", sum := "eba1e24f8baf8dd04edfa1abd55d741a9b0f6f08e47f35796fc3610f8c763040", func := "loop.example/compurgator/laws.FnClauseAlways", spec := "fnClauseAlways", unfollowed := true, recurses := true, apart := false }
def FnClauseAlwaysSaid : Prop := fnClauseAlwaysRow.holds Try.pinned (OpenSpec.ofChange fnClauseAlwaysSpec)

/-- ITS FALSE NEIGHBOUR: 'it returns false'. Refute it at one input. -/
def fnClauseAlwaysWrong : ChangeSpec := { name := "fnClauseAlways", fn := fun _ => fun
  | [d] => { results := [.lit (.bool false)], args := [d] }
  | _ => none }
def FnClauseAlwaysWrongFalsely : Prop := fnClauseAlwaysRow.holds Try.pinned (OpenSpec.ofChange fnClauseAlwaysWrong)

/-- 'laws.FnCnfSame': WHATEVER THE INPUT: true; the input reads as it did. -/
def fnCnfSameSpec : ChangeSpec := { name := "fnCnfSame", fn := fun _ => fun
  | [d] => { results := [.lit (.bool true)], args := [d] }
  | _ => none }
def fnCnfSameRow : OpenClaim := { program := "ytpnnpdofgcfmgaa", sum := "eba1e24f8baf8dd04edfa1abd55d741a9b0f6f08e47f35796fc3610f8c763040", func := "loop.example/compurgator/laws.FnCnfSame", spec := "fnCnfSame", unfollowed := true, recurses := true, apart := false }
def FnCnfSameSaid : Prop := fnCnfSameRow.holds Try.pinned (OpenSpec.ofChange fnCnfSameSpec)

/-- ITS FALSE NEIGHBOUR: 'it returns false'. Refute it at one input. -/
def fnCnfSameWrong : ChangeSpec := { name := "fnCnfSame", fn := fun _ => fun
  | [d] => { results := [.lit (.bool false)], args := [d] }
  | _ => none }
def FnCnfSameWrongFalsely : Prop := fnCnfSameRow.holds Try.pinned (OpenSpec.ofChange fnCnfSameWrong)

/-- 'laws.FnCnfIs': WHATEVER THE INPUT: true; the input reads as it did. -/
def fnCnfIsSpec : ChangeSpec := { name := "fnCnfIs", fn := fun _ => fun
  | [d1, d2] => { results := [.lit (.bool true)], args := [d1, d2] }
  | _ => none }
def fnCnfIsRow : OpenClaim := { program := "ytpnnpdofgcfmgaa", sum := "eba1e24f8baf8dd04edfa1abd55d741a9b0f6f08e47f35796fc3610f8c763040", func := "loop.example/compurgator/laws.FnCnfIs", spec := "fnCnfIs", unfollowed := true, recurses := true, apart := false }
def FnCnfIsSaid : Prop := fnCnfIsRow.holds Try.pinned (OpenSpec.ofChange fnCnfIsSpec)

/-- ITS FALSE NEIGHBOUR: 'it returns false'. Refute it at one input. -/
def fnCnfIsWrong : ChangeSpec := { name := "fnCnfIs", fn := fun _ => fun
  | [d1, d2] => { results := [.lit (.bool false)], args := [d1, d2] }
  | _ => none }
def FnCnfIsWrongFalsely : Prop := fnCnfIsRow.holds Try.pinned (OpenSpec.ofChange fnCnfIsWrong)

/- THE SECOND FORM. 'bulk': how many values and letters a reading holds, each counted each time it is reached (what is shared counts as often as it is met; a slice's spare places count too). A statement '..UptoSaid' is the law's where the arguments, and the package variables that the reading takes, are together of bulk at most 1048576: NARROWER than '..Said'. Prove '..Said' where nothing that the law and all that it calls make is longer than what came in: it says more and counts as full. Else prove '..UptoSaid'. A law counts once. -/
mutual
def uptoBulk {H : Type} : DataW H → Nat
  | .lit (.string bytes) => bytes.length + 1
  | .lit _ => 1
  | .nil => 1
  | .ptr d => uptoBulk d + 1
  | .slice elems spare => uptoBulkAll elems + uptoBulkAll spare + 1
  | .agg parts => uptoBulkAll parts + 1
  | .iface _ d => uptoBulk d + 1
  | .map entries => uptoBulkEntries entries + 1
  | .held _ => 1
def uptoBulkAll {H : Type} : List (DataW H) → Nat
  | [] => 0
  | d :: r => uptoBulk d + uptoBulkAll r
def uptoBulkEntries {H : Type} : List (Lit × DataW H) → Nat
  | [] => 0
  | x :: r => uptoBulkEntry x + uptoBulkEntries r
def uptoBulkEntry {H : Type} : Lit × DataW H → Nat
  | (.string bytes, d) => bytes.length + uptoBulk d + 1
  | (_, d) => uptoBulk d + 1
 end
def uptoSmall : (H : Type) → List (DataW H) → Bool := fun _ ds => decide (uptoBulkAll ds ≤ 1048576)
def OpenSpec.upto (s : _root_.Go.ChangeSpec) : _root_.Go.OpenSpec := { _root_.Go.OpenSpec.ofChange s with cond := some uptoSmall }

/-- 'laws.FnClauseOf', WHERE WHAT IT READS IS OF BULK AT MOST 1048576: true; the input reads as it did. -/
def fnClauseOfUptoRow : OpenClaim := { program := "ytpnnpdofgcfmgaa", sum := "eba1e24f8baf8dd04edfa1abd55d741a9b0f6f08e47f35796fc3610f8c763040", func := "loop.example/compurgator/laws.FnClauseOf", spec := "fnClauseOf", unfollowed := true, recurses := true, apart := false, narrowed := true }
def FnClauseOfUptoSaid : Prop := fnClauseOfUptoRow.holds Try.pinned (OpenSpec.upto fnClauseOfSpec)

/-- 'laws.FnClauseAlways', WHERE WHAT IT READS IS OF BULK AT MOST 1048576: true; the input reads as it did. -/
def fnClauseAlwaysUptoRow : OpenClaim := { program := "ytpnnpdofgcfmgaa", sum := "eba1e24f8baf8dd04edfa1abd55d741a9b0f6f08e47f35796fc3610f8c763040", func := "loop.example/compurgator/laws.FnClauseAlways", spec := "fnClauseAlways", unfollowed := true, recurses := true, apart := false, narrowed := true }
def FnClauseAlwaysUptoSaid : Prop := fnClauseAlwaysUptoRow.holds Try.pinned (OpenSpec.upto fnClauseAlwaysSpec)

/-- 'laws.FnCnfSame', WHERE WHAT IT READS IS OF BULK AT MOST 1048576: true; the input reads as it did. -/
def fnCnfSameUptoRow : OpenClaim := { program := "ytpnnpdofgcfmgaa", sum := "eba1e24f8baf8dd04edfa1abd55d741a9b0f6f08e47f35796fc3610f8c763040", func := "loop.example/compurgator/laws.FnCnfSame", spec := "fnCnfSame", unfollowed := true, recurses := true, apart := false, narrowed := true }
def FnCnfSameUptoSaid : Prop := fnCnfSameUptoRow.holds Try.pinned (OpenSpec.upto fnCnfSameSpec)

/-- 'laws.FnCnfIs', WHERE WHAT IT READS IS OF BULK AT MOST 1048576: true; the input reads as it did. -/
def fnCnfIsUptoRow : OpenClaim := { program := "ytpnnpdofgcfmgaa", sum := "eba1e24f8baf8dd04edfa1abd55d741a9b0f6f08e47f35796fc3610f8c763040", func := "loop.example/compurgator/laws.FnCnfIs", spec := "fnCnfIs", unfollowed := true, recurses := true, apart := false, narrowed := true }
def FnCnfIsUptoSaid : Prop := fnCnfIsUptoRow.holds Try.pinned (OpenSpec.upto fnCnfIsSpec)

end Rows
end Go.Proofs.Ytpnnpdofgcfmgaa
