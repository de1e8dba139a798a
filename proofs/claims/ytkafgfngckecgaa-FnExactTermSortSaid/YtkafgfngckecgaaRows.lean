/-
  NARROWER THAN 'FOR EVERY INPUT', by the rows' own cells (each row's printed sentence says how): FnExactTermSort: loops · FnExactTermSame: loops · FnExactTermParts: loops.
  DERIVED. THE GIVEN ROWS OF THIS SEAT. 5 by the template 'for every input the law returns true; each argument reads behind the call as it read before'; 0 by the template 'total and deterministic' (their statements: YtkafgfngckecgaaTotals.lean).
  GIVEN WITH THE SEED: the statements are not yours to turn. If you find one false, say at which input.
  Laid BY PROGRAM, IN A SANDBOX (cutbox-rows.mjs): the forced cells as the released guide's own fill.sh prints them over the translation bea33570f7ff3bab… (all of the seat's roots in one cut). By AI agents, Wed Nov 11 2026. No macro, syntax, notation, axiom, sorry.
-/
import Derived.Test.YtkafgfngckecgaaChecked
import GoSem.Claim
import GoSem.ClaimJoined
import GoSem.ClaimMapViews
import Derived.JoinedTies
import Derived.KernelRfl
namespace Go.Proofs.Ytkafgfngckecgaa
/- THE CELL 'sum', in the pinned program and in every row, IS THE sha256 OF THE DUMP (.gsa) THAT YtkafgfngckecgaaProg.lean LOADS. Nothing in Lean hashes anything: it is a label: what it is worth is what the hold of that sum in a sandbox is worth. -/
noncomputable def Try.pinned : Pinned := { name := "ytkafgfngckecgaa", sum := "bea33570f7ff3bab92321a5c7c9baf2d65f16921039c47126ad3472bf5441a58", checked := Try.checked }
namespace Rows
def none {H : Type} : Left H := { results := [], args := [] }

/-- 'laws.FnSigLess': WHATEVER THE INPUT: true; the input reads as it did. -/
def fnSigLessSpec : ChangeSpec := { name := "fnSigLess", fn := fun _ => fun
  | [d] => { results := [.lit (.bool true)], args := [d] }
  | _ => none }
def fnSigLessRow : OpenClaim := { program := "ytkafgfngckecgaa", sum := "bea33570f7ff3bab92321a5c7c9baf2d65f16921039c47126ad3472bf5441a58", func := "loop.example/compurgator/laws.FnSigLess", spec := "fnSigLess", unfollowed := true, recurses := true, plainKeys := false, apart := false }
def FnSigLessSaid : Prop := fnSigLessRow.holds Try.pinned (OpenSpec.ofChange fnSigLessSpec)

/-- ITS FALSE NEIGHBOUR: 'it returns false'. Refute it at one input. -/
def fnSigLessWrong : ChangeSpec := { name := "fnSigLess", fn := fun _ => fun
  | [d] => { results := [.lit (.bool false)], args := [d] }
  | _ => none }
def FnSigLessWrongFalsely : Prop := fnSigLessRow.holds Try.pinned (OpenSpec.ofChange fnSigLessWrong)

/-- 'laws.FnSigSame': WHATEVER THE INPUT: true; the input reads as it did. -/
def fnSigSameSpec : ChangeSpec := { name := "fnSigSame", fn := fun _ => fun
  | [d] => { results := [.lit (.bool true)], args := [d] }
  | _ => none }
def fnSigSameRow : OpenClaim := { program := "ytkafgfngckecgaa", sum := "bea33570f7ff3bab92321a5c7c9baf2d65f16921039c47126ad3472bf5441a58", func := "loop.example/compurgator/laws.FnSigSame", spec := "fnSigSame", unfollowed := true, recurses := true, plainKeys := false, apart := false }
def FnSigSameSaid : Prop := fnSigSameRow.holds Try.pinned (OpenSpec.ofChange fnSigSameSpec)

/-- ITS FALSE NEIGHBOUR: 'it returns false'. Refute it at one input. -/
def fnSigSameWrong : ChangeSpec := { name := "fnSigSame", fn := fun _ => fun
  | [d] => { results := [.lit (.bool false)], args := [d] }
  | _ => none }
def FnSigSameWrongFalsely : Prop := fnSigSameRow.holds Try.pinned (OpenSpec.ofChange fnSigSameWrong)

/-- 'laws.FnExactTermSort': WHATEVER THE INPUT: true; the input reads as it did. -/
def fnExactTermSortSpec : ChangeSpec := { name := "fnExactTermSort", fn := fun _ => fun
  | [d1, d2] => { results := [.lit (.bool true)], args := [d1, d2] }
  | _ => none }
def fnExactTermSortRow : OpenClaim := { program := "ytkafgfngckecgaa", sum := "bea33570f7ff3bab92321a5c7c9baf2d65f16921039c47126ad3472bf5441a58", func := "loop.example/compurgator/laws.FnExactTermSort", spec := "fnExactTermSort", unfollowed := true, recurses := true, loops := true, plainKeys := false, apart := false }
def FnExactTermSortSaid : Prop := fnExactTermSortRow.holds Try.pinned (OpenSpec.ofChange fnExactTermSortSpec)

/-- ITS FALSE NEIGHBOUR: 'it returns false'. Refute it at one input. -/
def fnExactTermSortWrong : ChangeSpec := { name := "fnExactTermSort", fn := fun _ => fun
  | [d1, d2] => { results := [.lit (.bool false)], args := [d1, d2] }
  | _ => none }
def FnExactTermSortWrongFalsely : Prop := fnExactTermSortRow.holds Try.pinned (OpenSpec.ofChange fnExactTermSortWrong)

/-- 'laws.FnExactTermSame': WHATEVER THE INPUT: true; the input reads as it did. -/
def fnExactTermSameSpec : ChangeSpec := { name := "fnExactTermSame", fn := fun _ => fun
  | [d1, d2] => { results := [.lit (.bool true)], args := [d1, d2] }
  | _ => none }
def fnExactTermSameRow : OpenClaim := { program := "ytkafgfngckecgaa", sum := "bea33570f7ff3bab92321a5c7c9baf2d65f16921039c47126ad3472bf5441a58", func := "loop.example/compurgator/laws.FnExactTermSame", spec := "fnExactTermSame", recurses := true, loops := true, plainKeys := false, apart := false }
def FnExactTermSameSaid : Prop := fnExactTermSameRow.holds Try.pinned (OpenSpec.ofChange fnExactTermSameSpec)

/-- ITS FALSE NEIGHBOUR: 'it returns false'. Refute it at one input. -/
def fnExactTermSameWrong : ChangeSpec := { name := "fnExactTermSame", fn := fun _ => fun
  | [d1, d2] => { results := [.lit (.bool false)], args := [d1, d2] }
  | _ => none }
def FnExactTermSameWrongFalsely : Prop := fnExactTermSameRow.holds Try.pinned (OpenSpec.ofChange fnExactTermSameWrong)

/-- 'laws.FnExactTermParts': WHATEVER THE INPUT: true; the input reads as it did. -/
def fnExactTermPartsSpec : ChangeSpec := { name := "fnExactTermParts", fn := fun _ => fun
  | [d] => { results := [.lit (.bool true)], args := [d] }
  | _ => none }
def fnExactTermPartsRow : OpenClaim := { program := "ytkafgfngckecgaa", sum := "bea33570f7ff3bab92321a5c7c9baf2d65f16921039c47126ad3472bf5441a58", func := "loop.example/compurgator/laws.FnExactTermParts", spec := "fnExactTermParts", recurses := true, loops := true, plainKeys := false, apart := false }
def FnExactTermPartsSaid : Prop := fnExactTermPartsRow.holds Try.pinned (OpenSpec.ofChange fnExactTermPartsSpec)

/-- ITS FALSE NEIGHBOUR: 'it returns false'. Refute it at one input. -/
def fnExactTermPartsWrong : ChangeSpec := { name := "fnExactTermParts", fn := fun _ => fun
  | [d] => { results := [.lit (.bool false)], args := [d] }
  | _ => none }
def FnExactTermPartsWrongFalsely : Prop := fnExactTermPartsRow.holds Try.pinned (OpenSpec.ofChange fnExactTermPartsWrong)

/- THE SECOND FORM. 'bulk': how many values and letters a reading holds, each counted each time it is reached (what is shared counts as often as it is met; a slice's spare places count too). A statement '..UptoSaid' is the law's where the arguments, and the package variables that the reading takes, are together of bulk at most 1048576: NARROWER than '..Said'. Prove '..Said' where nothing that the law and all that it calls make is longer than what came in: it says more and counts as full. Else prove '..UptoSaid'. A law counts once. -/
mutual
def uptoBulk {H : Type} : DataW H → Nat
  | .lit (.string bytes) => bytes.length + 1
  | .lit _ => 1
  | .nil => 1
  | .ptr d => uptoBulk d + 1
  | .slice elems spare => uptoBulkAll elems + uptoBulkAll spare + 1
  | .agg parts => uptoBulkAll parts + 1
  | .iface _ d => uptoBulk d + 1
  | .map entries => uptoBulkEntries entries + 1
  | .held _ => 1
def uptoBulkAll {H : Type} : List (DataW H) → Nat
  | [] => 0
  | d :: r => uptoBulk d + uptoBulkAll r
def uptoBulkEntries {H : Type} : List (Lit × DataW H) → Nat
  | [] => 0
  | x :: r => uptoBulkEntry x + uptoBulkEntries r
def uptoBulkEntry {H : Type} : Lit × DataW H → Nat
  | (.string bytes, d) => bytes.length + uptoBulk d + 1
  | (_, d) => uptoBulk d + 1
 end
def uptoSmall : (H : Type) → List (DataW H) → Bool := fun _ ds => decide (uptoBulkAll ds ≤ 1048576)
def OpenSpec.upto (s : _root_.Go.ChangeSpec) : _root_.Go.OpenSpec := { _root_.Go.OpenSpec.ofChange s with cond := some uptoSmall }

/-- 'laws.FnSigLess', WHERE WHAT IT READS IS OF BULK AT MOST 1048576: true; the input reads as it did. -/
def fnSigLessUptoRow : OpenClaim := { program := "ytkafgfngckecgaa", sum := "bea33570f7ff3bab92321a5c7c9baf2d65f16921039c47126ad3472bf5441a58", func := "loop.example/compurgator/laws.FnSigLess", spec := "fnSigLess", unfollowed := true, recurses := true, plainKeys := false, apart := false, narrowed := true }
def FnSigLessUptoSaid : Prop := fnSigLessUptoRow.holds Try.pinned (OpenSpec.upto fnSigLessSpec)

/-- 'laws.FnSigSame', WHERE WHAT IT READS IS OF BULK AT MOST 1048576: true; the input reads as it did. -/
def fnSigSameUptoRow : OpenClaim := { program := "ytkafgfngckecgaa", sum := "bea33570f7ff3bab92321a5c7c9baf2d65f16921039c47126ad3472bf5441a58", func := "loop.example/compurgator/laws.FnSigSame", spec := "fnSigSame", unfollowed := true, recurses := true, plainKeys := false, apart := false, narrowed := true }
def FnSigSameUptoSaid : Prop := fnSigSameUptoRow.holds Try.pinned (OpenSpec.upto fnSigSameSpec)

/-- 'laws.FnExactTermSort', WHERE WHAT IT READS IS OF BULK AT MOST 1048576: true; the input reads as it did. -/
def fnExactTermSortUptoRow : OpenClaim := { program := "ytkafgfngckecgaa", sum := "bea33570f7ff3bab92321a5c7c9baf2d65f16921039c47126ad3472bf5441a58", func := "loop.example/compurgator/laws.FnExactTermSort", spec := "fnExactTermSort", unfollowed := true, recurses := true, loops := true, plainKeys := false, apart := false, narrowed := true }
def FnExactTermSortUptoSaid : Prop := fnExactTermSortUptoRow.holds Try.pinned (OpenSpec.upto fnExactTermSortSpec)

/-- 'laws.FnExactTermSame', WHERE WHAT IT READS IS OF BULK AT MOST 1048576: true; the input reads as it did. -/
def fnExactTermSameUptoRow : OpenClaim := { program := "ytkafgfngckecgaa", sum := "bea33570f7ff3bab92321a5c7c9baf2d65f16921039c47126ad3472bf5441a58", func := "loop.example/compurgator/laws.FnExactTermSame", spec := "fnExactTermSame", recurses := true, loops := true, plainKeys := false, apart := false, narrowed := true }
def FnExactTermSameUptoSaid : Prop := fnExactTermSameUptoRow.holds Try.pinned (OpenSpec.upto fnExactTermSameSpec)

/-- 'laws.FnExactTermParts', WHERE WHAT IT READS IS OF BULK AT MOST 1048576: true; the input reads as it did. -/
def fnExactTermPartsUptoRow : OpenClaim := { program := "ytkafgfngckecgaa", sum := "bea33570f7ff3bab92321a5c7c9baf2d65f16921039c47126ad3472bf5441a58", func := "loop.example/compurgator/laws.FnExactTermParts", spec := "fnExactTermParts", recurses := true, loops := true, plainKeys := false, apart := false, narrowed := true }
def FnExactTermPartsUptoSaid : Prop := fnExactTermPartsUptoRow.holds Try.pinned (OpenSpec.upto fnExactTermPartsSpec)

end Rows
end Go.Proofs.Ytkafgfngckecgaa
