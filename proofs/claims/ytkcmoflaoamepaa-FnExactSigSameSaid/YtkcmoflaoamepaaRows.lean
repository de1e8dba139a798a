/-
  No cell of these rows narrows 'for every input' (looked for: loops, veiled, ifaces, maps, wideKeys, modest, calm, conditions, laid).
  DERIVED. THE GIVEN ROWS OF THIS SEAT. 7 by the template 'for every input the law returns true; each argument reads behind the call as it read before'; 0 by the template 'total and deterministic' (their statements: YtkcmoflaoamepaaTotals.lean).
  GIVEN WITH THE SEED: the statements are not yours to turn. If you find one false, say at which input.
  Laid BY PROGRAM, IN A SANDBOX (cutbox-rows.mjs): the forced cells as the released guide's own fill.sh prints them over the translation 885fad976275609f… (all of the seat's roots in one cut). By AI agents, Wed Nov 11 2026. No macro, syntax, notation, axiom, sorry.
-/
import Derived.Test.YtkcmoflaoamepaaChecked
import GoSem.Claim
import GoSem.ClaimJoined
import GoSem.ClaimMapViews
import Derived.JoinedTies
import Derived.KernelRfl
namespace Go.Proofs.Ytkcmoflaoamepaa
/- THE CELL 'sum', in the pinned program and in every row, IS THE sha256 OF THE DUMP (.gsa) THAT YtkcmoflaoamepaaProg.lean LOADS. Nothing in Lean hashes anything: it is a label: what it is worth is what the hold of that sum in a sandbox is worth. -/
noncomputable def Try.pinned : Pinned := { name := "ytkcmoflaoamepaa", sum := "885fad976275609f8881027a207868af4eeab56477529a243b9d73e0aa2dca8d", checked := Try.checked }
namespace Rows
def none {H : Type} : Left H := { results := [], args := [] }

/-- 'laws.FnExactFarSum': WHATEVER THE INPUT: true; the input reads as it did. -/
def fnExactFarSumSpec : ChangeSpec := { name := "fnExactFarSum", fn := fun _ => fun
  | [d1, d2] => { results := [.lit (.bool true)], args := [d1, d2] }
  | _ => none }
def fnExactFarSumRow : OpenClaim := { program := "ytkcmoflaoamepaa", sum := "885fad976275609f8881027a207868af4eeab56477529a243b9d73e0aa2dca8d", func := "loop.example/compurgator/laws.FnExactFarSum", spec := "fnExactFarSum", unfollowed := true, recurses := true, apart := false }
def FnExactFarSumSaid : Prop := fnExactFarSumRow.holds Try.pinned (OpenSpec.ofChange fnExactFarSumSpec)

/-- ITS FALSE NEIGHBOUR: 'it returns false'. Refute it at one input. -/
def fnExactFarSumWrong : ChangeSpec := { name := "fnExactFarSum", fn := fun _ => fun
  | [d1, d2] => { results := [.lit (.bool false)], args := [d1, d2] }
  | _ => none }
def FnExactFarSumWrongFalsely : Prop := fnExactFarSumRow.holds Try.pinned (OpenSpec.ofChange fnExactFarSumWrong)

/-- 'laws.FnExactFarOk': WHATEVER THE INPUT: true; the input reads as it did. -/
def fnExactFarOkSpec : ChangeSpec := { name := "fnExactFarOk", fn := fun _ => fun
  | [d1, d2] => { results := [.lit (.bool true)], args := [d1, d2] }
  | _ => none }
def fnExactFarOkRow : OpenClaim := { program := "ytkcmoflaoamepaa", sum := "885fad976275609f8881027a207868af4eeab56477529a243b9d73e0aa2dca8d", func := "loop.example/compurgator/laws.FnExactFarOk", spec := "fnExactFarOk", unfollowed := true, recurses := true, apart := false }
def FnExactFarOkSaid : Prop := fnExactFarOkRow.holds Try.pinned (OpenSpec.ofChange fnExactFarOkSpec)

/-- ITS FALSE NEIGHBOUR: 'it returns false'. Refute it at one input. -/
def fnExactFarOkWrong : ChangeSpec := { name := "fnExactFarOk", fn := fun _ => fun
  | [d1, d2] => { results := [.lit (.bool false)], args := [d1, d2] }
  | _ => none }
def FnExactFarOkWrongFalsely : Prop := fnExactFarOkRow.holds Try.pinned (OpenSpec.ofChange fnExactFarOkWrong)

/-- 'laws.FnExactFarAll': WHATEVER THE INPUT: true; the input reads as it did. -/
def fnExactFarAllSpec : ChangeSpec := { name := "fnExactFarAll", fn := fun _ => fun
  | [d1, d2] => { results := [.lit (.bool true)], args := [d1, d2] }
  | _ => none }
def fnExactFarAllRow : OpenClaim := { program := "ytkcmoflaoamepaa", sum := "885fad976275609f8881027a207868af4eeab56477529a243b9d73e0aa2dca8d", func := "loop.example/compurgator/laws.FnExactFarAll", spec := "fnExactFarAll", apart := false }
def FnExactFarAllSaid : Prop := fnExactFarAllRow.holds Try.pinned (OpenSpec.ofChange fnExactFarAllSpec)

/-- ITS FALSE NEIGHBOUR: 'it returns false'. Refute it at one input. -/
def fnExactFarAllWrong : ChangeSpec := { name := "fnExactFarAll", fn := fun _ => fun
  | [d1, d2] => { results := [.lit (.bool false)], args := [d1, d2] }
  | _ => none }
def FnExactFarAllWrongFalsely : Prop := fnExactFarAllRow.holds Try.pinned (OpenSpec.ofChange fnExactFarAllWrong)

/-- 'laws.FnExactFarLess': WHATEVER THE INPUT: true; the input reads as it did. -/
def fnExactFarLessSpec : ChangeSpec := { name := "fnExactFarLess", fn := fun _ => fun
  | [d1, d2] => { results := [.lit (.bool true)], args := [d1, d2] }
  | _ => none }
def fnExactFarLessRow : OpenClaim := { program := "ytkcmoflaoamepaa", sum := "885fad976275609f8881027a207868af4eeab56477529a243b9d73e0aa2dca8d", func := "loop.example/compurgator/laws.FnExactFarLess", spec := "fnExactFarLess", apart := false }
def FnExactFarLessSaid : Prop := fnExactFarLessRow.holds Try.pinned (OpenSpec.ofChange fnExactFarLessSpec)

/-- ITS FALSE NEIGHBOUR: 'it returns false'. Refute it at one input. -/
def fnExactFarLessWrong : ChangeSpec := { name := "fnExactFarLess", fn := fun _ => fun
  | [d1, d2] => { results := [.lit (.bool false)], args := [d1, d2] }
  | _ => none }
def FnExactFarLessWrongFalsely : Prop := fnExactFarLessRow.holds Try.pinned (OpenSpec.ofChange fnExactFarLessWrong)

/-- 'laws.FnExactNameOk': WHATEVER THE INPUT: true; the input reads as it did. -/
def fnExactNameOkSpec : ChangeSpec := { name := "fnExactNameOk", fn := fun _ => fun
  | [d] => { results := [.lit (.bool true)], args := [d] }
  | _ => none }
def fnExactNameOkRow : OpenClaim := { program := "ytkcmoflaoamepaa", sum := "885fad976275609f8881027a207868af4eeab56477529a243b9d73e0aa2dca8d", func := "loop.example/compurgator/laws.FnExactNameOk", spec := "fnExactNameOk", apart := false }
def FnExactNameOkSaid : Prop := fnExactNameOkRow.holds Try.pinned (OpenSpec.ofChange fnExactNameOkSpec)

/-- ITS FALSE NEIGHBOUR: 'it returns false'. Refute it at one input. -/
def fnExactNameOkWrong : ChangeSpec := { name := "fnExactNameOk", fn := fun _ => fun
  | [d] => { results := [.lit (.bool false)], args := [d] }
  | _ => none }
def FnExactNameOkWrongFalsely : Prop := fnExactNameOkRow.holds Try.pinned (OpenSpec.ofChange fnExactNameOkWrong)

/-- 'laws.FnExactSigOk': WHATEVER THE INPUT: true; the input reads as it did. -/
def fnExactSigOkSpec : ChangeSpec := { name := "fnExactSigOk", fn := fun _ => fun
  | [d] => { results := [.lit (.bool true)], args := [d] }
  | _ => none }
def fnExactSigOkRow : OpenClaim := { program := "ytkcmoflaoamepaa", sum := "885fad976275609f8881027a207868af4eeab56477529a243b9d73e0aa2dca8d", func := "loop.example/compurgator/laws.FnExactSigOk", spec := "fnExactSigOk", unfollowed := true, recurses := true, apart := false }
def FnExactSigOkSaid : Prop := fnExactSigOkRow.holds Try.pinned (OpenSpec.ofChange fnExactSigOkSpec)

/-- ITS FALSE NEIGHBOUR: 'it returns false'. Refute it at one input. -/
def fnExactSigOkWrong : ChangeSpec := { name := "fnExactSigOk", fn := fun _ => fun
  | [d] => { results := [.lit (.bool false)], args := [d] }
  | _ => none }
def FnExactSigOkWrongFalsely : Prop := fnExactSigOkRow.holds Try.pinned (OpenSpec.ofChange fnExactSigOkWrong)

/-- 'laws.FnExactSigSame': WHATEVER THE INPUT: true; the input reads as it did. -/
def fnExactSigSameSpec : ChangeSpec := { name := "fnExactSigSame", fn := fun _ => fun
  | [d1, d2] => { results := [.lit (.bool true)], args := [d1, d2] }
  | _ => none }
def fnExactSigSameRow : OpenClaim := { program := "ytkcmoflaoamepaa", sum := "885fad976275609f8881027a207868af4eeab56477529a243b9d73e0aa2dca8d", func := "loop.example/compurgator/laws.FnExactSigSame", spec := "fnExactSigSame", unfollowed := true, recurses := true, apart := false }
def FnExactSigSameSaid : Prop := fnExactSigSameRow.holds Try.pinned (OpenSpec.ofChange fnExactSigSameSpec)

/-- ITS FALSE NEIGHBOUR: 'it returns false'. Refute it at one input. -/
def fnExactSigSameWrong : ChangeSpec := { name := "fnExactSigSame", fn := fun _ => fun
  | [d1, d2] => { results := [.lit (.bool false)], args := [d1, d2] }
  | _ => none }
def FnExactSigSameWrongFalsely : Prop := fnExactSigSameRow.holds Try.pinned (OpenSpec.ofChange fnExactSigSameWrong)

/- THE SECOND FORM. 'bulk': how many values and letters a reading holds, each counted each time it is reached (what is shared counts as often as it is met; a slice's spare places count too). A statement '..UptoSaid' is the law's where the arguments, and the package variables that the reading takes, are together of bulk at most 1048576: NARROWER than '..Said'. Prove '..Said' where nothing that the law and all that it calls make is longer than what came in: it says more and counts as full. Else prove '..UptoSaid'. A law counts once. -/
mutual
def uptoBulk {H : Type} : DataW H → Nat
  | .lit (.string bytes) => bytes.length + 1
  | .lit _ => 1
  | .nil => 1
  | .ptr d => uptoBulk d + 1
  | .slice elems spare => uptoBulkAll elems + uptoBulkAll spare + 1
  | .agg parts => uptoBulkAll parts + 1
  | .iface _ d => uptoBulk d + 1
  | .map entries => uptoBulkEntries entries + 1
  | .held _ => 1
def uptoBulkAll {H : Type} : List (DataW H) → Nat
  | [] => 0
  | d :: r => uptoBulk d + uptoBulkAll r
def uptoBulkEntries {H : Type} : List (Lit × DataW H) → Nat
  | [] => 0
  | x :: r => uptoBulkEntry x + uptoBulkEntries r
def uptoBulkEntry {H : Type} : Lit × DataW H → Nat
  | (.string bytes, d) => bytes.length + uptoBulk d + 1
  | (_, d) => uptoBulk d + 1
 end
def uptoSmall : (H : Type) → List (DataW H) → Bool := fun _ ds => decide (uptoBulkAll ds ≤ 1048576)
def OpenSpec.upto (s : _root_.Go.ChangeSpec) : _root_.Go.OpenSpec := { _root_.Go.OpenSpec.ofChange s with cond := some uptoSmall }

/-- 'laws.FnExactFarSum', WHERE WHAT IT READS IS OF BULK AT MOST 1048576: true; the input reads as it did. -/
def fnExactFarSumUptoRow : OpenClaim := { program := "ytkcmoflaoamepaa", sum := "885fad976275609f8881027a207868af4eeab56477529a243b9d73e0aa2dca8d", func := "loop.example/compurgator/laws.FnExactFarSum", spec := "fnExactFarSum", unfollowed := true, recurses := true, apart := false, narrowed := true }
def FnExactFarSumUptoSaid : Prop := fnExactFarSumUptoRow.holds Try.pinned (OpenSpec.upto fnExactFarSumSpec)

/-- 'laws.FnExactFarOk', WHERE WHAT IT READS IS OF BULK AT MOST 1048576: true; the input reads as it did. -/
def fnExactFarOkUptoRow : OpenClaim := { program := "ytkcmoflaoamepaa", sum := "885fad976275609f8881027a207868af4eeab56477529a243b9d73e0aa2dca8d", func := "loop.example/compurgator/laws.FnExactFarOk", spec := "fnExactFarOk", unfollowed := true, recurses := true, apart := false, narrowed := true }
def FnExactFarOkUptoSaid : Prop := fnExactFarOkUptoRow.holds Try.pinned (OpenSpec.upto fnExactFarOkSpec)

/-- 'laws.FnExactFarAll', WHERE WHAT IT READS IS OF BULK AT MOST 1048576: true; the input reads as it did. -/
def fnExactFarAllUptoRow : OpenClaim := { program := "ytkcmoflaoamepaa", sum := "885fad976275609f8881027a207868af4eeab56477529a243b9d73e0aa2dca8d", func := "loop.example/compurgator/laws.FnExactFarAll", spec := "fnExactFarAll", apart := false, narrowed := true }
def FnExactFarAllUptoSaid : Prop := fnExactFarAllUptoRow.holds Try.pinned (OpenSpec.upto fnExactFarAllSpec)

/-- 'laws.FnExactFarLess', WHERE WHAT IT READS IS OF BULK AT MOST 1048576: true; the input reads as it did. -/
def fnExactFarLessUptoRow : OpenClaim := { program := "ytkcmoflaoamepaa", sum := "885fad976275609f8881027a207868af4eeab56477529a243b9d73e0aa2dca8d", func := "loop.example/compurgator/laws.FnExactFarLess", spec := "fnExactFarLess", apart := false, narrowed := true }
def FnExactFarLessUptoSaid : Prop := fnExactFarLessUptoRow.holds Try.pinned (OpenSpec.upto fnExactFarLessSpec)

/-- 'laws.FnExactNameOk', WHERE WHAT IT READS IS OF BULK AT MOST 1048576: true; the input reads as it did. -/
def fnExactNameOkUptoRow : OpenClaim := { program := "ytkcmoflaoamepaa", sum := "885fad976275609f8881027a207868af4eeab56477529a243b9d73e0aa2dca8d", func := "loop.example/compurgator/laws.FnExactNameOk", spec := "fnExactNameOk", apart := false, narrowed := true }
def FnExactNameOkUptoSaid : Prop := fnExactNameOkUptoRow.holds Try.pinned (OpenSpec.upto fnExactNameOkSpec)

/-- 'laws.FnExactSigOk', WHERE WHAT IT READS IS OF BULK AT MOST 1048576: true; the input reads as it did. -/
def fnExactSigOkUptoRow : OpenClaim := { program := "ytkcmoflaoamepaa", sum := "885fad976275609f8881027a207868af4eeab56477529a243b9d73e0aa2dca8d", func := "loop.example/compurgator/laws.FnExactSigOk", spec := "fnExactSigOk", unfollowed := true, recurses := true, apart := false, narrowed := true }
def FnExactSigOkUptoSaid : Prop := fnExactSigOkUptoRow.holds Try.pinned (OpenSpec.upto fnExactSigOkSpec)

/-- 'laws.FnExactSigSame', WHERE WHAT IT READS IS OF BULK AT MOST 1048576: true; the input reads as it did. -/
def fnExactSigSameUptoRow : OpenClaim := { program := "ytkcmoflaoamepaa", sum := "885fad976275609f8881027a207868af4eeab56477529a243b9d73e0aa2dca8d", func := "loop.example/compurgator/laws.FnExactSigSame", spec := "fnExactSigSame", unfollowed := true, recurses := true, apart := false, narrowed := true }
def FnExactSigSameUptoSaid : Prop := fnExactSigSameUptoRow.holds Try.pinned (OpenSpec.upto fnExactSigSameSpec)

end Rows
end Go.Proofs.Ytkcmoflaoamepaa
