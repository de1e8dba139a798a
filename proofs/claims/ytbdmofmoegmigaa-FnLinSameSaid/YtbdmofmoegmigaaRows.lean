/-
  No cell of these rows narrows 'for every input' (looked for: loops, veiled, ifaces, maps, wideKeys, modest, calm, conditions, laid).
  DERIVED. THE GIVEN ROWS OF THIS SEAT. 22 by the template 'for every input the law returns true; each argument reads behind the call as it read before'; 0 by the template 'total and deterministic' (their statements: YtbdmofmoegmigaaTotals.lean).
  GIVEN WITH THE SEED: the statements are not yours to turn. If you find one false, say at which input.
  Laid BY PROGRAM, IN A SANDBOX (cutbox-rows.mjs): the forced cells as the released guide's own fill.sh prints them over the translation d5b2bafb3de5160b… (all of the seat's roots in one cut). By AI agents, Wed Nov 11 2026. No macro, syntax, notation, axiom, sorry.
-/
import Derived.Test.YtbdmofmoegmigaaChecked
import GoSem.Claim
import GoSem.ClaimJoined
import GoSem.ClaimMapViews
import Derived.JoinedTies
import Derived.KernelRfl
namespace Go.Proofs.Ytbdmofmoegmigaa
/- THE CELL 'sum', in the pinned program and in every row, IS THE sha256 OF THE DUMP (.gsa) THAT YtbdmofmoegmigaaProg.lean LOADS. Nothing in Lean hashes anything: it is a label: what it is worth is what the hold of that sum in a sandbox is worth. -/
noncomputable def Try.pinned : Pinned := { name := "ytbdmofmoegmigaa", sum := "d5b2bafb3de5160bec8eba595874ecce57b308a30fb09f4d624291b1a539d6af", checked := Try.checked }
namespace Rows
def none {H : Type} : Left H := { results := [], args := [] }

/-- 'laws.FnLinNot': WHATEVER THE INPUT: true; the input reads as it did. -/
def fnLinNotSpec : ChangeSpec := { name := "fnLinNot", fn := fun _ => fun
  | [d] => { results := [.lit (.bool true)], args := [d] }
  | _ => none }
def fnLinNotRow : OpenClaim := { program := "ytbdmofmoegmigaa", sum := "d5b2bafb3de5160bec8eba595874ecce57b308a30fb09f4d624291b1a539d6af", func := "loop.example/compurgator/laws.FnLinNot", spec := "fnLinNot", apart := false }
def FnLinNotSaid : Prop := fnLinNotRow.holds Try.pinned (OpenSpec.ofChange fnLinNotSpec)

/-- ITS FALSE NEIGHBOUR: 'it returns false'. Refute it at one input. -/
def fnLinNotWrong : ChangeSpec := { name := "fnLinNot", fn := fun _ => fun
  | [d] => { results := [.lit (.bool false)], args := [d] }
  | _ => none }
def FnLinNotWrongFalsely : Prop := fnLinNotRow.holds Try.pinned (OpenSpec.ofChange fnLinNotWrong)

/-- 'laws.FnLinSum': WHATEVER THE INPUT: true; the input reads as it did. -/
def fnLinSumSpec : ChangeSpec := { name := "fnLinSum", fn := fun _ => fun
  | [d] => { results := [.lit (.bool true)], args := [d] }
  | _ => none }
def fnLinSumRow : OpenClaim := { program := "ytbdmofmoegmigaa", sum := "d5b2bafb3de5160bec8eba595874ecce57b308a30fb09f4d624291b1a539d6af", func := "loop.example/compurgator/laws.FnLinSum", spec := "fnLinSum", unfollowed := true, recurses := true, apart := false }
def FnLinSumSaid : Prop := fnLinSumRow.holds Try.pinned (OpenSpec.ofChange fnLinSumSpec)

/-- ITS FALSE NEIGHBOUR: 'it returns false'. Refute it at one input. -/
def fnLinSumWrong : ChangeSpec := { name := "fnLinSum", fn := fun _ => fun
  | [d] => { results := [.lit (.bool false)], args := [d] }
  | _ => none }
def FnLinSumWrongFalsely : Prop := fnLinSumRow.holds Try.pinned (OpenSpec.ofChange fnLinSumWrong)

/-- 'laws.FnLinBad': WHATEVER THE INPUT: true; the input reads as it did. -/
def fnLinBadSpec : ChangeSpec := { name := "fnLinBad", fn := fun _ => fun
  | [d] => { results := [.lit (.bool true)], args := [d] }
  | _ => none }
def fnLinBadRow : OpenClaim := { program := "ytbdmofmoegmigaa", sum := "d5b2bafb3de5160bec8eba595874ecce57b308a30fb09f4d624291b1a539d6af", func := "loop.example/compurgator/laws.FnLinBad", spec := "fnLinBad", apart := false }
def FnLinBadSaid : Prop := fnLinBadRow.holds Try.pinned (OpenSpec.ofChange fnLinBadSpec)

/-- ITS FALSE NEIGHBOUR: 'it returns false'. Refute it at one input. -/
def fnLinBadWrong : ChangeSpec := { name := "fnLinBad", fn := fun _ => fun
  | [d] => { results := [.lit (.bool false)], args := [d] }
  | _ => none }
def FnLinBadWrongFalsely : Prop := fnLinBadRow.holds Try.pinned (OpenSpec.ofChange fnLinBadWrong)

/-- 'laws.FnLinAt': WHATEVER THE INPUT: true; the input reads as it did. -/
def fnLinAtSpec : ChangeSpec := { name := "fnLinAt", fn := fun _ => fun
  | [d] => { results := [.lit (.bool true)], args := [d] }
  | _ => none }
def fnLinAtRow : OpenClaim := { program := "ytbdmofmoegmigaa", sum := "d5b2bafb3de5160bec8eba595874ecce57b308a30fb09f4d624291b1a539d6af", func := "loop.example/compurgator/laws.FnLinAt", spec := "fnLinAt", unfollowed := true, recurses := true, apart := false }
def FnLinAtSaid : Prop := fnLinAtRow.holds Try.pinned (OpenSpec.ofChange fnLinAtSpec)

/-- ITS FALSE NEIGHBOUR: 'it returns false'. Refute it at one input. -/
def fnLinAtWrong : ChangeSpec := { name := "fnLinAt", fn := fun _ => fun
  | [d] => { results := [.lit (.bool false)], args := [d] }
  | _ => none }
def FnLinAtWrongFalsely : Prop := fnLinAtRow.holds Try.pinned (OpenSpec.ofChange fnLinAtWrong)

/-- 'laws.FnLinSame': WHATEVER THE INPUT: true; the input reads as it did. -/
def fnLinSameSpec : ChangeSpec := { name := "fnLinSame", fn := fun _ => fun
  | [d] => { results := [.lit (.bool true)], args := [d] }
  | _ => none }
def fnLinSameRow : OpenClaim := { program := "ytbdmofmoegmigaa", sum := "d5b2bafb3de5160bec8eba595874ecce57b308a30fb09f4d624291b1a539d6af", func := "loop.example/compurgator/laws.FnLinSame", spec := "fnLinSame", apart := false }
def FnLinSameSaid : Prop := fnLinSameRow.holds Try.pinned (OpenSpec.ofChange fnLinSameSpec)

/-- ITS FALSE NEIGHBOUR: 'it returns false'. Refute it at one input. -/
def fnLinSameWrong : ChangeSpec := { name := "fnLinSame", fn := fun _ => fun
  | [d] => { results := [.lit (.bool false)], args := [d] }
  | _ => none }
def FnLinSameWrongFalsely : Prop := fnLinSameRow.holds Try.pinned (OpenSpec.ofChange fnLinSameWrong)

/-- 'laws.FnFarRun': WHATEVER THE INPUT: true; the input reads as it did. -/
def fnFarRunSpec : ChangeSpec := { name := "fnFarRun", fn := fun _ => fun
  | [d] => { results := [.lit (.bool true)], args := [d] }
  | _ => none }
def fnFarRunRow : OpenClaim := { program := "ytbdmofmoegmigaa", sum := "d5b2bafb3de5160bec8eba595874ecce57b308a30fb09f4d624291b1a539d6af", func := "loop.example/compurgator/laws.FnFarRun", spec := "fnFarRun", unfollowed := true, recurses := true, apart := false }
def FnFarRunSaid : Prop := fnFarRunRow.holds Try.pinned (OpenSpec.ofChange fnFarRunSpec)

/-- ITS FALSE NEIGHBOUR: 'it returns false'. Refute it at one input. -/
def fnFarRunWrong : ChangeSpec := { name := "fnFarRun", fn := fun _ => fun
  | [d] => { results := [.lit (.bool false)], args := [d] }
  | _ => none }
def FnFarRunWrongFalsely : Prop := fnFarRunRow.holds Try.pinned (OpenSpec.ofChange fnFarRunWrong)

/-- 'laws.FnFarNever': WHATEVER THE INPUT: true; the input reads as it did. -/
def fnFarNeverSpec : ChangeSpec := { name := "fnFarNever", fn := fun _ => fun
  | [d] => { results := [.lit (.bool true)], args := [d] }
  | _ => none }
def fnFarNeverRow : OpenClaim := { program := "ytbdmofmoegmigaa", sum := "d5b2bafb3de5160bec8eba595874ecce57b308a30fb09f4d624291b1a539d6af", func := "loop.example/compurgator/laws.FnFarNever", spec := "fnFarNever", unfollowed := true, recurses := true, apart := false }
def FnFarNeverSaid : Prop := fnFarNeverRow.holds Try.pinned (OpenSpec.ofChange fnFarNeverSpec)

/-- ITS FALSE NEIGHBOUR: 'it returns false'. Refute it at one input. -/
def fnFarNeverWrong : ChangeSpec := { name := "fnFarNever", fn := fun _ => fun
  | [d] => { results := [.lit (.bool false)], args := [d] }
  | _ => none }
def FnFarNeverWrongFalsely : Prop := fnFarNeverRow.holds Try.pinned (OpenSpec.ofChange fnFarNeverWrong)

/-- 'laws.FnFarSum': WHATEVER THE INPUT: true; the input reads as it did. -/
def fnFarSumSpec : ChangeSpec := { name := "fnFarSum", fn := fun _ => fun
  | [d] => { results := [.lit (.bool true)], args := [d] }
  | _ => none }
def fnFarSumRow : OpenClaim := { program := "ytbdmofmoegmigaa", sum := "d5b2bafb3de5160bec8eba595874ecce57b308a30fb09f4d624291b1a539d6af", func := "loop.example/compurgator/laws.FnFarSum", spec := "fnFarSum", unfollowed := true, recurses := true, apart := false }
def FnFarSumSaid : Prop := fnFarSumRow.holds Try.pinned (OpenSpec.ofChange fnFarSumSpec)

/-- ITS FALSE NEIGHBOUR: 'it returns false'. Refute it at one input. -/
def fnFarSumWrong : ChangeSpec := { name := "fnFarSum", fn := fun _ => fun
  | [d] => { results := [.lit (.bool false)], args := [d] }
  | _ => none }
def FnFarSumWrongFalsely : Prop := fnFarSumRow.holds Try.pinned (OpenSpec.ofChange fnFarSumWrong)

/-- 'laws.FnFarLess': WHATEVER THE INPUT: true; the input reads as it did. -/
def fnFarLessSpec : ChangeSpec := { name := "fnFarLess", fn := fun _ => fun
  | [d] => { results := [.lit (.bool true)], args := [d] }
  | _ => none }
def fnFarLessRow : OpenClaim := { program := "ytbdmofmoegmigaa", sum := "d5b2bafb3de5160bec8eba595874ecce57b308a30fb09f4d624291b1a539d6af", func := "loop.example/compurgator/laws.FnFarLess", spec := "fnFarLess", unfollowed := true, recurses := true, apart := false }
def FnFarLessSaid : Prop := fnFarLessRow.holds Try.pinned (OpenSpec.ofChange fnFarLessSpec)

/-- ITS FALSE NEIGHBOUR: 'it returns false'. Refute it at one input. -/
def fnFarLessWrong : ChangeSpec := { name := "fnFarLess", fn := fun _ => fun
  | [d] => { results := [.lit (.bool false)], args := [d] }
  | _ => none }
def FnFarLessWrongFalsely : Prop := fnFarLessRow.holds Try.pinned (OpenSpec.ofChange fnFarLessWrong)

/-- 'laws.FnFarPart': WHATEVER THE INPUT: true; the input reads as it did. -/
def fnFarPartSpec : ChangeSpec := { name := "fnFarPart", fn := fun _ => fun
  | [d1, d2] => { results := [.lit (.bool true)], args := [d1, d2] }
  | _ => none }
def fnFarPartRow : OpenClaim := { program := "ytbdmofmoegmigaa", sum := "d5b2bafb3de5160bec8eba595874ecce57b308a30fb09f4d624291b1a539d6af", func := "loop.example/compurgator/laws.FnFarPart", spec := "fnFarPart", unfollowed := true, recurses := true, apart := false }
def FnFarPartSaid : Prop := fnFarPartRow.holds Try.pinned (OpenSpec.ofChange fnFarPartSpec)

/-- ITS FALSE NEIGHBOUR: 'it returns false'. Refute it at one input. -/
def fnFarPartWrong : ChangeSpec := { name := "fnFarPart", fn := fun _ => fun
  | [d1, d2] => { results := [.lit (.bool false)], args := [d1, d2] }
  | _ => none }
def FnFarPartWrongFalsely : Prop := fnFarPartRow.holds Try.pinned (OpenSpec.ofChange fnFarPartWrong)

/-- 'laws.FnFarBoth': WHATEVER THE INPUT: true; the input reads as it did. -/
def fnFarBothSpec : ChangeSpec := { name := "fnFarBoth", fn := fun _ => fun
  | [d] => { results := [.lit (.bool true)], args := [d] }
  | _ => none }
def fnFarBothRow : OpenClaim := { program := "ytbdmofmoegmigaa", sum := "d5b2bafb3de5160bec8eba595874ecce57b308a30fb09f4d624291b1a539d6af", func := "loop.example/compurgator/laws.FnFarBoth", spec := "fnFarBoth", unfollowed := true, recurses := true, apart := false }
def FnFarBothSaid : Prop := fnFarBothRow.holds Try.pinned (OpenSpec.ofChange fnFarBothSpec)

/-- ITS FALSE NEIGHBOUR: 'it returns false'. Refute it at one input. -/
def fnFarBothWrong : ChangeSpec := { name := "fnFarBoth", fn := fun _ => fun
  | [d] => { results := [.lit (.bool false)], args := [d] }
  | _ => none }
def FnFarBothWrongFalsely : Prop := fnFarBothRow.holds Try.pinned (OpenSpec.ofChange fnFarBothWrong)

/-- 'laws.FnFarAll': WHATEVER THE INPUT: true; the input reads as it did. -/
def fnFarAllSpec : ChangeSpec := { name := "fnFarAll", fn := fun _ => fun
  | [d] => { results := [.lit (.bool true)], args := [d] }
  | _ => none }
def fnFarAllRow : OpenClaim := { program := "ytbdmofmoegmigaa", sum := "d5b2bafb3de5160bec8eba595874ecce57b308a30fb09f4d624291b1a539d6af", func := "loop.example/compurgator/laws.FnFarAll", spec := "fnFarAll", apart := false }
def FnFarAllSaid : Prop := fnFarAllRow.holds Try.pinned (OpenSpec.ofChange fnFarAllSpec)

/-- ITS FALSE NEIGHBOUR: 'it returns false'. Refute it at one input. -/
def fnFarAllWrong : ChangeSpec := { name := "fnFarAll", fn := fun _ => fun
  | [d] => { results := [.lit (.bool false)], args := [d] }
  | _ => none }
def FnFarAllWrongFalsely : Prop := fnFarAllRow.holds Try.pinned (OpenSpec.ofChange fnFarAllWrong)

/-- 'laws.FnFarTwice': WHATEVER THE INPUT: true; the input reads as it did. -/
def fnFarTwiceSpec : ChangeSpec := { name := "fnFarTwice", fn := fun _ => fun
  | [d] => { results := [.lit (.bool true)], args := [d] }
  | _ => none }
def fnFarTwiceRow : OpenClaim := { program := "ytbdmofmoegmigaa", sum := "d5b2bafb3de5160bec8eba595874ecce57b308a30fb09f4d624291b1a539d6af", func := "loop.example/compurgator/laws.FnFarTwice", spec := "fnFarTwice", unfollowed := true, recurses := true, apart := false }
def FnFarTwiceSaid : Prop := fnFarTwiceRow.holds Try.pinned (OpenSpec.ofChange fnFarTwiceSpec)

/-- ITS FALSE NEIGHBOUR: 'it returns false'. Refute it at one input. -/
def fnFarTwiceWrong : ChangeSpec := { name := "fnFarTwice", fn := fun _ => fun
  | [d] => { results := [.lit (.bool false)], args := [d] }
  | _ => none }
def FnFarTwiceWrongFalsely : Prop := fnFarTwiceRow.holds Try.pinned (OpenSpec.ofChange fnFarTwiceWrong)

/-- 'laws.FnFarNone': WHATEVER THE INPUT: true; the input reads as it did. -/
def fnFarNoneSpec : ChangeSpec := { name := "fnFarNone", fn := fun _ => fun
  | [d] => { results := [.lit (.bool true)], args := [d] }
  | _ => none }
def fnFarNoneRow : OpenClaim := { program := "ytbdmofmoegmigaa", sum := "d5b2bafb3de5160bec8eba595874ecce57b308a30fb09f4d624291b1a539d6af", func := "loop.example/compurgator/laws.FnFarNone", spec := "fnFarNone", unfollowed := true, recurses := true, apart := false }
def FnFarNoneSaid : Prop := fnFarNoneRow.holds Try.pinned (OpenSpec.ofChange fnFarNoneSpec)

/-- ITS FALSE NEIGHBOUR: 'it returns false'. Refute it at one input. -/
def fnFarNoneWrong : ChangeSpec := { name := "fnFarNone", fn := fun _ => fun
  | [d] => { results := [.lit (.bool false)], args := [d] }
  | _ => none }
def FnFarNoneWrongFalsely : Prop := fnFarNoneRow.holds Try.pinned (OpenSpec.ofChange fnFarNoneWrong)

/-- 'laws.FnFarMore': WHATEVER THE INPUT: true; the input reads as it did. -/
def fnFarMoreSpec : ChangeSpec := { name := "fnFarMore", fn := fun _ => fun
  | [d] => { results := [.lit (.bool true)], args := [d] }
  | _ => none }
def fnFarMoreRow : OpenClaim := { program := "ytbdmofmoegmigaa", sum := "d5b2bafb3de5160bec8eba595874ecce57b308a30fb09f4d624291b1a539d6af", func := "loop.example/compurgator/laws.FnFarMore", spec := "fnFarMore", unfollowed := true, recurses := true, apart := false }
def FnFarMoreSaid : Prop := fnFarMoreRow.holds Try.pinned (OpenSpec.ofChange fnFarMoreSpec)

/-- ITS FALSE NEIGHBOUR: 'it returns false'. Refute it at one input. -/
def fnFarMoreWrong : ChangeSpec := { name := "fnFarMore", fn := fun _ => fun
  | [d] => { results := [.lit (.bool false)], args := [d] }
  | _ => none }
def FnFarMoreWrongFalsely : Prop := fnFarMoreRow.holds Try.pinned (OpenSpec.ofChange fnFarMoreWrong)

/-- 'laws.FnFarBent': WHATEVER THE INPUT: true; the input reads as it did. -/
def fnFarBentSpec : ChangeSpec := { name := "fnFarBent", fn := fun _ => fun
  | [d] => { results := [.lit (.bool true)], args := [d] }
  | _ => none }
def fnFarBentRow : OpenClaim := { program := "ytbdmofmoegmigaa", sum := "d5b2bafb3de5160bec8eba595874ecce57b308a30fb09f4d624291b1a539d6af", func := "loop.example/compurgator/laws.FnFarBent", spec := "fnFarBent", unfollowed := true, recurses := true, apart := false }
def FnFarBentSaid : Prop := fnFarBentRow.holds Try.pinned (OpenSpec.ofChange fnFarBentSpec)

/-- ITS FALSE NEIGHBOUR: 'it returns false'. Refute it at one input. -/
def fnFarBentWrong : ChangeSpec := { name := "fnFarBent", fn := fun _ => fun
  | [d] => { results := [.lit (.bool false)], args := [d] }
  | _ => none }
def FnFarBentWrongFalsely : Prop := fnFarBentRow.holds Try.pinned (OpenSpec.ofChange fnFarBentWrong)

/-- 'laws.FnExactLinAt': WHATEVER THE INPUT: true; the input reads as it did. -/
def fnExactLinAtSpec : ChangeSpec := { name := "fnExactLinAt", fn := fun _ => fun
  | [d1, d2] => { results := [.lit (.bool true)], args := [d1, d2] }
  | _ => none }
def fnExactLinAtRow : OpenClaim := { program := "ytbdmofmoegmigaa", sum := "d5b2bafb3de5160bec8eba595874ecce57b308a30fb09f4d624291b1a539d6af", func := "loop.example/compurgator/laws.FnExactLinAt", spec := "fnExactLinAt", apart := false }
def FnExactLinAtSaid : Prop := fnExactLinAtRow.holds Try.pinned (OpenSpec.ofChange fnExactLinAtSpec)

/-- ITS FALSE NEIGHBOUR: 'it returns false'. Refute it at one input. -/
def fnExactLinAtWrong : ChangeSpec := { name := "fnExactLinAt", fn := fun _ => fun
  | [d1, d2] => { results := [.lit (.bool false)], args := [d1, d2] }
  | _ => none }
def FnExactLinAtWrongFalsely : Prop := fnExactLinAtRow.holds Try.pinned (OpenSpec.ofChange fnExactLinAtWrong)

/-- 'laws.FnExactFarSum': WHATEVER THE INPUT: true; the input reads as it did. -/
def fnExactFarSumSpec : ChangeSpec := { name := "fnExactFarSum", fn := fun _ => fun
  | [d1, d2] => { results := [.lit (.bool true)], args := [d1, d2] }
  | _ => none }
def fnExactFarSumRow : OpenClaim := { program := "ytbdmofmoegmigaa", sum := "d5b2bafb3de5160bec8eba595874ecce57b308a30fb09f4d624291b1a539d6af", func := "loop.example/compurgator/laws.FnExactFarSum", spec := "fnExactFarSum", unfollowed := true, recurses := true, apart := false }
def FnExactFarSumSaid : Prop := fnExactFarSumRow.holds Try.pinned (OpenSpec.ofChange fnExactFarSumSpec)

/-- ITS FALSE NEIGHBOUR: 'it returns false'. Refute it at one input. -/
def fnExactFarSumWrong : ChangeSpec := { name := "fnExactFarSum", fn := fun _ => fun
  | [d1, d2] => { results := [.lit (.bool false)], args := [d1, d2] }
  | _ => none }
def FnExactFarSumWrongFalsely : Prop := fnExactFarSumRow.holds Try.pinned (OpenSpec.ofChange fnExactFarSumWrong)

/-- 'laws.FnExactFarOk': WHATEVER THE INPUT: true; the input reads as it did. -/
def fnExactFarOkSpec : ChangeSpec := { name := "fnExactFarOk", fn := fun _ => fun
  | [d1, d2] => { results := [.lit (.bool true)], args := [d1, d2] }
  | _ => none }
def fnExactFarOkRow : OpenClaim := { program := "ytbdmofmoegmigaa", sum := "d5b2bafb3de5160bec8eba595874ecce57b308a30fb09f4d624291b1a539d6af", func := "loop.example/compurgator/laws.FnExactFarOk", spec := "fnExactFarOk", unfollowed := true, recurses := true, apart := false }
def FnExactFarOkSaid : Prop := fnExactFarOkRow.holds Try.pinned (OpenSpec.ofChange fnExactFarOkSpec)

/-- ITS FALSE NEIGHBOUR: 'it returns false'. Refute it at one input. -/
def fnExactFarOkWrong : ChangeSpec := { name := "fnExactFarOk", fn := fun _ => fun
  | [d1, d2] => { results := [.lit (.bool false)], args := [d1, d2] }
  | _ => none }
def FnExactFarOkWrongFalsely : Prop := fnExactFarOkRow.holds Try.pinned (OpenSpec.ofChange fnExactFarOkWrong)

/-- 'laws.FnExactFarAll': WHATEVER THE INPUT: true; the input reads as it did. -/
def fnExactFarAllSpec : ChangeSpec := { name := "fnExactFarAll", fn := fun _ => fun
  | [d1, d2] => { results := [.lit (.bool true)], args := [d1, d2] }
  | _ => none }
def fnExactFarAllRow : OpenClaim := { program := "ytbdmofmoegmigaa", sum := "d5b2bafb3de5160bec8eba595874ecce57b308a30fb09f4d624291b1a539d6af", func := "loop.example/compurgator/laws.FnExactFarAll", spec := "fnExactFarAll", apart := false }
def FnExactFarAllSaid : Prop := fnExactFarAllRow.holds Try.pinned (OpenSpec.ofChange fnExactFarAllSpec)

/-- ITS FALSE NEIGHBOUR: 'it returns false'. Refute it at one input. -/
def fnExactFarAllWrong : ChangeSpec := { name := "fnExactFarAll", fn := fun _ => fun
  | [d1, d2] => { results := [.lit (.bool false)], args := [d1, d2] }
  | _ => none }
def FnExactFarAllWrongFalsely : Prop := fnExactFarAllRow.holds Try.pinned (OpenSpec.ofChange fnExactFarAllWrong)

/-- 'laws.FnExactFarLess': WHATEVER THE INPUT: true; the input reads as it did. -/
def fnExactFarLessSpec : ChangeSpec := { name := "fnExactFarLess", fn := fun _ => fun
  | [d1, d2] => { results := [.lit (.bool true)], args := [d1, d2] }
  | _ => none }
def fnExactFarLessRow : OpenClaim := { program := "ytbdmofmoegmigaa", sum := "d5b2bafb3de5160bec8eba595874ecce57b308a30fb09f4d624291b1a539d6af", func := "loop.example/compurgator/laws.FnExactFarLess", spec := "fnExactFarLess", apart := false }
def FnExactFarLessSaid : Prop := fnExactFarLessRow.holds Try.pinned (OpenSpec.ofChange fnExactFarLessSpec)

/-- ITS FALSE NEIGHBOUR: 'it returns false'. Refute it at one input. -/
def fnExactFarLessWrong : ChangeSpec := { name := "fnExactFarLess", fn := fun _ => fun
  | [d1, d2] => { results := [.lit (.bool false)], args := [d1, d2] }
  | _ => none }
def FnExactFarLessWrongFalsely : Prop := fnExactFarLessRow.holds Try.pinned (OpenSpec.ofChange fnExactFarLessWrong)

/-- 'laws.FnExactFarRun': WHATEVER THE INPUT: true; the input reads as it did. -/
def fnExactFarRunSpec : ChangeSpec := { name := "fnExactFarRun", fn := fun _ => fun
  | [d] => { results := [.lit (.bool true)], args := [d] }
  | _ => none }
def fnExactFarRunRow : OpenClaim := { program := "ytbdmofmoegmigaa", sum := "d5b2bafb3de5160bec8eba595874ecce57b308a30fb09f4d624291b1a539d6af", func := "loop.example/compurgator/laws.FnExactFarRun", spec := "fnExactFarRun", unfollowed := true, recurses := true, apart := false }
def FnExactFarRunSaid : Prop := fnExactFarRunRow.holds Try.pinned (OpenSpec.ofChange fnExactFarRunSpec)

/-- ITS FALSE NEIGHBOUR: 'it returns false'. Refute it at one input. -/
def fnExactFarRunWrong : ChangeSpec := { name := "fnExactFarRun", fn := fun _ => fun
  | [d] => { results := [.lit (.bool false)], args := [d] }
  | _ => none }
def FnExactFarRunWrongFalsely : Prop := fnExactFarRunRow.holds Try.pinned (OpenSpec.ofChange fnExactFarRunWrong)

/- THE SECOND FORM. 'bulk': how many values and letters a reading holds, each counted each time it is reached (what is shared counts as often as it is met; a slice's spare places count too). A statement '..UptoSaid' is the law's where the arguments, and the package variables that the reading takes, are together of bulk at most 1048576: NARROWER than '..Said'. Prove '..Said' where nothing that the law and all that it calls make is longer than what came in: it says more and counts as full. Else prove '..UptoSaid'. A law counts once. -/
mutual
def uptoBulk {H : Type} : DataW H → Nat
  | .lit (.string bytes) => bytes.length + 1
  | .lit _ => 1
  | .nil => 1
  | .ptr d => uptoBulk d + 1
  | .slice elems spare => uptoBulkAll elems + uptoBulkAll spare + 1
  | .agg parts => uptoBulkAll parts + 1
  | .iface _ d => uptoBulk d + 1
  | .map entries => uptoBulkEntries entries + 1
  | .held _ => 1
def uptoBulkAll {H : Type} : List (DataW H) → Nat
  | [] => 0
  | d :: r => uptoBulk d + uptoBulkAll r
def uptoBulkEntries {H : Type} : List (Lit × DataW H) → Nat
  | [] => 0
  | x :: r => uptoBulkEntry x + uptoBulkEntries r
def uptoBulkEntry {H : Type} : Lit × DataW H → Nat
  | (.string bytes, d) => bytes.length + uptoBulk d + 1
  | (_, d) => uptoBulk d + 1
 end
def uptoSmall : (H : Type) → List (DataW H) → Bool := fun _ ds => decide (uptoBulkAll ds ≤ 1048576)
def OpenSpec.upto (s : _root_.Go.ChangeSpec) : _root_.Go.OpenSpec := { _root_.Go.OpenSpec.ofChange s with cond := some uptoSmall }

/-- 'laws.FnLinNot', WHERE WHAT IT READS IS OF BULK AT MOST 1048576: true; the input reads as it did. -/
def fnLinNotUptoRow : OpenClaim := { program := "ytbdmofmoegmigaa", sum := "d5b2bafb3de5160bec8eba595874ecce57b308a30fb09f4d624291b1a539d6af", func := "loop.example/compurgator/laws.FnLinNot", spec := "fnLinNot", apart := false, narrowed := true }
def FnLinNotUptoSaid : Prop := fnLinNotUptoRow.holds Try.pinned (OpenSpec.upto fnLinNotSpec)

/-- 'laws.FnLinSum', WHERE WHAT IT READS IS OF BULK AT MOST 1048576: true; the input reads as it did. -/
def fnLinSumUptoRow : OpenClaim := { program := "ytbdmofmoegmigaa", sum := "d5b2bafb3de5160bec8eba595874ecce57b308a30fb09f4d624291b1a539d6af", func := "loop.example/compurgator/laws.FnLinSum", spec := "fnLinSum", unfollowed := true, recurses := true, apart := false, narrowed := true }
def FnLinSumUptoSaid : Prop := fnLinSumUptoRow.holds Try.pinned (OpenSpec.upto fnLinSumSpec)

/-- 'laws.FnLinBad', WHERE WHAT IT READS IS OF BULK AT MOST 1048576: true; the input reads as it did. -/
def fnLinBadUptoRow : OpenClaim := { program := "ytbdmofmoegmigaa", sum := "d5b2bafb3de5160bec8eba595874ecce57b308a30fb09f4d624291b1a539d6af", func := "loop.example/compurgator/laws.FnLinBad", spec := "fnLinBad", apart := false, narrowed := true }
def FnLinBadUptoSaid : Prop := fnLinBadUptoRow.holds Try.pinned (OpenSpec.upto fnLinBadSpec)

/-- 'laws.FnLinAt', WHERE WHAT IT READS IS OF BULK AT MOST 1048576: true; the input reads as it did. -/
def fnLinAtUptoRow : OpenClaim := { program := "ytbdmofmoegmigaa", sum := "d5b2bafb3de5160bec8eba595874ecce57b308a30fb09f4d624291b1a539d6af", func := "loop.example/compurgator/laws.FnLinAt", spec := "fnLinAt", unfollowed := true, recurses := true, apart := false, narrowed := true }
def FnLinAtUptoSaid : Prop := fnLinAtUptoRow.holds Try.pinned (OpenSpec.upto fnLinAtSpec)

/-- 'laws.FnLinSame', WHERE WHAT IT READS IS OF BULK AT MOST 1048576: true; the input reads as it did. -/
def fnLinSameUptoRow : OpenClaim := { program := "ytbdmofmoegmigaa", sum := "d5b2bafb3de5160bec8eba595874ecce57b308a30fb09f4d624291b1a539d6af", func := "loop.example/compurgator/laws.FnLinSame", spec := "fnLinSame", apart := false, narrowed := true }
def FnLinSameUptoSaid : Prop := fnLinSameUptoRow.holds Try.pinned (OpenSpec.upto fnLinSameSpec)

/-- 'laws.FnFarRun', WHERE WHAT IT READS IS OF BULK AT MOST 1048576: true; the input reads as it did. -/
def fnFarRunUptoRow : OpenClaim := { program := "ytbdmofmoegmigaa", sum := "d5b2bafb3de5160bec8eba595874ecce57b308a30fb09f4d624291b1a539d6af", func := "loop.example/compurgator/laws.FnFarRun", spec := "fnFarRun", unfollowed := true, recurses := true, apart := false, narrowed := true }
def FnFarRunUptoSaid : Prop := fnFarRunUptoRow.holds Try.pinned (OpenSpec.upto fnFarRunSpec)

/-- 'laws.FnFarNever', WHERE WHAT IT READS IS OF BULK AT MOST 1048576: true; the input reads as it did. -/
def fnFarNeverUptoRow : OpenClaim := { program := "ytbdmofmoegmigaa", sum := "d5b2bafb3de5160bec8eba595874ecce57b308a30fb09f4d624291b1a539d6af", func := "loop.example/compurgator/laws.FnFarNever", spec := "fnFarNever", unfollowed := true, recurses := true, apart := false, narrowed := true }
def FnFarNeverUptoSaid : Prop := fnFarNeverUptoRow.holds Try.pinned (OpenSpec.upto fnFarNeverSpec)

/-- 'laws.FnFarSum', WHERE WHAT IT READS IS OF BULK AT MOST 1048576: true; the input reads as it did. -/
def fnFarSumUptoRow : OpenClaim := { program := "ytbdmofmoegmigaa", sum := "d5b2bafb3de5160bec8eba595874ecce57b308a30fb09f4d624291b1a539d6af", func := "loop.example/compurgator/laws.FnFarSum", spec := "fnFarSum", unfollowed := true, recurses := true, apart := false, narrowed := true }
def FnFarSumUptoSaid : Prop := fnFarSumUptoRow.holds Try.pinned (OpenSpec.upto fnFarSumSpec)

/-- 'laws.FnFarLess', WHERE WHAT IT READS IS OF BULK AT MOST 1048576: true; the input reads as it did. -/
def fnFarLessUptoRow : OpenClaim := { program := "ytbdmofmoegmigaa", sum := "d5b2bafb3de5160bec8eba595874ecce57b308a30fb09f4d624291b1a539d6af", func := "loop.example/compurgator/laws.FnFarLess", spec := "fnFarLess", unfollowed := true, recurses := true, apart := false, narrowed := true }
def FnFarLessUptoSaid : Prop := fnFarLessUptoRow.holds Try.pinned (OpenSpec.upto fnFarLessSpec)

/-- 'laws.FnFarPart', WHERE WHAT IT READS IS OF BULK AT MOST 1048576: true; the input reads as it did. -/
def fnFarPartUptoRow : OpenClaim := { program := "ytbdmofmoegmigaa", sum := "d5b2bafb3de5160bec8eba595874ecce57b308a30fb09f4d624291b1a539d6af", func := "loop.example/compurgator/laws.FnFarPart", spec := "fnFarPart", unfollowed := true, recurses := true, apart := false, narrowed := true }
def FnFarPartUptoSaid : Prop := fnFarPartUptoRow.holds Try.pinned (OpenSpec.upto fnFarPartSpec)

/-- 'laws.FnFarBoth', WHERE WHAT IT READS IS OF BULK AT MOST 1048576: true; the input reads as it did. -/
def fnFarBothUptoRow : OpenClaim := { program := "ytbdmofmoegmigaa", sum := "d5b2bafb3de5160bec8eba595874ecce57b308a30fb09f4d624291b1a539d6af", func := "loop.example/compurgator/laws.FnFarBoth", spec := "fnFarBoth", unfollowed := true, recurses := true, apart := false, narrowed := true }
def FnFarBothUptoSaid : Prop := fnFarBothUptoRow.holds Try.pinned (OpenSpec.upto fnFarBothSpec)

/-- 'laws.FnFarAll', WHERE WHAT IT READS IS OF BULK AT MOST 1048576: true; the input reads as it did. -/
def fnFarAllUptoRow : OpenClaim := { program := "ytbdmofmoegmigaa", sum := "d5b2bafb3de5160bec8eba595874ecce57b308a30fb09f4d624291b1a539d6af", func := "loop.example/compurgator/laws.FnFarAll", spec := "fnFarAll", apart := false, narrowed := true }
def FnFarAllUptoSaid : Prop := fnFarAllUptoRow.holds Try.pinned (OpenSpec.upto fnFarAllSpec)

/-- 'laws.FnFarTwice', WHERE WHAT IT READS IS OF BULK AT MOST 1048576: true; the input reads as it did. -/
def fnFarTwiceUptoRow : OpenClaim := { program := "ytbdmofmoegmigaa", sum := "d5b2bafb3de5160bec8eba595874ecce57b308a30fb09f4d624291b1a539d6af", func := "loop.example/compurgator/laws.FnFarTwice", spec := "fnFarTwice", unfollowed := true, recurses := true, apart := false, narrowed := true }
def FnFarTwiceUptoSaid : Prop := fnFarTwiceUptoRow.holds Try.pinned (OpenSpec.upto fnFarTwiceSpec)

/-- 'laws.FnFarNone', WHERE WHAT IT READS IS OF BULK AT MOST 1048576: true; the input reads as it did. -/
def fnFarNoneUptoRow : OpenClaim := { program := "ytbdmofmoegmigaa", sum := "d5b2bafb3de5160bec8eba595874ecce57b308a30fb09f4d624291b1a539d6af", func := "loop.example/compurgator/laws.FnFarNone", spec := "fnFarNone", unfollowed := true, recurses := true, apart := false, narrowed := true }
def FnFarNoneUptoSaid : Prop := fnFarNoneUptoRow.holds Try.pinned (OpenSpec.upto fnFarNoneSpec)

/-- 'laws.FnFarMore', WHERE WHAT IT READS IS OF BULK AT MOST 1048576: true; the input reads as it did. -/
def fnFarMoreUptoRow : OpenClaim := { program := "ytbdmofmoegmigaa", sum := "d5b2bafb3de5160bec8eba595874ecce57b308a30fb09f4d624291b1a539d6af", func := "loop.example/compurgator/laws.FnFarMore", spec := "fnFarMore", unfollowed := true, recurses := true, apart := false, narrowed := true }
def FnFarMoreUptoSaid : Prop := fnFarMoreUptoRow.holds Try.pinned (OpenSpec.upto fnFarMoreSpec)

/-- 'laws.FnFarBent', WHERE WHAT IT READS IS OF BULK AT MOST 1048576: true; the input reads as it did. -/
def fnFarBentUptoRow : OpenClaim := { program := "ytbdmofmoegmigaa", sum := "d5b2bafb3de5160bec8eba595874ecce57b308a30fb09f4d624291b1a539d6af", func := "loop.example/compurgator/laws.FnFarBent", spec := "fnFarBent", unfollowed := true, recurses := true, apart := false, narrowed := true }
def FnFarBentUptoSaid : Prop := fnFarBentUptoRow.holds Try.pinned (OpenSpec.upto fnFarBentSpec)

/-- 'laws.FnExactLinAt', WHERE WHAT IT READS IS OF BULK AT MOST 1048576: true; the input reads as it did. -/
def fnExactLinAtUptoRow : OpenClaim := { program := "ytbdmofmoegmigaa", sum := "d5b2bafb3de5160bec8eba595874ecce57b308a30fb09f4d624291b1a539d6af", func := "loop.example/compurgator/laws.FnExactLinAt", spec := "fnExactLinAt", apart := false, narrowed := true }
def FnExactLinAtUptoSaid : Prop := fnExactLinAtUptoRow.holds Try.pinned (OpenSpec.upto fnExactLinAtSpec)

/-- 'laws.FnExactFarSum', WHERE WHAT IT READS IS OF BULK AT MOST 1048576: true; the input reads as it did. -/
def fnExactFarSumUptoRow : OpenClaim := { program := "ytbdmofmoegmigaa", sum := "d5b2bafb3de5160bec8eba595874ecce57b308a30fb09f4d624291b1a539d6af", func := "loop.example/compurgator/laws.FnExactFarSum", spec := "fnExactFarSum", unfollowed := true, recurses := true, apart := false, narrowed := true }
def FnExactFarSumUptoSaid : Prop := fnExactFarSumUptoRow.holds Try.pinned (OpenSpec.upto fnExactFarSumSpec)

/-- 'laws.FnExactFarOk', WHERE WHAT IT READS IS OF BULK AT MOST 1048576: true; the input reads as it did. -/
def fnExactFarOkUptoRow : OpenClaim := { program := "ytbdmofmoegmigaa", sum := "d5b2bafb3de5160bec8eba595874ecce57b308a30fb09f4d624291b1a539d6af", func := "loop.example/compurgator/laws.FnExactFarOk", spec := "fnExactFarOk", unfollowed := true, recurses := true, apart := false, narrowed := true }
def FnExactFarOkUptoSaid : Prop := fnExactFarOkUptoRow.holds Try.pinned (OpenSpec.upto fnExactFarOkSpec)

/-- 'laws.FnExactFarAll', WHERE WHAT IT READS IS OF BULK AT MOST 1048576: true; the input reads as it did. -/
def fnExactFarAllUptoRow : OpenClaim := { program := "ytbdmofmoegmigaa", sum := "d5b2bafb3de5160bec8eba595874ecce57b308a30fb09f4d624291b1a539d6af", func := "loop.example/compurgator/laws.FnExactFarAll", spec := "fnExactFarAll", apart := false, narrowed := true }
def FnExactFarAllUptoSaid : Prop := fnExactFarAllUptoRow.holds Try.pinned (OpenSpec.upto fnExactFarAllSpec)

/-- 'laws.FnExactFarLess', WHERE WHAT IT READS IS OF BULK AT MOST 1048576: true; the input reads as it did. -/
def fnExactFarLessUptoRow : OpenClaim := { program := "ytbdmofmoegmigaa", sum := "d5b2bafb3de5160bec8eba595874ecce57b308a30fb09f4d624291b1a539d6af", func := "loop.example/compurgator/laws.FnExactFarLess", spec := "fnExactFarLess", apart := false, narrowed := true }
def FnExactFarLessUptoSaid : Prop := fnExactFarLessUptoRow.holds Try.pinned (OpenSpec.upto fnExactFarLessSpec)

/-- 'laws.FnExactFarRun', WHERE WHAT IT READS IS OF BULK AT MOST 1048576: true; the input reads as it did. -/
def fnExactFarRunUptoRow : OpenClaim := { program := "ytbdmofmoegmigaa", sum := "d5b2bafb3de5160bec8eba595874ecce57b308a30fb09f4d624291b1a539d6af", func := "loop.example/compurgator/laws.FnExactFarRun", spec := "fnExactFarRun", unfollowed := true, recurses := true, apart := false, narrowed := true }
def FnExactFarRunUptoSaid : Prop := fnExactFarRunUptoRow.holds Try.pinned (OpenSpec.upto fnExactFarRunSpec)

end Rows
end Go.Proofs.Ytbdmofmoegmigaa
