/- The law FnLinNot: the walk. -/
import Derived.Test.YthcabejfmoedfaaDoorLinDG
import Derived.Test.YthcabejfmoedfaaDoorLinX
import Derived.Test.YthcabejfmoedfaaDoorLinNM
import Derived.Test.YthcabejfmoedfaaDoorByt
namespace Go.Proofs.YthcabejfmoedfaaDoor
set_option linter.unusedVariables false
set_option linter.unusedSimpArgs false
open Go.RowKit
theorem linok_at {A : Option Addr} {n c : Nat} {Z : Nat → Int} {b : Int} {s : Bool} {w : World} (hn : n ≤ 9223372036854775807) (hA : Ints w A n Z) {v : Bool} (h : okL n Z b = v) (W : World) (hb : Below w.heap.size w W) :
    Calls Tryd.prog 32 #[.agg #[.slice A n c, .int .i64 b, .bool s]] W fun e w' => e = .returned (.bool v) ∧ Below W.heap.size W w' := by
  subst h; exact linok_any A n c Z b s W hn (hA.below hb)
theorem linsame_at {A B : Option Addr} {n m c d : Nat} {Z Y : Nat → Int} {b b2 : Int} {s s2 : Bool} {w : World} (hn : n ≤ 9223372036854775806) (hm : m ≤ 9223372036854775806) (hA : Ints w A n Z) (hB : Ints w B m Y) {v : Bool} (h : eqL n Z b s m Y b2 s2 = v) :
    Calls Tryd.prog 30 #[.agg #[.slice A n c, .int .i64 b, .bool s], .agg #[.slice B m d, .int .i64 b2, .bool s2]] w fun e w' => e = .returned (.bool v) ∧ Below w.heap.size w w' := by
  subst h; exact linsame_any A B n m c d Z Y b b2 s s2 w hn hm hA hB
theorem linat_atN {A : Option Addr} {n c : Nat} {Z : Nat → Int} {b : Int} {s : Bool} {B : Option Addr} {m d : Nat} {N D : Nat → Int} {w : World} (hn : n ≤ 9223372036854775806) (hA : Ints w A n Z) (hm : m ≤ 9223372036854775806) (hB : Rats w B m N D) {p q : Bool} (h : atB n Z b s m N D = (p, q)) :
    Calls Tryd.prog 34 #[.agg #[.slice A n c, .int .i64 b, .bool s], .slice B m d] w fun e w' => e = .returned (.tuple #[.bool p, .bool q]) ∧ Below w.heap.size w w' := by
  have := linat_any A n c Z b s B m d N D w hn hA hm hB
  rw [h] at this
  exact this
end Go.Proofs.YthcabejfmoedfaaDoor
