/- Several texts in one: LinNM, LinNW. -/
import Derived.Test.YtplocljoanaoeaaBM
import Derived.Test.YtplocljoanaoeaaBL
import Derived.Test.YtplocljoanaoeaaBC
import Derived.Test.YtplocljoanaoeaaLinX
import Derived.Test.YtplocljoanaoeaaByt
namespace Go.Proofs.Ytplocljoanaoeaa
set_option linter.unusedVariables false
set_option linter.unusedSimpArgs false
theorem notR_yes {n : Nat} {Z : Nat → Int} {b : Int} {s : Bool} (h : okL n Z b = true) : notR n Z b s = (4, fun k => -Z k, -b, !s) := by unfold notR; rw [if_pos h]
theorem notR_no {n : Nat} {Z : Nat → Int} {b : Int} {s : Bool} (h : okL n Z b = false) : notR n Z b s = zeroL := by unfold notR; rw [if_neg (by rw [h]; simp)]
theorem inC_neg {n : Int} (h : inC n = true) : inC (-n) = true := by have := inC_iff.1 h; exact inC_iff.2 (by omega)
theorem okL_neg {n : Nat} {Z : Nat → Int} {b : Int} (h : okL n Z b = true) : okL 4 (fun k => -Z k) (-b) = true := by
  obtain ⟨rfl, h1, h2⟩ := okL_iff.1 h
  exact okL_iff.2 ⟨rfl, fun k hk => inC_neg (h1 k hk), inC_neg h2⟩
theorem notR_len (n : Nat) (Z : Nat → Int) (b : Int) (s : Bool) : (notR n Z b s).1 ≤ 4 := by
  unfold notR; split <;> simp [zeroL]
theorem keep_neg {x y b : Int} {s : Bool} (h : okB x y = true) (hb : -1000000 ≤ b ∧ b ≤ 1000000) : keepB (-x) y (-b) (!s) = !keepB x y b s := by
  rw [keep_iff h hb, keep_iff (okneg h) (by omega), Int.neg_mul]
  generalize b * y = t
  cases s
  · by_cases h1 : x < t
    · simp [h1]; omega
    · by_cases h2 : x = t
      · simp [h2]
      · simp [h1, h2]; omega
  · by_cases h1 : x < t
    · simp [h1]; omega
    · by_cases h2 : x = t
      · simp [h2]
      · simp [h1]; omega
/-- of all numbers either it is so, or that it is not -/
theorem at_not {n m : Nat} {Z N D : Nat → Int} {b : Int} {s : Bool} (h : okL n Z b = true) :
    (atB n Z b s m N D).2 = (atB 4 (fun k => -Z k) (-b) (!s) m N D).2 ∧ ((atB n Z b s m N D).2 = true → (atB n Z b s m N D).1 = !(atB 4 (fun k => -Z k) (-b) (!s) m N D).1) := by
  have h' := okL_neg h
  have hb := inC_iff.1 (okL_iff.1 h).2.2
  cases h2 : valsB m N D
  · rw [atB_no2 h2, atB_no2 h2]; simp
  have hn := atS_neg Z N D 4
  rcases atS_cases Z N D 4 with h3 | ⟨x, y, h3⟩
  · rw [atB_no3 (n := n) (by rw [h3]), atB_no3 (n := 4) (by rw [hn, h3])]; simp
  · rw [h3] at hn
    rw [atB_yes h h2 h3, atB_yes h' h2 hn, keep_neg (at_spec h3).1 hb]
    simp
theorem not_not {n : Nat} {Z : Nat → Int} {b : Int} {s : Bool} (h : okL n Z b = true) : notR 4 (fun k => -Z k) (-b) (!s) = (4, Z, b, s) := by
  rw [notR_yes (okL_neg h)]
  simp
end Go.Proofs.Ytplocljoanaoeaa

namespace Go.Proofs.Ytplocljoanaoeaa
set_option linter.unusedVariables false
set_option linter.unusedSimpArgs false
open Go.RowKit
theorem linsame_at {A B : Option Addr} {n m c d : Nat} {Z Y : Nat → Int} {b b2 : Int} {s s2 : Bool} {w : World} (hn : n ≤ 9223372036854775806) (hm : m ≤ 9223372036854775806) (hA : Ints w A n Z) (hB : Ints w B m Y) {v : Bool} (h : eqL n Z b s m Y b2 s2 = v) :
    Calls Try.prog 20 #[.agg #[.slice A n c, .int .i64 b, .bool s], .agg #[.slice B m d, .int .i64 b2, .bool s2]] w fun e w' => e = .returned (.bool v) ∧ Below w.heap.size w w' := by
  subst h; exact linsame_any A B n m c d Z Y b b2 s s2 w hn hm hA hB
theorem linat_atN {A : Option Addr} {n c : Nat} {Z : Nat → Int} {b : Int} {s : Bool} {B : Option Addr} {m d : Nat} {N D : Nat → Int} {w : World} (hn : n ≤ 9223372036854775806) (hA : Ints w A n Z) (hm : m ≤ 9223372036854775806) (hB : Rats w B m N D) {p q : Bool} (h : atB n Z b s m N D = (p, q)) :
    Calls Try.prog 21 #[.agg #[.slice A n c, .int .i64 b, .bool s], .slice B m d] w fun e w' => e = .returned (.tuple #[.bool p, .bool q]) ∧ Below w.heap.size w w' := by
  have := linat_any A n c Z b s B m d N D w hn hA hm hB
  rw [h] at this
  exact this
end Go.Proofs.Ytplocljoanaoeaa
