/-
  DERIVED: THE SHELF's CONTRACTS AT THIS DUMP, IN PLAIN WORDS (tools/lay-plain.mjs out of 'TryShelf.lean', which tools/lay-shelf.mjs wrote): THE SAME DECLARATIONS UNDER THE SAME NAMES: 'import', 'namespace', 'open', 'def', 'theorem' AND NOTHING ELSE: no command of the shelf's: FOR A HAND-IN. Each laying: the table of numbers ('.._ren') and one theorem, a field a fact of the dump's own or the kernel's comparison; each contract: ONE APPLICATION.
-/
import Derived.Shelf.Strings.Builder1
import Derived.Shelf.Strconv.Itoa0
import Derived.Shelf.Strconv.Itoa1
import Derived.Shelf.LaysM
import Derived.Shelf.Strconv.Itoa2
import Derived.Shelf.Strconv.Itoa3
import Derived.Shelf.Slices.Equal
import Derived.Test.YtanfljajafelgaaProg
namespace Go.Proofs
open Go.Shelf
def Try.lays169_ren : Go.Shelf.Ren := ⟨fun | 169 => 136 | n => n, fun | 70 => 229 | 9 => 9 | 0 => 0 | 72 => 231 | 37 => 22 | 127 => 300 | 3 => 3 | 5 => 5 | n => n, fun | n => n⟩
theorem Try.lays169 : Go.Proofs.Lays.n169 Try.prog Try.lays169_ren := {
  mixed := by kernel_rfl
  f169 := Try.func136.trans (congrArg some (by kernel_rfl))
  t0 := Try.underlying0
  a0 := Try.isAgg0
  z0 := Try.sizeOf0
  v0 := Try.zeroValue0
  t3 := Try.underlying3
  a3 := Try.isAgg3
  z3 := Try.sizeOf3
  v3 := Try.zeroValue3
  t9 := Try.underlying9
  a9 := Try.isAgg9
  z9 := Try.sizeOf9
  v9 := Try.zeroValue9
  t37 := Try.underlying22
  a37 := Try.isAgg22
  z37 := Try.sizeOf22
  v37 := Try.zeroValue22
  t70 := Try.underlying229
  a70 := Try.isAgg229
  z70 := Try.sizeOf229
  v70 := Try.zeroValue229
  t72 := Try.underlying231
  a72 := Try.isAgg231
  z72 := Try.sizeOf231
  v72 := Try.zeroValue231
  t127 := Try.underlying300
  a127 := Try.isAgg300
  z127 := Try.sizeOf300
  v127 := Try.zeroValue300 }
theorem Try.Builder_Extra_169 : Builder.Extra Try.prog Try.lays169_ren := {
  sizeBuilder := by kernel_rfl
  liesBuilder := by kernel_rfl
  t5 := Try.underlying5
  a5 := Try.isAgg5
  z5 := Try.sizeOf5
  v5 := Try.zeroValue5
  infoByte := by kernel_rfl
  cellsByte := by kernel_rfl
  sizeByte := by kernel_rfl
  neB5 := by decide }
open Go.RowKit in
/-- (*strings.Builder).String: "String returns the accumulated string.": OF A BUILDER THAT HOLDS AT LEAST ONE BYTE. ✋ THE MODEL FREEZES THOSE BYTES IN THE BUFFER (unsafe.String): a later write INTO them ends the model's run without an answer; a later append BEHIND them goes on. The statement's order of evaluation is drawn: one draw. (LAID: no walk: one application.) -/
theorem Try.Builder_String (B b : Nat) (l : List UInt8) (w : World) (h : Lib.IsBuilder 231 5 B b (Lib.byteCells l) w) (h0 : l ≠ []) :
    Calls Try.prog 136 #[.pointer (some ⟨b, 0, none⟩)] w fun e w' => e = .returned (.string ⟨l.toArray⟩) ∧ Below B w w' := Any.Builder_String Try.lays169 Try.Builder_Extra_169 B b l w h h0
open Go.RowKit in
/-- (*strings.Builder).String OF A BUILDER THAT HOLDS NO BYTE: the empty string. (Its buffer is nil, or a row of which it has taken nothing yet; where that row has NO capacity the model lays one new block for unsafe.SliceData's 'some address'.) One draw. (LAID: no walk: one application.) -/
theorem Try.Builder_String_empty (B b : Nat) (w : World) (h : Lib.IsBuilder 231 5 B b [] w) (hBw : B ≤ w.heap.size) :
    Calls Try.prog 136 #[.pointer (some ⟨b, 0, none⟩)] w fun e w' => e = .returned (.string ⟨#[]⟩) ∧ Below B w w' := Any.Builder_String_empty Try.lays169 Try.Builder_Extra_169 B b w h hBw
open Go.RowKit in
/-- (*strings.Builder).String: "String returns the accumulated string.": WHATEVER THE BUILDER HOLDS. (LAID: no walk: one application.) -/
theorem Try.Builder_String_any (B b : Nat) (l : List UInt8) (w : World) (h : Lib.IsBuilder 231 5 B b (Lib.byteCells l) w) (hBw : B ≤ w.heap.size) :
    Calls Try.prog 136 #[.pointer (some ⟨b, 0, none⟩)] w fun e w' => e = .returned (.string ⟨l.toArray⟩) ∧ Below B w w' := Any.Builder_String_any Try.lays169 Try.Builder_Extra_169 B b l w h hBw
def Try.lays129_ren : Go.Shelf.Ren := ⟨fun | 129 => 284 | n => n, fun | 53 => 392 | 3 => 3 | 4 => 4 | 46 => 368 | 5 => 5 | 9 => 9 | n => n, fun | n => n⟩
theorem Try.lays129 : Go.Proofs.Lays.n129 Try.prog Try.lays129_ren := {
  mixed := by kernel_rfl
  f129 := Try.func284.trans (congrArg some (by kernel_rfl))
  t3 := Try.underlying3
  a3 := Try.isAgg3
  z3 := Try.sizeOf3
  v3 := Try.zeroValue3
  t4 := Try.underlying4
  a4 := Try.isAgg4
  z4 := Try.sizeOf4
  v4 := Try.zeroValue4
  t5 := Try.underlying5
  a5 := Try.isAgg5
  z5 := Try.sizeOf5
  v5 := Try.zeroValue5
  t9 := Try.underlying9
  a9 := Try.isAgg9
  z9 := Try.sizeOf9
  v9 := Try.zeroValue9
  t46 := Try.underlying368
  a46 := Try.isAgg368
  z46 := Try.sizeOf368
  v46 := Try.zeroValue368
  t53 := Try.underlying392
  a53 := Try.isAgg392
  z53 := Try.sizeOf392
  v53 := Try.zeroValue392 }
/-- bits.Len64: "Len64 returns the minimum number of bits required to represent x; the result is 0 for x == 0.": IT RETURNS 'Lib.bitLen x'; the world is as it was. ('h0', 'h1': x is a uint64.) (LAID: no walk: one application.) -/
theorem Try.bits_Len64 (x : Int) (w : World) (h0 : 0 ≤ x) (h1 : x ≤ 18446744073709551615) :
    Calls Try.prog 284 #[.int .u64 x] w fun e w' => e = .returned (.int .i64 (Lib.bitLen x.toNat)) ∧ w' = w := Any.bits_Len64 Try.lays129 x w h0 h1
def Try.lays317_ren : Go.Shelf.Ren := ⟨fun | 317 => 283 | n => n, fun | 3 => 3 | 46 => 368 | n => n, fun | n => n⟩
theorem Try.lays317 : Go.Proofs.Lays.n317 Try.prog Try.lays317_ren := {
  mixed := by kernel_rfl
  f317 := Try.func283.trans (congrArg some (by kernel_rfl))
  t3 := Try.underlying3
  a3 := Try.isAgg3
  z3 := Try.sizeOf3
  v3 := Try.zeroValue3
  t46 := Try.underlying368
  a46 := Try.isAgg368
  z46 := Try.sizeOf368
  v46 := Try.zeroValue368 }
open Go.Lib in
/-- internal/strconv.log10Pow2: "log10Pow2(x) returns ⌊log₁₀ 2**x⌋ = ⌊x * log₁₀ 2⌋.": '(x * 78913) >> 18', at an x up to 64 (a length in bits). The world is as it was. (LAID: no walk: one application.) -/
theorem Try.internal_strconv_log10Pow2 (x : Nat) (h : x ≤ 64) (w : World) :
    Calls Try.prog 283 #[.int .i64 x] w fun e w' => e = .returned (.int .i64 (Lib.l10 x)) ∧ w' = w := Any.internal_strconv_log10Pow2 Try.lays317 x h w
def Try.lays318_ren : Go.Shelf.Ren := ⟨fun | 318 => 285 | n => n, fun | 3 => 3 | 4 => 4 | n => n, fun | n => n⟩
theorem Try.lays318 : Go.Proofs.Lays.n318 Try.prog Try.lays318_ren := {
  mixed := by kernel_rfl
  f318 := Try.func285.trans (congrArg some (by kernel_rfl))
  t3 := Try.underlying3
  a3 := Try.isAgg3
  z3 := Try.sizeOf3
  v3 := Try.zeroValue3
  t4 := Try.underlying4
  a4 := Try.isAgg4
  z4 := Try.sizeOf4
  v4 := Try.zeroValue4 }
open Go.Lib in
/-- internal/strconv.bool2: "bool2 converts b to an integer: 1 for true, 0 for false." The world is as it was. (LAID: no walk: one application.) -/
theorem Try.internal_strconv_bool2_int (b : Bool) (w : World) :
    Calls Try.prog 285 #[.bool b] w fun e w' => e = .returned (.int .i64 (if b then 1 else 0)) ∧ w' = w := Any.internal_strconv_bool2_int Try.lays318 b w
def Try.lays283_ren : Go.Shelf.Ren := ⟨fun | 283 => 279 | n => n, fun | 3 => 3 | 9 => 9 | 4 => 4 | n => n, fun | n => n⟩
theorem Try.lays283 : Go.Proofs.Lays.n283 Try.prog Try.lays283_ren := {
  mixed := by kernel_rfl
  f283 := Try.func279.trans (congrArg some (by kernel_rfl))
  t3 := Try.underlying3
  a3 := Try.isAgg3
  z3 := Try.sizeOf3
  v3 := Try.zeroValue3
  t4 := Try.underlying4
  a4 := Try.isAgg4
  z4 := Try.sizeOf4
  v4 := Try.zeroValue4
  t9 := Try.underlying9
  a9 := Try.isAgg9
  z9 := Try.sizeOf9
  v9 := Try.zeroValue9 }
open Go.Lib in
/-- internal/strconv.small: "small returns the string for an i with 0 <= i < nSmalls.": i's decimal numeral. The world is as it was. (LAID: no walk: one application.) -/
theorem Try.internal_strconv_small (i : Nat) (h : i < 100) (w : World) :
    Calls Try.prog 279 #[.int .i64 i] w fun e w' => e = .returned (.string ⟨(Lib.decDigits i).toArray⟩) ∧ w' = w := Any.internal_strconv_small Try.lays283 i h w
def Try.laysM284_ren : Go.Shelf.Ren := ⟨fun | 284 => 280 | 129 => 284 | 317 => 283 | 318 => 285 | n => n, fun | 53 => 392 | 3 => 3 | 212 => 398 | 0 => 0 | 4 => 4 | 46 => 368 | 5 => 5 | 9 => 9 | n => n, fun | 17 => 0 | n => n⟩
theorem Try.laysM284 : Go.Proofs.LaysM.n284 Try.prog Try.laysM284_ren := {
  mixed := by kernel_rfl
  f129 := Try.func284.trans (congrArg some (by kernel_rfl))
  f284 := Try.func280.trans (congrArg some (by kernel_rfl))
  f317 := Try.func283.trans (congrArg some (by kernel_rfl))
  f318 := Try.func285.trans (congrArg some (by kernel_rfl))
  t0 := Try.underlying0
  a0 := Try.isAgg0
  z0 := Try.sizeOf0
  v0 := Try.zeroValue0
  t3 := Try.underlying3
  a3 := Try.isAgg3
  z3 := Try.sizeOf3
  v3 := Try.zeroValue3
  t4 := Try.underlying4
  a4 := Try.isAgg4
  z4 := Try.sizeOf4
  v4 := Try.zeroValue4
  t5 := Try.underlying5
  a5 := Try.isAgg5
  z5 := Try.sizeOf5
  v5 := Try.zeroValue5
  t9 := Try.underlying9
  a9 := Try.isAgg9
  z9 := Try.sizeOf9
  v9 := Try.zeroValue9
  t46 := Try.underlying368
  a46 := Try.isAgg368
  z46 := Try.sizeOf368
  v46 := Try.zeroValue368
  t53 := Try.underlying392
  a53 := Try.isAgg392
  z53 := Try.sizeOf392
  v53 := Try.zeroValue392
  t212 := Try.underlying398
  a212 := Try.isAgg398
  z212 := Try.sizeOf398
  v212 := Try.zeroValue398
  g17 := by kernel_rfl
  i0 := by kernel_rfl
  i3 := by kernel_rfl
  i4 := by kernel_rfl
  i5 := by kernel_rfl
  i9 := by kernel_rfl
  i46 := by kernel_rfl
  i53 := by kernel_rfl
  i212 := by kernel_rfl
  m17 := by kernel_rfl }
open Go.Lib in
/-- internal/strconv.numDigits, at a d that is not 0: THE NUMBER OF d's DECIMAL DIGITS. The world is as it was. (LAID: no walk: one application.) -/
theorem Try.internal_strconv_numDigits (u : Nat) (h1 : 1 ≤ u) (h2 : u < 18446744073709551616) (w : World) (htab : Lib.TabIs Try.prog w "internal/strconv.uint64pow10" .u64 Lib.pow10Tab) :
    Calls Try.prog 280 #[.int .u64 u] w fun e w' => e = .returned (.int .i64 (Lib.nDigits u)) ∧ w' = w := Any.internal_strconv_numDigits Try.laysM284 u h1 h2 w htab
def Try.lays285_ren : Go.Shelf.Ren := ⟨fun | 285 => 281 | n => n, fun | 37 => 22 | 53 => 392 | 3 => 3 | 4 => 4 | 51 => 382 | 9 => 9 | 5 => 5 | 0 => 0 | n => n, fun | n => n⟩
theorem Try.lays285 : Go.Proofs.Lays.n285 Try.prog Try.lays285_ren := {
  mixed := by kernel_rfl
  f285 := Try.func281.trans (congrArg some (by kernel_rfl))
  t0 := Try.underlying0
  a0 := Try.isAgg0
  z0 := Try.sizeOf0
  v0 := Try.zeroValue0
  t3 := Try.underlying3
  a3 := Try.isAgg3
  z3 := Try.sizeOf3
  v3 := Try.zeroValue3
  t4 := Try.underlying4
  a4 := Try.isAgg4
  z4 := Try.sizeOf4
  v4 := Try.zeroValue4
  t5 := Try.underlying5
  a5 := Try.isAgg5
  z5 := Try.sizeOf5
  v5 := Try.zeroValue5
  t9 := Try.underlying9
  a9 := Try.isAgg9
  z9 := Try.sizeOf9
  v9 := Try.zeroValue9
  t37 := Try.underlying22
  a37 := Try.isAgg22
  z37 := Try.sizeOf22
  v37 := Try.zeroValue22
  t51 := Try.underlying382
  a51 := Try.isAgg382
  z51 := Try.sizeOf382
  v51 := Try.zeroValue382
  t53 := Try.underlying392
  a53 := Try.isAgg392
  z53 := Try.sizeOf392
  v53 := Try.zeroValue392 }
open Go.RowKit Go.Sort Go.Lib in
/-- internal/strconv.formatBase10: "formatBase10 formats the decimal representation of u into a. The caller is responsible for ensuring that a is big enough to hold u. If a is too big, leading zeros will be filled in as needed.": THE ROW HOLDS u's DIGITS ('FmtInv .. 0 ..': every place t holds 'dg u (len - 1 - t)'); all else is as it was but for the count of draws. (LAID: no walk: one application.) -/
theorem Try.internal_strconv_formatBase10 (blk off cap : Nat) (u : Nat) (d : Array UInt8) (w : World) (hH : Holds (fun (b : UInt8) => Value.int .u8 (b.toNat : Int)) w blk off d) (hu : u < 10 ^ d.size) (hu64 : u < 18446744073709551616) (hsz : d.size < 4611686018427387904) :
    Calls Try.prog 281 #[.slice (some ⟨blk, off, none⟩) d.size cap, .int .u64 u] w fun e w' =>
      e = .returned (.tuple #[]) ∧ ∃ (n v' : Nat) (dk : Array UInt8), w' = (putRow (fun (b : UInt8) => Value.int .u8 (b.toNat : Int)) w blk off dk).drewN n ∧ FmtInv d.size u 0 v' dk := Any.internal_strconv_formatBase10 Try.lays285 blk off cap u d w hH hu hu64 hsz
def Try.laysM246_ren : Go.Shelf.Ren := ⟨fun | 246 => 278 | 283 => 279 | 284 => 280 | 285 => 281 | 286 => 282 | 129 => 284 | 317 => 283 | 318 => 285 | 319 => 286 | 320 => 287 | 337 => 288 | 338 => 289 | n => n, fun | 2 => 2 | 3 => 3 | 9 => 9 | 4 => 4 | 171 => 391 | 0 => 0 | 53 => 392 | 37 => 22 | 5 => 5 | 173 => 395 | 212 => 398 | 51 => 382 | 20 => 20 | 213 => 399 | 46 => 368 | 232 => 402 | 233 => 403 | n => n, fun | 17 => 0 | 18 => 1 | 19 => 2 | n => n⟩
theorem Try.laysM246 : Go.Proofs.LaysM.n246 Try.prog Try.laysM246_ren := {
  mixed := by kernel_rfl
  f129 := Try.func284.trans (congrArg some (by kernel_rfl))
  f246 := Try.func278.trans (congrArg some (by kernel_rfl))
  f283 := Try.func279.trans (congrArg some (by kernel_rfl))
  f284 := Try.func280.trans (congrArg some (by kernel_rfl))
  f285 := Try.func281.trans (congrArg some (by kernel_rfl))
  f286 := Try.func282.trans (congrArg some (by kernel_rfl))
  f317 := Try.func283.trans (congrArg some (by kernel_rfl))
  f318 := Try.func285.trans (congrArg some (by kernel_rfl))
  f319 := Try.func286.trans (congrArg some (by kernel_rfl))
  f320 := Try.func287.trans (congrArg some (by kernel_rfl))
  f337 := Try.func288.trans (congrArg some (by kernel_rfl))
  f338 := Try.func289.trans (congrArg some (by kernel_rfl))
  t0 := Try.underlying0
  a0 := Try.isAgg0
  z0 := Try.sizeOf0
  v0 := Try.zeroValue0
  t2 := Try.underlying2
  a2 := Try.isAgg2
  z2 := Try.sizeOf2
  v2 := Try.zeroValue2
  t3 := Try.underlying3
  a3 := Try.isAgg3
  z3 := Try.sizeOf3
  v3 := Try.zeroValue3
  t4 := Try.underlying4
  a4 := Try.isAgg4
  z4 := Try.sizeOf4
  v4 := Try.zeroValue4
  t5 := Try.underlying5
  a5 := Try.isAgg5
  z5 := Try.sizeOf5
  v5 := Try.zeroValue5
  t9 := Try.underlying9
  a9 := Try.isAgg9
  z9 := Try.sizeOf9
  v9 := Try.zeroValue9
  t20 := Try.underlying20
  a20 := Try.isAgg20
  z20 := Try.sizeOf20
  v20 := Try.zeroValue20
  t37 := Try.underlying22
  a37 := Try.isAgg22
  z37 := Try.sizeOf22
  v37 := Try.zeroValue22
  t46 := Try.underlying368
  a46 := Try.isAgg368
  z46 := Try.sizeOf368
  v46 := Try.zeroValue368
  t51 := Try.underlying382
  a51 := Try.isAgg382
  z51 := Try.sizeOf382
  v51 := Try.zeroValue382
  t53 := Try.underlying392
  a53 := Try.isAgg392
  z53 := Try.sizeOf392
  v53 := Try.zeroValue392
  t171 := Try.underlying391
  a171 := Try.isAgg391
  z171 := Try.sizeOf391
  v171 := Try.zeroValue391
  t173 := Try.underlying395
  a173 := Try.isAgg395
  z173 := Try.sizeOf395
  v173 := Try.zeroValue395
  t212 := Try.underlying398
  a212 := Try.isAgg398
  z212 := Try.sizeOf398
  v212 := Try.zeroValue398
  t213 := Try.underlying399
  a213 := Try.isAgg399
  z213 := Try.sizeOf399
  t232 := Try.underlying402
  a232 := Try.isAgg402
  z232 := Try.sizeOf402
  v232 := Try.zeroValue402
  t233 := Try.underlying403
  a233 := Try.isAgg403
  z233 := Try.sizeOf403
  v233 := Try.zeroValue403
  g17 := by kernel_rfl
  g18 := by kernel_rfl
  g19 := by kernel_rfl
  i0 := by kernel_rfl
  i2 := by kernel_rfl
  i3 := by kernel_rfl
  i4 := by kernel_rfl
  i5 := by kernel_rfl
  i9 := by kernel_rfl
  i20 := by kernel_rfl
  i37 := by kernel_rfl
  i46 := by kernel_rfl
  i51 := by kernel_rfl
  i53 := by kernel_rfl
  i171 := by kernel_rfl
  i173 := by kernel_rfl
  i212 := by kernel_rfl
  i232 := by kernel_rfl
  i233 := by kernel_rfl
  m17 := by kernel_rfl
  m18 := by kernel_rfl
  m19 := by kernel_rfl }
open Go.RowKit Go.Sort Go.Lib in
/-- internal/strconv.FormatInt: "FormatInt returns the string representation of i in the given base": AT BASE 10: i's decimal numeral, for every int64. The world behind the call: the world before it, new blocks behind the heap, draws. (LAID: no walk: one application.) -/
theorem Try.internal_strconv_FormatInt_10 (n : Int) (h0 : -9223372036854775808 ≤ n) (h1 : n ≤ 9223372036854775807) (w : World) (htab : Lib.TabIs Try.prog w "internal/strconv.uint64pow10" .u64 Lib.pow10Tab) :
    Calls Try.prog 278 #[.int .i64 n, .int .i64 10] w fun e w' => e = .returned (.string ⟨(Lib.itoa n).toArray⟩) ∧ ∃ k os, w' = grow (w.drewN k) os := Any.internal_strconv_FormatInt_10 Try.laysM246 n h0 h1 w htab
def Try.lays246_ren : Go.Shelf.Ren := ⟨fun | 246 => 278 | 283 => 279 | 284 => 280 | 285 => 281 | 286 => 282 | 129 => 284 | 317 => 283 | 318 => 285 | 319 => 286 | 320 => 287 | 337 => 288 | 338 => 289 | n => n, fun | 2 => 2 | 3 => 3 | 9 => 9 | 4 => 4 | 171 => 391 | 0 => 0 | 53 => 392 | 37 => 22 | 5 => 5 | 173 => 395 | 212 => 398 | 51 => 382 | 20 => 20 | 213 => 399 | 46 => 368 | 232 => 402 | 233 => 403 | n => n, fun | 17 => 0 | 18 => 1 | 19 => 2 | n => n⟩
theorem Try.lays246 : Go.Proofs.Lays.n246 Try.prog Try.lays246_ren := {
  mixed := by kernel_rfl
  f129 := Try.func284.trans (congrArg some (by kernel_rfl))
  f246 := Try.func278.trans (congrArg some (by kernel_rfl))
  f283 := Try.func279.trans (congrArg some (by kernel_rfl))
  f284 := Try.func280.trans (congrArg some (by kernel_rfl))
  f285 := Try.func281.trans (congrArg some (by kernel_rfl))
  f286 := Try.func282.trans (congrArg some (by kernel_rfl))
  f317 := Try.func283.trans (congrArg some (by kernel_rfl))
  f318 := Try.func285.trans (congrArg some (by kernel_rfl))
  f319 := Try.func286.trans (congrArg some (by kernel_rfl))
  f320 := Try.func287.trans (congrArg some (by kernel_rfl))
  f337 := Try.func288.trans (congrArg some (by kernel_rfl))
  f338 := Try.func289.trans (congrArg some (by kernel_rfl))
  t0 := Try.underlying0
  a0 := Try.isAgg0
  z0 := Try.sizeOf0
  v0 := Try.zeroValue0
  t2 := Try.underlying2
  a2 := Try.isAgg2
  z2 := Try.sizeOf2
  v2 := Try.zeroValue2
  t3 := Try.underlying3
  a3 := Try.isAgg3
  z3 := Try.sizeOf3
  v3 := Try.zeroValue3
  t4 := Try.underlying4
  a4 := Try.isAgg4
  z4 := Try.sizeOf4
  v4 := Try.zeroValue4
  t5 := Try.underlying5
  a5 := Try.isAgg5
  z5 := Try.sizeOf5
  v5 := Try.zeroValue5
  t9 := Try.underlying9
  a9 := Try.isAgg9
  z9 := Try.sizeOf9
  v9 := Try.zeroValue9
  t20 := Try.underlying20
  a20 := Try.isAgg20
  z20 := Try.sizeOf20
  v20 := Try.zeroValue20
  t37 := Try.underlying22
  a37 := Try.isAgg22
  z37 := Try.sizeOf22
  v37 := Try.zeroValue22
  t46 := Try.underlying368
  a46 := Try.isAgg368
  z46 := Try.sizeOf368
  v46 := Try.zeroValue368
  t51 := Try.underlying382
  a51 := Try.isAgg382
  z51 := Try.sizeOf382
  v51 := Try.zeroValue382
  t53 := Try.underlying392
  a53 := Try.isAgg392
  z53 := Try.sizeOf392
  v53 := Try.zeroValue392
  t171 := Try.underlying391
  a171 := Try.isAgg391
  z171 := Try.sizeOf391
  v171 := Try.zeroValue391
  t173 := Try.underlying395
  a173 := Try.isAgg395
  z173 := Try.sizeOf395
  v173 := Try.zeroValue395
  t212 := Try.underlying398
  a212 := Try.isAgg398
  z212 := Try.sizeOf398
  v212 := Try.zeroValue398
  t213 := Try.underlying399
  a213 := Try.isAgg399
  z213 := Try.sizeOf399
  t232 := Try.underlying402
  a232 := Try.isAgg402
  z232 := Try.sizeOf402
  v232 := Try.zeroValue402
  t233 := Try.underlying403
  a233 := Try.isAgg403
  z233 := Try.sizeOf403
  v233 := Try.zeroValue403
  g17 := by kernel_rfl
  g18 := by kernel_rfl
  g19 := by kernel_rfl }
open Go.RowKit Go.Sort Go.Lib in
/-- THE ROAD WITHOUT THE TABLE: 0 <= i < 100: two constants are read, nothing is laid: no premise on the world, and the world is as it was. (LAID: no walk: one application.) -/
theorem Try.internal_strconv_FormatInt_10_small (i : Nat) (hi : i < 100) (w : World) :
    Calls Try.prog 278 #[.int .i64 i, .int .i64 10] w fun e w' => e = .returned (.string ⟨(Lib.decDigits i).toArray⟩) ∧ w' = w := Any.internal_strconv_FormatInt_10_small Try.lays246 i hi w
def Try.laysM243_ren : Go.Shelf.Ren := ⟨fun | 243 => 277 | 246 => 278 | 283 => 279 | 284 => 280 | 285 => 281 | 286 => 282 | 129 => 284 | 317 => 283 | 318 => 285 | 319 => 286 | 320 => 287 | 337 => 288 | 338 => 289 | n => n, fun | 3 => 3 | 9 => 9 | 2 => 2 | 4 => 4 | 171 => 391 | 0 => 0 | 53 => 392 | 37 => 22 | 5 => 5 | 173 => 395 | 212 => 398 | 51 => 382 | 20 => 20 | 213 => 399 | 46 => 368 | 232 => 402 | 233 => 403 | n => n, fun | 17 => 0 | 18 => 1 | 19 => 2 | n => n⟩
theorem Try.laysM243 : Go.Proofs.LaysM.n243 Try.prog Try.laysM243_ren := {
  mixed := by kernel_rfl
  f129 := Try.func284.trans (congrArg some (by kernel_rfl))
  f243 := Try.func277.trans (congrArg some (by kernel_rfl))
  f246 := Try.func278.trans (congrArg some (by kernel_rfl))
  f283 := Try.func279.trans (congrArg some (by kernel_rfl))
  f284 := Try.func280.trans (congrArg some (by kernel_rfl))
  f285 := Try.func281.trans (congrArg some (by kernel_rfl))
  f286 := Try.func282.trans (congrArg some (by kernel_rfl))
  f317 := Try.func283.trans (congrArg some (by kernel_rfl))
  f318 := Try.func285.trans (congrArg some (by kernel_rfl))
  f319 := Try.func286.trans (congrArg some (by kernel_rfl))
  f320 := Try.func287.trans (congrArg some (by kernel_rfl))
  f337 := Try.func288.trans (congrArg some (by kernel_rfl))
  f338 := Try.func289.trans (congrArg some (by kernel_rfl))
  t0 := Try.underlying0
  a0 := Try.isAgg0
  z0 := Try.sizeOf0
  v0 := Try.zeroValue0
  t2 := Try.underlying2
  a2 := Try.isAgg2
  z2 := Try.sizeOf2
  v2 := Try.zeroValue2
  t3 := Try.underlying3
  a3 := Try.isAgg3
  z3 := Try.sizeOf3
  v3 := Try.zeroValue3
  t4 := Try.underlying4
  a4 := Try.isAgg4
  z4 := Try.sizeOf4
  v4 := Try.zeroValue4
  t5 := Try.underlying5
  a5 := Try.isAgg5
  z5 := Try.sizeOf5
  v5 := Try.zeroValue5
  t9 := Try.underlying9
  a9 := Try.isAgg9
  z9 := Try.sizeOf9
  v9 := Try.zeroValue9
  t20 := Try.underlying20
  a20 := Try.isAgg20
  z20 := Try.sizeOf20
  v20 := Try.zeroValue20
  t37 := Try.underlying22
  a37 := Try.isAgg22
  z37 := Try.sizeOf22
  v37 := Try.zeroValue22
  t46 := Try.underlying368
  a46 := Try.isAgg368
  z46 := Try.sizeOf368
  v46 := Try.zeroValue368
  t51 := Try.underlying382
  a51 := Try.isAgg382
  z51 := Try.sizeOf382
  v51 := Try.zeroValue382
  t53 := Try.underlying392
  a53 := Try.isAgg392
  z53 := Try.sizeOf392
  v53 := Try.zeroValue392
  t171 := Try.underlying391
  a171 := Try.isAgg391
  z171 := Try.sizeOf391
  v171 := Try.zeroValue391
  t173 := Try.underlying395
  a173 := Try.isAgg395
  z173 := Try.sizeOf395
  v173 := Try.zeroValue395
  t212 := Try.underlying398
  a212 := Try.isAgg398
  z212 := Try.sizeOf398
  v212 := Try.zeroValue398
  t213 := Try.underlying399
  a213 := Try.isAgg399
  z213 := Try.sizeOf399
  t232 := Try.underlying402
  a232 := Try.isAgg402
  z232 := Try.sizeOf402
  v232 := Try.zeroValue402
  t233 := Try.underlying403
  a233 := Try.isAgg403
  z233 := Try.sizeOf403
  v233 := Try.zeroValue403
  g17 := by kernel_rfl
  g18 := by kernel_rfl
  g19 := by kernel_rfl
  i0 := by kernel_rfl
  i2 := by kernel_rfl
  i3 := by kernel_rfl
  i4 := by kernel_rfl
  i5 := by kernel_rfl
  i9 := by kernel_rfl
  i20 := by kernel_rfl
  i37 := by kernel_rfl
  i46 := by kernel_rfl
  i51 := by kernel_rfl
  i53 := by kernel_rfl
  i171 := by kernel_rfl
  i173 := by kernel_rfl
  i212 := by kernel_rfl
  i232 := by kernel_rfl
  i233 := by kernel_rfl
  m17 := by kernel_rfl
  m18 := by kernel_rfl
  m19 := by kernel_rfl }
open Go.RowKit Go.Sort Go.Lib in
/-- internal/strconv.Itoa: "Itoa is equivalent to FormatInt(int64(i), 10).": i's decimal numeral, for every int. (LAID: no walk: one application.) -/
theorem Try.internal_strconv_Itoa (n : Int) (h0 : -9223372036854775808 ≤ n) (h1 : n ≤ 9223372036854775807) (w : World) (htab : Lib.TabIs Try.prog w "internal/strconv.uint64pow10" .u64 Lib.pow10Tab) :
    Calls Try.prog 277 #[.int .i64 n] w fun e w' => e = .returned (.string ⟨(Lib.itoa n).toArray⟩) ∧ ∃ k os, w' = grow (w.drewN k) os := Any.internal_strconv_Itoa Try.laysM243 n h0 h1 w htab
def Try.lays243_ren : Go.Shelf.Ren := ⟨fun | 243 => 277 | 246 => 278 | 283 => 279 | 284 => 280 | 285 => 281 | 286 => 282 | 129 => 284 | 317 => 283 | 318 => 285 | 319 => 286 | 320 => 287 | 337 => 288 | 338 => 289 | n => n, fun | 3 => 3 | 9 => 9 | 2 => 2 | 4 => 4 | 171 => 391 | 0 => 0 | 53 => 392 | 37 => 22 | 5 => 5 | 173 => 395 | 212 => 398 | 51 => 382 | 20 => 20 | 213 => 399 | 46 => 368 | 232 => 402 | 233 => 403 | n => n, fun | 17 => 0 | 18 => 1 | 19 => 2 | n => n⟩
theorem Try.lays243 : Go.Proofs.Lays.n243 Try.prog Try.lays243_ren := {
  mixed := by kernel_rfl
  f129 := Try.func284.trans (congrArg some (by kernel_rfl))
  f243 := Try.func277.trans (congrArg some (by kernel_rfl))
  f246 := Try.func278.trans (congrArg some (by kernel_rfl))
  f283 := Try.func279.trans (congrArg some (by kernel_rfl))
  f284 := Try.func280.trans (congrArg some (by kernel_rfl))
  f285 := Try.func281.trans (congrArg some (by kernel_rfl))
  f286 := Try.func282.trans (congrArg some (by kernel_rfl))
  f317 := Try.func283.trans (congrArg some (by kernel_rfl))
  f318 := Try.func285.trans (congrArg some (by kernel_rfl))
  f319 := Try.func286.trans (congrArg some (by kernel_rfl))
  f320 := Try.func287.trans (congrArg some (by kernel_rfl))
  f337 := Try.func288.trans (congrArg some (by kernel_rfl))
  f338 := Try.func289.trans (congrArg some (by kernel_rfl))
  t0 := Try.underlying0
  a0 := Try.isAgg0
  z0 := Try.sizeOf0
  v0 := Try.zeroValue0
  t2 := Try.underlying2
  a2 := Try.isAgg2
  z2 := Try.sizeOf2
  v2 := Try.zeroValue2
  t3 := Try.underlying3
  a3 := Try.isAgg3
  z3 := Try.sizeOf3
  v3 := Try.zeroValue3
  t4 := Try.underlying4
  a4 := Try.isAgg4
  z4 := Try.sizeOf4
  v4 := Try.zeroValue4
  t5 := Try.underlying5
  a5 := Try.isAgg5
  z5 := Try.sizeOf5
  v5 := Try.zeroValue5
  t9 := Try.underlying9
  a9 := Try.isAgg9
  z9 := Try.sizeOf9
  v9 := Try.zeroValue9
  t20 := Try.underlying20
  a20 := Try.isAgg20
  z20 := Try.sizeOf20
  v20 := Try.zeroValue20
  t37 := Try.underlying22
  a37 := Try.isAgg22
  z37 := Try.sizeOf22
  v37 := Try.zeroValue22
  t46 := Try.underlying368
  a46 := Try.isAgg368
  z46 := Try.sizeOf368
  v46 := Try.zeroValue368
  t51 := Try.underlying382
  a51 := Try.isAgg382
  z51 := Try.sizeOf382
  v51 := Try.zeroValue382
  t53 := Try.underlying392
  a53 := Try.isAgg392
  z53 := Try.sizeOf392
  v53 := Try.zeroValue392
  t171 := Try.underlying391
  a171 := Try.isAgg391
  z171 := Try.sizeOf391
  v171 := Try.zeroValue391
  t173 := Try.underlying395
  a173 := Try.isAgg395
  z173 := Try.sizeOf395
  v173 := Try.zeroValue395
  t212 := Try.underlying398
  a212 := Try.isAgg398
  z212 := Try.sizeOf398
  v212 := Try.zeroValue398
  t213 := Try.underlying399
  a213 := Try.isAgg399
  z213 := Try.sizeOf399
  t232 := Try.underlying402
  a232 := Try.isAgg402
  z232 := Try.sizeOf402
  v232 := Try.zeroValue402
  t233 := Try.underlying403
  a233 := Try.isAgg403
  z233 := Try.sizeOf403
  v233 := Try.zeroValue403
  g17 := by kernel_rfl
  g18 := by kernel_rfl
  g19 := by kernel_rfl }
open Go.RowKit Go.Sort Go.Lib in
/-- THE ROAD WITHOUT THE TABLE: 0 <= i < 100. (LAID: no walk: one application.) -/
theorem Try.internal_strconv_Itoa_small (i : Nat) (hi : i < 100) (w : World) :
    Calls Try.prog 277 #[.int .i64 i] w fun e w' => e = .returned (.string ⟨(Lib.decDigits i).toArray⟩) ∧ w' = w := Any.internal_strconv_Itoa_small Try.lays243 i hi w
def Try.laysM171_ren : Go.Shelf.Ren := ⟨fun | 171 => 276 | 243 => 277 | 246 => 278 | 283 => 279 | 284 => 280 | 285 => 281 | 286 => 282 | 129 => 284 | 317 => 283 | 318 => 285 | 319 => 286 | 320 => 287 | 337 => 288 | 338 => 289 | n => n, fun | 3 => 3 | 9 => 9 | 2 => 2 | 4 => 4 | 171 => 391 | 0 => 0 | 53 => 392 | 37 => 22 | 5 => 5 | 173 => 395 | 212 => 398 | 51 => 382 | 20 => 20 | 213 => 399 | 46 => 368 | 232 => 402 | 233 => 403 | n => n, fun | 17 => 0 | 18 => 1 | 19 => 2 | n => n⟩
theorem Try.laysM171 : Go.Proofs.LaysM.n171 Try.prog Try.laysM171_ren := {
  mixed := by kernel_rfl
  f129 := Try.func284.trans (congrArg some (by kernel_rfl))
  f171 := Try.func276.trans (congrArg some (by kernel_rfl))
  f243 := Try.func277.trans (congrArg some (by kernel_rfl))
  f246 := Try.func278.trans (congrArg some (by kernel_rfl))
  f283 := Try.func279.trans (congrArg some (by kernel_rfl))
  f284 := Try.func280.trans (congrArg some (by kernel_rfl))
  f285 := Try.func281.trans (congrArg some (by kernel_rfl))
  f286 := Try.func282.trans (congrArg some (by kernel_rfl))
  f317 := Try.func283.trans (congrArg some (by kernel_rfl))
  f318 := Try.func285.trans (congrArg some (by kernel_rfl))
  f319 := Try.func286.trans (congrArg some (by kernel_rfl))
  f320 := Try.func287.trans (congrArg some (by kernel_rfl))
  f337 := Try.func288.trans (congrArg some (by kernel_rfl))
  f338 := Try.func289.trans (congrArg some (by kernel_rfl))
  t0 := Try.underlying0
  a0 := Try.isAgg0
  z0 := Try.sizeOf0
  v0 := Try.zeroValue0
  t2 := Try.underlying2
  a2 := Try.isAgg2
  z2 := Try.sizeOf2
  v2 := Try.zeroValue2
  t3 := Try.underlying3
  a3 := Try.isAgg3
  z3 := Try.sizeOf3
  v3 := Try.zeroValue3
  t4 := Try.underlying4
  a4 := Try.isAgg4
  z4 := Try.sizeOf4
  v4 := Try.zeroValue4
  t5 := Try.underlying5
  a5 := Try.isAgg5
  z5 := Try.sizeOf5
  v5 := Try.zeroValue5
  t9 := Try.underlying9
  a9 := Try.isAgg9
  z9 := Try.sizeOf9
  v9 := Try.zeroValue9
  t20 := Try.underlying20
  a20 := Try.isAgg20
  z20 := Try.sizeOf20
  v20 := Try.zeroValue20
  t37 := Try.underlying22
  a37 := Try.isAgg22
  z37 := Try.sizeOf22
  v37 := Try.zeroValue22
  t46 := Try.underlying368
  a46 := Try.isAgg368
  z46 := Try.sizeOf368
  v46 := Try.zeroValue368
  t51 := Try.underlying382
  a51 := Try.isAgg382
  z51 := Try.sizeOf382
  v51 := Try.zeroValue382
  t53 := Try.underlying392
  a53 := Try.isAgg392
  z53 := Try.sizeOf392
  v53 := Try.zeroValue392
  t171 := Try.underlying391
  a171 := Try.isAgg391
  z171 := Try.sizeOf391
  v171 := Try.zeroValue391
  t173 := Try.underlying395
  a173 := Try.isAgg395
  z173 := Try.sizeOf395
  v173 := Try.zeroValue395
  t212 := Try.underlying398
  a212 := Try.isAgg398
  z212 := Try.sizeOf398
  v212 := Try.zeroValue398
  t213 := Try.underlying399
  a213 := Try.isAgg399
  z213 := Try.sizeOf399
  t232 := Try.underlying402
  a232 := Try.isAgg402
  z232 := Try.sizeOf402
  v232 := Try.zeroValue402
  t233 := Try.underlying403
  a233 := Try.isAgg403
  z233 := Try.sizeOf403
  v233 := Try.zeroValue403
  g17 := by kernel_rfl
  g18 := by kernel_rfl
  g19 := by kernel_rfl
  i0 := by kernel_rfl
  i2 := by kernel_rfl
  i3 := by kernel_rfl
  i4 := by kernel_rfl
  i5 := by kernel_rfl
  i9 := by kernel_rfl
  i20 := by kernel_rfl
  i37 := by kernel_rfl
  i46 := by kernel_rfl
  i51 := by kernel_rfl
  i53 := by kernel_rfl
  i171 := by kernel_rfl
  i173 := by kernel_rfl
  i212 := by kernel_rfl
  i232 := by kernel_rfl
  i233 := by kernel_rfl
  m17 := by kernel_rfl
  m18 := by kernel_rfl
  m19 := by kernel_rfl }
open Go.RowKit Go.Sort Go.Lib in
/-- strconv.Itoa: "Itoa is equivalent to FormatInt(int64(i), 10).": i's DECIMAL NUMERAL ('Lib.itoa': a '-' where i is negative, then the digits), FOR EVERY int. The world behind the call: the world before it, new blocks behind the heap (the library's 'var a [24]byte'), draws. (LAID: no walk: one application.) -/
theorem Try.strconv_Itoa (n : Int) (h0 : -9223372036854775808 ≤ n) (h1 : n ≤ 9223372036854775807) (w : World) (htab : Lib.TabIs Try.prog w "internal/strconv.uint64pow10" .u64 Lib.pow10Tab) :
    Calls Try.prog 276 #[.int .i64 n] w fun e w' => e = .returned (.string ⟨(Lib.itoa n).toArray⟩) ∧ ∃ k os, w' = grow (w.drewN k) os := Any.strconv_Itoa Try.laysM171 n h0 h1 w htab
def Try.lays171_ren : Go.Shelf.Ren := ⟨fun | 171 => 276 | 243 => 277 | 246 => 278 | 283 => 279 | 284 => 280 | 285 => 281 | 286 => 282 | 129 => 284 | 317 => 283 | 318 => 285 | 319 => 286 | 320 => 287 | 337 => 288 | 338 => 289 | n => n, fun | 3 => 3 | 9 => 9 | 2 => 2 | 4 => 4 | 171 => 391 | 0 => 0 | 53 => 392 | 37 => 22 | 5 => 5 | 173 => 395 | 212 => 398 | 51 => 382 | 20 => 20 | 213 => 399 | 46 => 368 | 232 => 402 | 233 => 403 | n => n, fun | 17 => 0 | 18 => 1 | 19 => 2 | n => n⟩
theorem Try.lays171 : Go.Proofs.Lays.n171 Try.prog Try.lays171_ren := {
  mixed := by kernel_rfl
  f129 := Try.func284.trans (congrArg some (by kernel_rfl))
  f171 := Try.func276.trans (congrArg some (by kernel_rfl))
  f243 := Try.func277.trans (congrArg some (by kernel_rfl))
  f246 := Try.func278.trans (congrArg some (by kernel_rfl))
  f283 := Try.func279.trans (congrArg some (by kernel_rfl))
  f284 := Try.func280.trans (congrArg some (by kernel_rfl))
  f285 := Try.func281.trans (congrArg some (by kernel_rfl))
  f286 := Try.func282.trans (congrArg some (by kernel_rfl))
  f317 := Try.func283.trans (congrArg some (by kernel_rfl))
  f318 := Try.func285.trans (congrArg some (by kernel_rfl))
  f319 := Try.func286.trans (congrArg some (by kernel_rfl))
  f320 := Try.func287.trans (congrArg some (by kernel_rfl))
  f337 := Try.func288.trans (congrArg some (by kernel_rfl))
  f338 := Try.func289.trans (congrArg some (by kernel_rfl))
  t0 := Try.underlying0
  a0 := Try.isAgg0
  z0 := Try.sizeOf0
  v0 := Try.zeroValue0
  t2 := Try.underlying2
  a2 := Try.isAgg2
  z2 := Try.sizeOf2
  v2 := Try.zeroValue2
  t3 := Try.underlying3
  a3 := Try.isAgg3
  z3 := Try.sizeOf3
  v3 := Try.zeroValue3
  t4 := Try.underlying4
  a4 := Try.isAgg4
  z4 := Try.sizeOf4
  v4 := Try.zeroValue4
  t5 := Try.underlying5
  a5 := Try.isAgg5
  z5 := Try.sizeOf5
  v5 := Try.zeroValue5
  t9 := Try.underlying9
  a9 := Try.isAgg9
  z9 := Try.sizeOf9
  v9 := Try.zeroValue9
  t20 := Try.underlying20
  a20 := Try.isAgg20
  z20 := Try.sizeOf20
  v20 := Try.zeroValue20
  t37 := Try.underlying22
  a37 := Try.isAgg22
  z37 := Try.sizeOf22
  v37 := Try.zeroValue22
  t46 := Try.underlying368
  a46 := Try.isAgg368
  z46 := Try.sizeOf368
  v46 := Try.zeroValue368
  t51 := Try.underlying382
  a51 := Try.isAgg382
  z51 := Try.sizeOf382
  v51 := Try.zeroValue382
  t53 := Try.underlying392
  a53 := Try.isAgg392
  z53 := Try.sizeOf392
  v53 := Try.zeroValue392
  t171 := Try.underlying391
  a171 := Try.isAgg391
  z171 := Try.sizeOf391
  v171 := Try.zeroValue391
  t173 := Try.underlying395
  a173 := Try.isAgg395
  z173 := Try.sizeOf395
  v173 := Try.zeroValue395
  t212 := Try.underlying398
  a212 := Try.isAgg398
  z212 := Try.sizeOf398
  v212 := Try.zeroValue398
  t213 := Try.underlying399
  a213 := Try.isAgg399
  z213 := Try.sizeOf399
  t232 := Try.underlying402
  a232 := Try.isAgg402
  z232 := Try.sizeOf402
  v232 := Try.zeroValue402
  t233 := Try.underlying403
  a233 := Try.isAgg403
  z233 := Try.sizeOf403
  v233 := Try.zeroValue403
  g17 := by kernel_rfl
  g18 := by kernel_rfl
  g19 := by kernel_rfl }
open Go.RowKit Go.Sort Go.Lib in
/-- THE ROAD WITHOUT THE TABLE: 0 <= i < 100: NO PREMISE ON THE WORLD, AND THE WORLD IS AS IT WAS: a row that keeps its argument in that range need list no table ('laid = []'). (LAID: no walk: one application.) -/
theorem Try.strconv_Itoa_small (i : Nat) (hi : i < 100) (w : World) :
    Calls Try.prog 276 #[.int .i64 i] w fun e w' => e = .returned (.string ⟨(Lib.decDigits i).toArray⟩) ∧ w' = w := Any.strconv_Itoa_small Try.lays171 i hi w
def Try.lays111_ren : Go.Shelf.Ren := ⟨fun | 111 => 154 | n => n, fun | 28 => 31 | 3 => 3 | 4 => 4 | 0 => 0 | n => n, fun | n => n⟩
theorem Try.lays111 : Go.Proofs.Lays.n111 Try.prog Try.lays111_ren := {
  mixed := by kernel_rfl
  f111 := Try.func154.trans (congrArg some (by kernel_rfl))
  t0 := Try.underlying0
  a0 := Try.isAgg0
  z0 := Try.sizeOf0
  v0 := Try.zeroValue0
  t3 := Try.underlying3
  a3 := Try.isAgg3
  z3 := Try.sizeOf3
  v3 := Try.zeroValue3
  t4 := Try.underlying4
  a4 := Try.isAgg4
  z4 := Try.sizeOf4
  v4 := Try.zeroValue4
  t28 := Try.underlying31
  a28 := Try.isAgg31
  z28 := Try.sizeOf31
  v28 := Try.zeroValue31 }
open Go.RowKit Go.Lib in
/-- slices.Equal at []int: "Equal reports whether two slices are equal: the same length and all elements equal. If the lengths are different, Equal returns false. Otherwise, the elements are compared in increasing index order, and the comparison stops at the first unequal pair. Empty and nil slices are considered equal.": IT RETURNS WHETHER THE TWO LISTS OF ELEMENTS ARE ONE; the world is as it was but for the count of draws (the test 's1[i] != s2[i]' has two reads, whose order the model draws, once a round). 'xs', 'ys': what the cells behind the two addresses hold (the spare capacity too, if you have it); 'xs.take n', 'ys.take m': the elements. THE TWO SLICES MAY OVERLAP. (LAID: no walk: one application.) -/
theorem Try.slices_Equal_int (b1 o1 n c b2 o2 m d : Nat) (xs ys : List Int) (w : World) (hx : n ≤ xs.length) (hy : m ≤ ys.length) (hbig : n ≤ 9223372036854775807) (hbig2 : m ≤ 9223372036854775807) (hc1 : ∀ j, j < xs.length → w.cell? ⟨b1, o1 + j, none⟩ = some (.int .i64 (xs.getD j 0))) (hc2 : ∀ j, j < ys.length → w.cell? ⟨b2, o2 + j, none⟩ = some (.int .i64 (ys.getD j 0))) :
    Calls Try.prog 154 #[.slice (some ⟨b1, o1, none⟩) n c, .slice (some ⟨b2, o2, none⟩) m d] w fun e w' => e = .returned (.bool (xs.take n == ys.take m)) ∧ ∃ q, w' = w.drewN q := Any.slices_Equal_int Try.lays111 b1 o1 n c b2 o2 m d xs ys w hx hy hbig hbig2 hc1 hc2
open Go.RowKit Go.Lib in
/-- The same where the first is of length 0 (a nil one too): no cell is asked for. (LAID: no walk: one application.) -/
theorem Try.slices_Equal_int_empty (a1 a2 : Option Addr) (c m d : Nat) (w : World) (hbig2 : m ≤ 9223372036854775807) :
    Calls Try.prog 154 #[.slice a1 0 c, .slice a2 m d] w fun e w' => e = .returned (.bool (decide (m = 0))) ∧ w' = w := Any.slices_Equal_int_empty Try.lays111 a1 a2 c m d w hbig2
end Go.Proofs
