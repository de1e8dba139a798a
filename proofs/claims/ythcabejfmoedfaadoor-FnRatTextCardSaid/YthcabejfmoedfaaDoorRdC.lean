/- The law FnExactRatRead: the walk. -/
import Derived.Test.YthcabejfmoedfaaDoorRdB
import Derived.Test.YthcabejfmoedfaaDoorLawK
namespace Go.Proofs.YthcabejfmoedfaaDoor
set_option linter.unusedVariables false
set_option linter.unusedSimpArgs false
open Go.Shelf Go.RowKit Go.Joins
/-- both answer alike -/
theorem rdp_two {s : ByteArray} {e e' : Ending} (h : RdP s e) (h' : RdP s e') : ∃ (n d : Int) (b : Bool), e = .returned (.tuple #[.agg #[.int .i64 n, .int .i64 d], .bool b]) ∧ e' = .returned (.tuple #[.agg #[.int .i64 n, .int .i64 d], .bool b]) := by
  rcases h with ⟨n, d, h1, rfl⟩ | ⟨h1, rfl⟩ <;> rcases h' with ⟨n', d', h2, rfl⟩ | ⟨h2, rfl⟩
  · obtain ⟨rfl, rfl⟩ := rd_inj h1 h2; exact ⟨_, _, _, rfl, rfl⟩
  · exact absurd h1 (h2 _ _)
  · exact absurd h2 (h1 _ _)
  · exact ⟨_, _, _, rfl, rfl⟩
set_option maxRecDepth 100000 in
set_option maxHeartbeats 4000000 in
theorem walk_ExactRatRead (s : ByteArray) (w : World) (hs : s.size ≤ 9223372036854775807) (htab : Lib.TabIs Tryd.prog w "internal/strconv.uint64pow10" .u64 Lib.pow10Tab) (hm : MaxAt w) (h1 : ErrAt w 1) (h2 : ErrAt w 2) :
    Calls Tryd.prog 3 #[.string s] w fun e w' => e = .returned (.bool true) ∧ Below w.heap.size w w' := by
  by_cases hbig : 1048576 < s.size
  · go_enter Tryd.func3, Tryd.ntmps3
    go_wp2
    go_ret
    exact ⟨rfl, Below.refl _ _⟩
  go_enter Tryd.func3, Tryd.ntmps3
  go_wp2_with fail
  refine (sread_any s w (by omega)).mono ?_
  rintro e w1 ⟨hp, hq⟩
  have hR := fun W (hb : Below w.heap.size w W) => ratread_any s W (by omega) (tab_keep htab hb) (hm.below hb) (h1.below hb) (h2.below hb)
  clear htab hm h1 h2
  rcases hp with ⟨n, d, hk, rfl⟩ | ⟨hk, rfl⟩
  · skip
    obtain ⟨a0, a1⟩ := pair_new w1 (.int .i64 n) (.int .i64 d) 23
    have q0 := bal hq (.cells #[.int .i64 n, .int .i64 d] 23)
    replace hR := hR _ q0
    go_wp2_with fail
    refine hR.mono ?_
    rintro e w2 ⟨hp2, hq2⟩
    obtain rfl : e = .returned (.tuple #[.agg #[.int .i64 n, .int .i64 d], .bool true]) := by
      rcases hp2 with ⟨n', d', h2, rfl⟩ | ⟨h2, rfl⟩
      · obtain ⟨rfl, rfl⟩ := rd_inj hk h2; rfl
      · exact absurd hk (h2 _ _)
    replace a0 := carryA (.cells #[.int .i64 n, .int .i64 d] 23) (carry hq2 a0)
    replace a1 := carryA (.cells #[.int .i64 n, .int .i64 d] 23) (carry hq2 a1)
    obtain ⟨b0, b1⟩ := pair_new w2 (.int .i64 n) (.int .i64 d) 23
    replace q0 := bal (btr q0 hq2) (.cells #[.int .i64 n, .int .i64 d] 23)
    clear hp2 hR hq hq2 hk
    have hsz := cell_lt a0
    have hszB := cell_lt b0
    go_wp2_with fail
    refine (eqrat_any _ _ _).mono ?_
    rintro e w3 ⟨rfl, hq⟩
    go_wp2
    go_ret
    exact ⟨rfl, btr q0 hq⟩
  · skip
    obtain ⟨a0, a1⟩ := pair_new w1 (.int .i64 0) (.int .i64 0) 23
    have q0 := bal hq (.cells #[.int .i64 0, .int .i64 0] 23)
    replace hR := hR _ q0
    go_wp2_with fail
    refine hR.mono ?_
    rintro e w2 ⟨hp2, hq2⟩
    obtain rfl : e = .returned (.tuple #[.agg #[.int .i64 0, .int .i64 0], .bool false]) := by
      rcases hp2 with ⟨n', d', h2, rfl⟩ | ⟨h2, rfl⟩
      · exact absurd h2 (hk _ _)
      · rfl
    replace a0 := carryA (.cells #[.int .i64 0, .int .i64 0] 23) (carry hq2 a0)
    replace a1 := carryA (.cells #[.int .i64 0, .int .i64 0] 23) (carry hq2 a1)
    obtain ⟨b0, b1⟩ := pair_new w2 (.int .i64 0) (.int .i64 0) 23
    replace q0 := bal (btr q0 hq2) (.cells #[.int .i64 0, .int .i64 0] 23)
    clear hp2 hR hq hq2 hk
    have hsz := cell_lt a0
    have hszB := cell_lt b0
    go_wp2_with fail
    refine (eqrat_any _ _ _).mono ?_
    rintro e w3 ⟨rfl, hq⟩
    go_wp2
    go_ret
    exact ⟨rfl, btr q0 hq⟩
end Go.Proofs.YthcabejfmoedfaaDoor
