/- The law FnRatText: the walk. -/
import Derived.Test.YthcabejfmoedfaaDoorRdD
import Derived.Test.YthcabejfmoedfaaDoorRdC
import Derived.Test.YthcabejfmoedfaaDoorByt
namespace Go.Proofs.YthcabejfmoedfaaDoor
set_option linter.unusedVariables false
set_option linter.unusedSimpArgs false
open Go.Shelf Go.RowKit Go.Joins
theorem eqrat_run2 (x y u v : Int) (w : World) : (Op.equalIn 10000 23 (.agg #[.int .i64 x, .int .i64 y]) (.agg #[.int .i64 u, .int .i64 v])).run Tryd.prog w = .ok (x == u && y == v) w := by
  have u3 := Tryd.underlying3
  have a3 := Tryd.isAgg3
  have z3 := Tryd.sizeOf3
  rw [show (10000 : Nat) = 9999 + 1 from rfl, Op.equalIn]
  simp only [Sem.run_bind, run_underlying Tryd.underlying23, Result.andThen_ok]
  by_cases h0 : x = u <;> by_cases h1 : y = v <;> simp [go_sem, u3, a3, z3, h0, h1]
theorem rd_empty {n d : Int} : ¬ RdOk ⟨(([] : List UInt8)).toArray⟩ n d := by
  intro h
  have hne : ∀ m : Int, Lib.itoa m ≠ [] := fun m he => by
    by_cases h0 : m < 0
    · rw [itoa_neg h0] at he; cases he
    · obtain ⟨k, rfl⟩ : ∃ k : Nat, m = (k : Int) := ⟨m.toNat, by omega⟩
      rw [itoa_nat] at he
      obtain ⟨c, r, e, _⟩ := dec_head k
      rw [e] at he; cases he
  rcases rd_split h with ⟨_, h2⟩ | ⟨_, h2⟩
  · exact hne n h2.symm
  · rw [bytes_list] at h2
    exact hne n (List.append_eq_nil_iff.1 h2.symm).1
/-- what RatRead answers at what RatText writes -/
theorem rdp_txt {x y : Int} {e : Ending} (h : RdP ⟨(ratTxt x y).toArray⟩ e) : ∃ n d : Int, e = .returned (.tuple #[.agg #[.int .i64 n, .int .i64 d], .bool (okB x y)]) ∧ (okB x y = true → n = x ∧ d = y) := by
  cases hv : okB x y
  · have e0 : ratTxt x y = [] := by unfold ratTxt; rw [if_neg (by simp [hv])]
    rw [e0] at h
    rcases h with ⟨n, d, h1, rfl⟩ | ⟨h1, rfl⟩
    · exact absurd h1 rd_empty
    · exact ⟨0, 0, rfl, fun h => by cases h⟩
  · have h0 : RdOk ⟨(ratTxt x y).toArray⟩ x y := ⟨hv, rfl⟩
    rcases h with ⟨n, d, h1, rfl⟩ | ⟨h1, rfl⟩
    · obtain ⟨rfl, rfl⟩ := rd_inj h1 h0; exact ⟨_, _, rfl, fun _ => ⟨rfl, rfl⟩⟩
    · exact absurd h0 (h1 _ _)
theorem ratok_at2 (n d : Int) (w : World) {v : Bool} (h : okB n d = v) :
    Calls Tryd.prog 18 #[.agg #[.int .i64 n, .int .i64 d]] w fun e w' => e = .returned (.bool v) ∧ Below w.heap.size w w' := by
  have hv := fun W => valid_at n d W h
  go_enter Tryd.func18, Tryd.ntmps18
  go_wp2_with fail
  refine (hv _).mono ?_
  rintro e w1 ⟨rfl, hb⟩
  go_wp2
  go_ret
  exact ⟨rfl, btr (bal (Below.refl _ _) _) hb⟩
set_option maxRecDepth 100000 in
set_option maxHeartbeats 8000000 in
theorem walk_RatText (a0 : Option Addr) (len0 cap0 : Nat) (a1 : Option Addr) (len1 cap1 : Nat) (w : World) (hby : Bytes w.heap.size w a0 len0) (hlc : len0 ≤ cap0) (hc : cap0 ≤ 9223372036854775807) (hby1 : Bytes w.heap.size w a1 len1) (hlc1 : len1 ≤ cap1) (hc1 : cap1 ≤ 9223372036854775807)
    (htab : Lib.TabIs Tryd.prog w "internal/strconv.uint64pow10" .u64 Lib.pow10Tab) (hm : MaxAt w) (h1 : ErrAt w 1) (h2 : ErrAt w 2) :
    Calls Tryd.prog 4 #[.slice a0 len0 cap0, .slice a1 len1 cap1] w fun e w' => e = .returned (.bool true) ∧ Below w.heap.size w w' := by
  by_cases hbig : 1048576 < len0
  · go_enter Tryd.func4, Tryd.ntmps4
    go_wp2
    go_ret
    exact ⟨rfl, Below.refl _ _⟩
  by_cases hbig1 : 1048576 < len1
  · go_enter Tryd.func4, Tryd.ntmps4
    go_wp2
    go_ret
    exact ⟨rfl, Below.refl _ _⟩
  have hT := hid (fun W (hb : Below w.heap.size w W) => tab_keep htab hb)
  have hM := hid (fun W (hb : Below w.heap.size w W) => hm.below hb)
  have hE1 := hid (fun W (hb : Below w.heap.size w W) => h1.below hb)
  have hE2 := hid (fun W (hb : Below w.heap.size w W) => h2.below hb)
  have hB1 := hid (fun W (hb : Below w.heap.size w W) => hby1.below hb)
  clear htab hm h1 h2 hby1
  go_enter Tryd.func4, Tryd.ntmps4
  go_wp2_with fail
  refine (drawrattext_any w.heap.size w a0 len0 cap0 (Nat.le_refl _) hby hlc hc).mono ?_
  rintro e w1 ⟨x, y, rfl, hq⟩
  clear hby hlc hc hbig
  obtain ⟨p0, p1⟩ := pair_new w1 (.int .i64 x) (.int .i64 y) 23
  have q0 := bal hq (.cells #[.int .i64 x, .int .i64 y] 23)
  have HT := hT.out _ q0
  go_wp2_with fail
  refine (rattext_any x y _ HT).mono ?_
  rintro e w2 ⟨rfl, hq2⟩
  replace p0 := carry hq2 p0
  replace p1 := carry hq2 p1
  replace q0 := btr q0 hq2
  have hsz := cell_lt p0
  clear hq hq2 HT
  have hz := ratTxt_len x y
  have hR := ratread_any ⟨(ratTxt x y).toArray⟩ w2 (by show (ratTxt x y).length ≤ _; omega) (hT.out _ q0) (hM.out _ q0) (hE1.out _ q0) (hE2.out _ q0)
  go_wp2_with fail
  refine hR.mono ?_
  rintro e w3 ⟨hp, hq⟩
  obtain ⟨n, d, rfl, hnd⟩ := rdp_txt hp
  clear hR hp
  replace p0 := carryA (.cells #[.int .i64 n, .int .i64 d] 23) (carry hq p0)
  replace p1 := carryA (.cells #[.int .i64 n, .int .i64 d] 23) (carry hq p1)
  obtain ⟨b0, b1⟩ := pair_new w3 (.int .i64 n) (.int .i64 d) 23
  replace q0 := bal (btr q0 hq) (.cells #[.int .i64 n, .int .i64 d] 23)
  clear hq
  go_upto_region 6 with fail
  clear hz
  cases hv : okB x y
  · rw [hv] at hnd
    clear hnd
    go_wp2_with fail
    refine (say_any x y _).mono ?_
    rintro e w4 ⟨rfl, hq⟩
    replace p0 := carry hq p0
    replace p1 := carry hq p1
    replace b0 := carry hq b0
    replace b1 := carry hq b1
    replace q0 := btr q0 hq
    clear hq
    have hszp := cell_lt p0
    have hszb := cell_lt b0
    generalize (⟨(ratTxt x y).toArray⟩ : ByteArray) = X
    have dX : (X.toList == X.toList) = true := by simp
    go_wp2_with fail
    refine (sok_at x y _ hv).mono ?_
    rintro e w5 ⟨rfl, hq⟩
    replace p0 := carry hq p0
    replace p1 := carry hq p1
    replace b0 := carry hq b0
    replace b1 := carry hq b1
    replace q0 := btr q0 hq
    clear hq
    have hszp := cell_lt p0
    have hszb := cell_lt b0
    go_wp2_with fail
    refine (drawratread_any w.heap.size _ a1 len1 cap1 (q0.size) (hB1.out _ q0) hlc1 hc1).mono ?_
    rintro e w6 ⟨T, rfl, hTz, hq⟩
    clear p0 p1 b0 b1 hszp hszb
    replace q0 := btr q0 hq
    clear hq
    have hR := ratread_any T w6 hTz (hT.out _ q0) (hM.out _ q0) (hE1.out _ q0) (hE2.out _ q0)
    go_wp2_with fail
    refine hR.mono ?_
    rintro e w7 ⟨hp, hq⟩
    replace q0 := btr q0 hq
    clear hR hq
    rcases hp with ⟨u, v, hk, rfl⟩ | ⟨hk, rfl⟩
    · skip
      obtain ⟨p0, p1⟩ := pair_new w7 (.int .i64 u) (.int .i64 v) 23
      replace q0 := bal q0 (.cells #[.int .i64 u, .int .i64 v] 23)
      go_wp2_with fail
      refine (sread_any T _ hTz).mono ?_
      rintro e w8 ⟨hp2, hq⟩
      obtain rfl : e = .returned (.tuple #[.agg #[.int .i64 u, .int .i64 v], .bool true]) := by
        rcases hp2 with ⟨n', d', h2, rfl⟩ | ⟨h2, rfl⟩
        · obtain ⟨rfl, rfl⟩ := rd_inj hk h2; rfl
        · exact absurd hk (h2 _ _)
      replace p0 := carryA (.cells #[.int .i64 u, .int .i64 v] 23) (carry hq p0)
      replace p1 := carryA (.cells #[.int .i64 u, .int .i64 v] 23) (carry hq p1)
      obtain ⟨b0, b1⟩ := pair_new w8 (.int .i64 u) (.int .i64 v) 23
      replace q0 := bal (btr q0 hq) (.cells #[.int .i64 u, .int .i64 v] 23)
      have hszp := cell_lt p0
      have hszb := cell_lt b0
      have HT := hT.out _ q0
      have hE := eqrat_run2 u v u v
      have dE : (u == u && v == v) = true := by simp
      rw [dE] at hE
      obtain ⟨hkv, hke⟩ := hk
      clear hq hp2 dE
      go_wp2_with fail
      refine (rattext_any u v _ HT).mono ?_
      rintro e w9 ⟨rfl, hq⟩
      rw [← hke]
      replace p0 := carry hq p0
      replace p1 := carry hq p1
      replace q0 := btr q0 hq
      have hszq := cell_lt p0
      have dX2 : (T.toList == T.toList) = true := by simp
      clear hq HT
      go_wp2_with fail
      refine (ratok_at2 u v _ hkv).mono ?_
      rintro e w10 ⟨rfl, hq⟩
      go_wp2
      go_ret
      exact ⟨rfl, btr q0 hq⟩
    · skip
      obtain ⟨p0, p1⟩ := pair_new w7 (.int .i64 0) (.int .i64 0) 23
      replace q0 := bal q0 (.cells #[.int .i64 0, .int .i64 0] 23)
      go_wp2_with fail
      refine (sread_any T _ hTz).mono ?_
      rintro e w8 ⟨hp2, hq⟩
      obtain rfl : e = .returned (.tuple #[.agg #[.int .i64 0, .int .i64 0], .bool false]) := by
        rcases hp2 with ⟨n', d', h2, rfl⟩ | ⟨h2, rfl⟩
        · exact absurd h2 (hk _ _)
        · rfl
      replace p0 := carryA (.cells #[.int .i64 0, .int .i64 0] 23) (carry hq p0)
      replace p1 := carryA (.cells #[.int .i64 0, .int .i64 0] 23) (carry hq p1)
      obtain ⟨b0, b1⟩ := pair_new w8 (.int .i64 0) (.int .i64 0) 23
      replace q0 := bal (btr q0 hq) (.cells #[.int .i64 0, .int .i64 0] 23)
      have hszp := cell_lt p0
      have hszb := cell_lt b0
      have hE := eqrat_run2 0 0 0 0
      have dE : ((0 : Int) == 0 && (0 : Int) == 0) = true := by simp
      rw [dE] at hE
      go_wp2
      go_ret
      exact ⟨rfl, q0⟩
  · obtain ⟨rfl, rfl⟩ := hnd hv
    clear hnd
    go_wp2_with fail
    refine (say_any n d _).mono ?_
    rintro e w4 ⟨rfl, hq⟩
    replace p0 := carry hq p0
    replace p1 := carry hq p1
    replace b0 := carry hq b0
    replace b1 := carry hq b1
    replace q0 := btr q0 hq
    clear hq
    have hszp := cell_lt p0
    have hszb := cell_lt b0
    generalize (⟨(ratTxt n d).toArray⟩ : ByteArray) = X
    have dX : (X.toList == X.toList) = true := by simp
    go_wp2_with fail
    refine (sok_at n d _ hv).mono ?_
    rintro e w5 ⟨rfl, hq⟩
    replace p0 := carry hq p0
    replace p1 := carry hq p1
    replace b0 := carry hq b0
    replace b1 := carry hq b1
    replace q0 := btr q0 hq
    clear hq
    have hszp := cell_lt p0
    have hszb := cell_lt b0
    have hEE := eqrat_run2 n d n d
    have dEE : (n == n && d == d) = true := by simp
    rw [dEE] at hEE
    go_wp2_with fail
    clear hEE dEE
    refine (drawratread_any w.heap.size _ a1 len1 cap1 (q0.size) (hB1.out _ q0) hlc1 hc1).mono ?_
    rintro e w6 ⟨T, rfl, hTz, hq⟩
    clear p0 p1 b0 b1 hszp hszb
    replace q0 := btr q0 hq
    clear hq
    have hR := ratread_any T w6 hTz (hT.out _ q0) (hM.out _ q0) (hE1.out _ q0) (hE2.out _ q0)
    go_wp2_with fail
    refine hR.mono ?_
    rintro e w7 ⟨hp, hq⟩
    replace q0 := btr q0 hq
    clear hR hq
    rcases hp with ⟨u, v, hk, rfl⟩ | ⟨hk, rfl⟩
    · skip
      obtain ⟨p0, p1⟩ := pair_new w7 (.int .i64 u) (.int .i64 v) 23
      replace q0 := bal q0 (.cells #[.int .i64 u, .int .i64 v] 23)
      go_wp2_with fail
      refine (sread_any T _ hTz).mono ?_
      rintro e w8 ⟨hp2, hq⟩
      obtain rfl : e = .returned (.tuple #[.agg #[.int .i64 u, .int .i64 v], .bool true]) := by
        rcases hp2 with ⟨n', d', h2, rfl⟩ | ⟨h2, rfl⟩
        · obtain ⟨rfl, rfl⟩ := rd_inj hk h2; rfl
        · exact absurd hk (h2 _ _)
      replace p0 := carryA (.cells #[.int .i64 u, .int .i64 v] 23) (carry hq p0)
      replace p1 := carryA (.cells #[.int .i64 u, .int .i64 v] 23) (carry hq p1)
      obtain ⟨b0, b1⟩ := pair_new w8 (.int .i64 u) (.int .i64 v) 23
      replace q0 := bal (btr q0 hq) (.cells #[.int .i64 u, .int .i64 v] 23)
      have hszp := cell_lt p0
      have hszb := cell_lt b0
      have HT := hT.out _ q0
      have hE := eqrat_run2 u v u v
      have dE : (u == u && v == v) = true := by simp
      rw [dE] at hE
      obtain ⟨hkv, hke⟩ := hk
      clear hq hp2 dE
      go_wp2_with fail
      refine (rattext_any u v _ HT).mono ?_
      rintro e w9 ⟨rfl, hq⟩
      rw [← hke]
      replace p0 := carry hq p0
      replace p1 := carry hq p1
      replace q0 := btr q0 hq
      have hszq := cell_lt p0
      have dX2 : (T.toList == T.toList) = true := by simp
      clear hq HT
      go_wp2_with fail
      refine (ratok_at2 u v _ hkv).mono ?_
      rintro e w10 ⟨rfl, hq⟩
      go_wp2
      go_ret
      exact ⟨rfl, btr q0 hq⟩
    · skip
      obtain ⟨p0, p1⟩ := pair_new w7 (.int .i64 0) (.int .i64 0) 23
      replace q0 := bal q0 (.cells #[.int .i64 0, .int .i64 0] 23)
      go_wp2_with fail
      refine (sread_any T _ hTz).mono ?_
      rintro e w8 ⟨hp2, hq⟩
      obtain rfl : e = .returned (.tuple #[.agg #[.int .i64 0, .int .i64 0], .bool false]) := by
        rcases hp2 with ⟨n', d', h2, rfl⟩ | ⟨h2, rfl⟩
        · exact absurd h2 (hk _ _)
        · rfl
      replace p0 := carryA (.cells #[.int .i64 0, .int .i64 0] 23) (carry hq p0)
      replace p1 := carryA (.cells #[.int .i64 0, .int .i64 0] 23) (carry hq p1)
      obtain ⟨b0, b1⟩ := pair_new w8 (.int .i64 0) (.int .i64 0) 23
      replace q0 := bal (btr q0 hq) (.cells #[.int .i64 0, .int .i64 0] 23)
      have hszp := cell_lt p0
      have hszb := cell_lt b0
      have hE := eqrat_run2 0 0 0 0
      have dE : ((0 : Int) == 0 && (0 : Int) == 0) = true := by simp
      rw [dE] at hE
      go_wp2
      go_ret
      exact ⟨rfl, q0⟩
end Go.Proofs.YthcabejfmoedfaaDoor
