/- The law FnLinText: the walk. -/
import Derived.Test.YthcabejfmoedfaaDoorLdA
import Derived.Test.YthcabejfmoedfaaDoorLdB
import Derived.Test.YthcabejfmoedfaaDoorLdC
import Derived.Test.YthcabejfmoedfaaDoorBI
import Derived.Test.YthcabejfmoedfaaDoorByt
namespace Go.Proofs.YthcabejfmoedfaaDoor
set_option linter.unusedVariables false
set_option linter.unusedSimpArgs false
open Go.Shelf Go.RowKit Go.Joins
theorem linsame_atD {A B : Option Addr} {n m c d : Nat} {Z Y : Nat → Int} {b b2 : Int} {s s2 : Bool} {w : World} (hn : n ≤ 9223372036854775806) (hm : m ≤ 9223372036854775806) (hA : Ints w A n Z) (hB : Ints w B m Y) {v : Bool} (h : eqL n Z b s m Y b2 s2 = v) :
    Calls Tryd.prog 30 #[.agg #[.slice A n c, .int .i64 b, .bool s], .agg #[.slice B m d, .int .i64 b2, .bool s2]] w fun e w' => e = .returned (.bool v) ∧ Below w.heap.size w w' := by
  subst h; exact linsame_any A B n m c d Z Y b b2 s s2 w hn hm hA hB
theorem linok_atD {A : Option Addr} {n c : Nat} {Z : Nat → Int} {b : Int} {s : Bool} {w : World} (hn : n ≤ 9223372036854775807) (hA : Ints w A n Z) {v : Bool} (h : okL n Z b = v) :
    Calls Tryd.prog 32 #[.agg #[.slice A n c, .int .i64 b, .bool s]] w fun e w' => e = .returned (.bool v) ∧ Below w.heap.size w w' := by
  subst h; exact linok_any A n c Z b s w hn hA
theorem eqL_of {n : Nat} {Z Y : Nat → Int} {b : Int} {s : Bool} (h : ∀ k, k < n → Z k = Y k) : eqL n Z b s n Y b s = true := by
  unfold eqL
  rw [show eqI n Z n Y = true from eqI_iff.2 ⟨rfl, h⟩]; simp
theorem ld_empty {Z : Nat → Int} {b : Int} {st : Bool} : ¬ LdOk ⟨([] : List UInt8).toArray⟩ Z b st := fun h => by
  have := congrArg List.length (ld_list h)
  rw [bytes_list] at this
  simp at this
/-- what LinRead answers at what LinText writes -/
theorem ldp_txt {W w' : World} {n : Nat} {Z : Nat → Int} {b : Int} {s : Bool} {e : Ending} (h : LdP W ⟨(linTxt n Z b s).toArray⟩ e w') :
    ∃ A m c Y d u, e = .returned (.tuple #[.agg #[.slice A m c, .int .i64 d, .bool u], .bool (okL n Z b)]) ∧ m ≤ 4 ∧ Ints w' A m Y ∧ (okL n Z b = true → eqL m Y d u n Z b s = true) := by
  cases hv : okL n Z b
  · have e0 : linTxt n Z b s = [] := by unfold linTxt; rw [if_neg (by simp [hv])]
    rw [e0] at h
    rcases h with ⟨Y, d, u, v, h1, _⟩ | ⟨h1, rfl⟩
    · exact absurd h1 ld_empty
    · exact ⟨none, 0, 0, fun _ => 0, 0, false, rfl, by omega, .inl rfl, fun h => by cases h⟩
  · obtain ⟨rfl, _, _⟩ := okL_iff.1 hv
    have h0 : LdOk ⟨(linTxt 4 Z b s).toArray⟩ Z b s := ⟨hv, by unfold linTxt; rw [if_pos hv]⟩
    rcases h with ⟨Y, d, u, v, h1, rfl, A, c, rfl, _, _, hO⟩ | ⟨h1, rfl⟩
    · obtain ⟨e1, rfl, rfl⟩ := ld_inj h1 h0
      exact ⟨A, 4, c, Y, d, u, rfl, by simp, hO.ints, fun _ => eqL_of e1⟩
    · exact absurd h0 (h1 _ _ _)
/-- both answer alike -/
theorem ldp_two {W1 W2 w1 w2 : World} {s : ByteArray} {e e' : Ending} (h : LdP W1 s e w1) (h' : LdP W2 s e' w2) : ∃ A m c Y d u A2 c2 Y2 bb, e = .returned (.tuple #[.agg #[.slice A m c, .int .i64 d, .bool u], .bool bb]) ∧ e' = .returned (.tuple #[.agg #[.slice A2 m c2, .int .i64 d, .bool u], .bool bb]) ∧ m ≤ 4 ∧ OwnI W1 w1 A m Y ∧ OwnI W2 w2 A2 m Y2 ∧ (∀ k, k < m → Y k = Y2 k) ∧ (bb = true → m = 4 ∧ LdOk s Y d u) := by
  rcases h with ⟨Y, d, u, v, h1, rfl, A, c, rfl, _, _, hO⟩ | ⟨h1, rfl⟩ <;> rcases h' with ⟨Y', d', u', v', h2, rfl, A', c', rfl, _, _, hO'⟩ | ⟨h2, rfl⟩
  · obtain ⟨e1, rfl, rfl⟩ := ld_inj h1 h2
    exact ⟨A, 4, c, Y, d, u, A', c', Y', true, rfl, rfl, Nat.le_refl _, hO, hO', e1, fun _ => ⟨rfl, h1⟩⟩
  · exact absurd h1 (h2 _ _ _)
  · exact absurd h2 (h1 _ _ _)
  · exact ⟨none, 0, 0, fun _ => 0, 0, false, none, 0, fun _ => 0, false, rfl, rfl, by omega, .inl rfl, .inl rfl, fun k hk => absurd hk (by omega), fun h => by cases h⟩
set_option maxRecDepth 100000 in
set_option maxHeartbeats 8000000 in
theorem walk_LinText (a0 : Option Addr) (len0 cap0 : Nat) (a1 : Option Addr) (len1 cap1 : Nat) (w : World) (hby : Bytes w.heap.size w a0 len0) (hlc : len0 ≤ cap0) (hc : cap0 ≤ 9223372036854775807) (hby1 : Bytes w.heap.size w a1 len1) (hlc1 : len1 ≤ cap1) (hc1 : cap1 ≤ 9223372036854775807)
    (htab : Lib.TabIs Tryd.prog w "internal/strconv.uint64pow10" .u64 Lib.pow10Tab) (hm : MaxAt w) (h1 : ErrAt w 1) (h2 : ErrAt w 2) :
    Calls Tryd.prog 7 #[.slice a0 len0 cap0, .slice a1 len1 cap1] w fun e w' => e = .returned (.bool true) ∧ Below w.heap.size w w' := by
  by_cases hbig : 1048576 < len0
  · go_enter Tryd.func7, Tryd.ntmps7
    go_wp2
    go_ret
    exact ⟨rfl, Below.refl _ _⟩
  by_cases hbig1 : 1048576 < len1
  · go_enter Tryd.func7, Tryd.ntmps7
    go_wp2
    go_ret
    exact ⟨rfl, Below.refl _ _⟩
  have hT := hid (fun W (hb : Below w.heap.size w W) => tab_keep htab hb)
  have hM := hid (fun W (hb : Below w.heap.size w W) => hm.below hb)
  have hE1 := hid (fun W (hb : Below w.heap.size w W) => h1.below hb)
  have hE2 := hid (fun W (hb : Below w.heap.size w W) => h2.below hb)
  have hB1 := hid (fun W (hb : Below w.heap.size w W) => hby1.below hb)
  clear htab hm h1 h2 hby1
  go_enter Tryd.func7, Tryd.ntmps7
  go_wp2_with fail
  refine (drawlintext_any w.heap.size w a0 len0 cap0 (Nat.le_refl _) hby hlc hc).mono ?_
  rintro e w1 ⟨A, n, c, Z, b, st, rfl, hn5, hI, hq⟩
  clear hby hlc hc hbig
  obtain ⟨p0, p1, p2⟩ := new3 w1 (.slice A n c) (.int .i64 b) (.bool st) 39
  have al := bal (Below.refl w1.heap.size w1) (.cells #[.slice A n c, .int .i64 b, .bool st] 39)
  replace hI := hI.below al
  have q0 := btr hq al
  clear al hq
  have HT := hT.out _ q0
  have hL := lintext_any A n c Z b st _ (by omega) hI HT
  go_wp2_with fail
  refine hL.mono ?_
  rintro e w2 ⟨rfl, hq⟩
  replace p0 := carry hq p0
  replace p1 := carry hq p1
  replace p2 := carry hq p2
  replace hI := hI.below hq
  replace q0 := btr q0 hq
  clear hq
  clear HT hL
  have hszp := cell_lt p0
  have hz : (linTxt n Z b st).length ≤ 120 := by
    unfold linTxt
    split
    · rename_i h; exact linT_len h
    · simp
  have hR := linread_any ⟨(linTxt n Z b st).toArray⟩ w2 (by show (linTxt n Z b st).length ≤ _; omega) (hT.out _ q0) (hM.out _ q0) (hE1.out _ q0) (hE2.out _ q0)
  go_wp2_with fail
  refine hR.mono ?_
  rintro e w3 ⟨hp, hq⟩
  obtain ⟨A3, m3, c3, Y3, d3, u3, rfl, hm4, hI3, hsame⟩ := ldp_txt hp
  clear hR hp
  replace p0 := carry hq p0
  replace p1 := carry hq p1
  replace p2 := carry hq p2
  replace hI := hI.below hq
  replace q0 := btr q0 hq
  clear hq
  obtain ⟨b0, b1, b2⟩ := new3 w3 (.slice A3 m3 c3) (.int .i64 d3) (.bool u3) 39
  have hq := bal (Below.refl w3.heap.size w3) (.cells #[.slice A3 m3 c3, .int .i64 d3, .bool u3] 39)
  replace hI3 := hI3.below hq
  replace p0 := carry hq p0
  replace p1 := carry hq p1
  replace p2 := carry hq p2
  replace hI := hI.below hq
  replace q0 := btr q0 hq
  clear hq
  go_upto_region 6 with fail
  generalize w3.alloc (.cells #[.slice A3 m3 c3, .int .i64 d3, .bool u3] 39) = w4 at *
  generalize w3.heap.size = L3 at *
  have hszp4 := cell_lt p0
  have hszb4 := cell_lt b0
  clear hz
  have hSl := slintext_any A n c Z b st w4 (by omega) hI
  generalize hv : okL n Z b = ok at hsame ⊢
  go_wp2_with fail
  refine hSl.mono ?_
  rintro e w5 ⟨rfl, hq⟩
  replace p0 := carry hq p0
  replace p1 := carry hq p1
  replace p2 := carry hq p2
  replace b0 := carry hq b0
  replace b1 := carry hq b1
  replace b2 := carry hq b2
  replace hI := hI.below hq
  replace hI3 := hI3.below hq
  replace q0 := btr q0 hq
  clear hq
  clear hSl
  have hszp5 := cell_lt p0
  have hszb5 := cell_lt b0
  generalize (⟨(linTxt n Z b st).toArray⟩ : ByteArray) = X
  have dX : (X.toList == X.toList) = true := by simp
  go_wp2_with fail
  refine (slinok_at (by omega) hI hv _ (Below.refl _ _)).mono ?_
  rintro e w6 ⟨rfl, hq⟩
  replace p0 := carry hq p0
  replace p1 := carry hq p1
  replace p2 := carry hq p2
  replace b0 := carry hq b0
  replace b1 := carry hq b1
  replace b2 := carry hq b2
  replace hI := hI.below hq
  replace hI3 := hI3.below hq
  replace q0 := btr q0 hq
  clear hq
  have hszp6 := cell_lt p0
  have hszb6 := cell_lt b0
  cases ok
  case false =>
    go_wp2_with fail
    refine (drawlinread_any w.heap.size _ a1 len1 cap1 (q0.size) (hB1.out _ q0) hlc1 hc1).mono ?_
    rintro e w7 ⟨T, rfl, hTz, hq⟩
    clear p0 p1 p2 b0 b1 b2 hI hI3
    replace q0 := btr q0 hq
    clear hq
    have hR := linread_any T w7 hTz (hT.out _ q0) (hM.out _ q0) (hE1.out _ q0) (hE2.out _ q0)
    go_wp2_with fail
    refine hR.mono ?_
    intro e w8 hpp
    obtain ⟨hp, hq⟩ := hpp
    have hqq := hq
    replace q0 := btr q0 hq
    clear hR hq
    rcases hp with ⟨Y, d, u, v, hk, rfl, A8, c8, rfl, _, _, hO⟩ | ⟨hk, rfl⟩
    · skip
      obtain ⟨p0, p1, p2⟩ := new3 w8 (.slice A8 4 c8) (.int .i64 d) (.bool u) 39
      have hq := bal (Below.refl w8.heap.size w8) (.cells #[.slice A8 4 c8, .int .i64 d, .bool u] 39)
      have hI := hO.ints.below hq
      replace q0 := btr q0 hq
      clear hq hO hqq
      go_wp2_with fail
      refine (slinread_any T _ hTz).mono ?_
      rintro e w9 ⟨hp2, hq⟩
      obtain ⟨A9, c9, Y9, rfl, hI9, hYY⟩ : ∃ A9 c9 Y9, e = .returned (.tuple #[.agg #[.slice A9 4 c9, .int .i64 d, .bool u], .bool true]) ∧ Ints w9 A9 4 Y9 ∧ (∀ k, k < 4 → Y k = Y9 k) := by
        rcases hp2 with ⟨Y', d', u', v', h2, rfl, A', c', rfl, _, _, hO'⟩ | ⟨h2, rfl⟩
        · obtain ⟨e1, rfl, rfl⟩ := ld_inj hk h2
          exact ⟨A', c', Y', rfl, hO'.ints, e1⟩
        · exact absurd hk (h2 _ _ _)
      clear hp2
      replace p0 := carry hq p0
      replace p1 := carry hq p1
      replace p2 := carry hq p2
      replace hI := hI.below hq
      replace q0 := btr q0 hq
      clear hq
      obtain ⟨b0, b1, b2⟩ := new3 w9 (.slice A9 4 c9) (.int .i64 d) (.bool u) 39
      have hq := bal (Below.refl w9.heap.size w9) (.cells #[.slice A9 4 c9, .int .i64 d, .bool u] 39)
      replace p0 := carry hq p0
      replace p1 := carry hq p1
      replace p2 := carry hq p2
      replace hI := hI.below hq
      replace hI9 := hI9.below hq
      replace q0 := btr q0 hq
      clear hq
      go_upto_region 11 with fail
      generalize w9.alloc (.cells #[.slice A9 4 c9, .int .i64 d, .bool u] 39) = wA at *
      generalize w9.heap.size = LA at *
      generalize w8.heap.size = L8 at *
      have hszp := cell_lt p0
      have hszb := cell_lt b0
      go_wp2_with fail
      refine (linsame_atD (by omega) (by omega) hI hI9 (eqL_of hYY)).mono ?_
      rintro e wB ⟨rfl, hq⟩
      clear b0 b1 b2 hI9 hYY
      replace p0 := carry hq p0
      replace p1 := carry hq p1
      replace p2 := carry hq p2
      replace hI := hI.below hq
      replace q0 := btr q0 hq
      clear hq
      have hszB := cell_lt p0
      have hLL := lintext_any A8 4 c8 Y d u wB (by omega) hI (hT.out _ q0)
      have hke := ld_txt hk
      go_wp2_with fail
      refine hLL.mono ?_
      rintro e wC ⟨rfl, hq⟩
      rw [← hke]
      have dX2 : (T.toList == T.toList) = true := by simp
      clear hLL hke
      replace p0 := carry hq p0
      replace p1 := carry hq p1
      replace p2 := carry hq p2
      replace hI := hI.below hq
      replace q0 := btr q0 hq
      clear hq
      have hszC := cell_lt p0
      go_wp2_with fail
      refine (linok_atD (by omega) hI hk.1).mono ?_
      rintro e wD ⟨rfl, hq⟩
      go_wp2
      go_ret
      exact ⟨rfl, btr q0 hq⟩
    · skip
      obtain ⟨p0, p1, p2⟩ := new3 w8 (.slice none 0 0) (.int .i64 0) (.bool false) 39
      have hq := bal (Below.refl w8.heap.size w8) (.cells #[.slice none 0 0, .int .i64 0, .bool false] 39)
      replace q0 := btr q0 hq
      clear hq hqq
      go_wp2_with fail
      refine (slinread_any T _ hTz).mono ?_
      rintro e w9 ⟨hp2, hq⟩
      obtain rfl : e = .returned (.tuple #[.agg #[.slice none 0 0, .int .i64 0, .bool false], .bool false]) := by
        rcases hp2 with ⟨Y', d', u', v', h2, _⟩ | ⟨h2, rfl⟩
        · exact absurd h2 (hk _ _ _)
        · rfl
      clear hp2
      replace p0 := carry hq p0
      replace p1 := carry hq p1
      replace p2 := carry hq p2
      replace q0 := btr q0 hq
      clear hq
      obtain ⟨b0, b1, b2⟩ := new3 w9 (.slice none 0 0) (.int .i64 0) (.bool false) 39
      have hq := bal (Below.refl w9.heap.size w9) (.cells #[.slice none 0 0, .int .i64 0, .bool false] 39)
      replace p0 := carry hq p0
      replace p1 := carry hq p1
      replace p2 := carry hq p2
      replace q0 := btr q0 hq
      clear hq
      go_upto_region 11 with fail
      generalize w9.alloc (.cells #[.slice none 0 0, .int .i64 0, .bool false] 39) = wA at *
      generalize w9.heap.size = LA at *
      generalize w8.heap.size = L8 at *
      have hszp := cell_lt p0
      have hszb := cell_lt b0
      go_wp2_with fail
      refine (linsame_atD (n := 0) (m := 0) (Z := fun _ => 0) (Y := fun _ => 0) (by omega) (by omega) (.inl rfl) (.inl rfl) (eqL_self 0 (fun _ => 0) 0 false)).mono ?_
      rintro e wB ⟨rfl, hq⟩
      go_wp2
      go_ret
      exact ⟨rfl, btr q0 hq⟩
  case true =>
    go_wp2_with fail
    refine (linsame_atD (by omega) (by omega) hI3 hI (hsame (by trivial))).mono ?_
    rintro e w6b ⟨rfl, hq⟩
    replace q0 := btr q0 hq
    clear hq
    go_wp2_with fail
    refine (drawlinread_any w.heap.size _ a1 len1 cap1 (q0.size) (hB1.out _ q0) hlc1 hc1).mono ?_
    rintro e w7 ⟨T, rfl, hTz, hq⟩
    clear p0 p1 p2 b0 b1 b2 hI hI3
    replace q0 := btr q0 hq
    clear hq
    have hR := linread_any T w7 hTz (hT.out _ q0) (hM.out _ q0) (hE1.out _ q0) (hE2.out _ q0)
    go_wp2_with fail
    refine hR.mono ?_
    intro e w8 hpp
    obtain ⟨hp, hq⟩ := hpp
    have hqq := hq
    replace q0 := btr q0 hq
    clear hR hq
    rcases hp with ⟨Y, d, u, v, hk, rfl, A8, c8, rfl, _, _, hO⟩ | ⟨hk, rfl⟩
    · skip
      obtain ⟨p0, p1, p2⟩ := new3 w8 (.slice A8 4 c8) (.int .i64 d) (.bool u) 39
      have hq := bal (Below.refl w8.heap.size w8) (.cells #[.slice A8 4 c8, .int .i64 d, .bool u] 39)
      have hI := hO.ints.below hq
      replace q0 := btr q0 hq
      clear hq hO hqq
      go_wp2_with fail
      refine (slinread_any T _ hTz).mono ?_
      rintro e w9 ⟨hp2, hq⟩
      obtain ⟨A9, c9, Y9, rfl, hI9, hYY⟩ : ∃ A9 c9 Y9, e = .returned (.tuple #[.agg #[.slice A9 4 c9, .int .i64 d, .bool u], .bool true]) ∧ Ints w9 A9 4 Y9 ∧ (∀ k, k < 4 → Y k = Y9 k) := by
        rcases hp2 with ⟨Y', d', u', v', h2, rfl, A', c', rfl, _, _, hO'⟩ | ⟨h2, rfl⟩
        · obtain ⟨e1, rfl, rfl⟩ := ld_inj hk h2
          exact ⟨A', c', Y', rfl, hO'.ints, e1⟩
        · exact absurd hk (h2 _ _ _)
      clear hp2
      replace p0 := carry hq p0
      replace p1 := carry hq p1
      replace p2 := carry hq p2
      replace hI := hI.below hq
      replace q0 := btr q0 hq
      clear hq
      obtain ⟨b0, b1, b2⟩ := new3 w9 (.slice A9 4 c9) (.int .i64 d) (.bool u) 39
      have hq := bal (Below.refl w9.heap.size w9) (.cells #[.slice A9 4 c9, .int .i64 d, .bool u] 39)
      replace p0 := carry hq p0
      replace p1 := carry hq p1
      replace p2 := carry hq p2
      replace hI := hI.below hq
      replace hI9 := hI9.below hq
      replace q0 := btr q0 hq
      clear hq
      go_upto_region 11 with fail
      generalize w9.alloc (.cells #[.slice A9 4 c9, .int .i64 d, .bool u] 39) = wA at *
      generalize w9.heap.size = LA at *
      generalize w8.heap.size = L8 at *
      have hszp := cell_lt p0
      have hszb := cell_lt b0
      go_wp2_with fail
      refine (linsame_atD (by omega) (by omega) hI hI9 (eqL_of hYY)).mono ?_
      rintro e wB ⟨rfl, hq⟩
      clear b0 b1 b2 hI9 hYY
      replace p0 := carry hq p0
      replace p1 := carry hq p1
      replace p2 := carry hq p2
      replace hI := hI.below hq
      replace q0 := btr q0 hq
      clear hq
      have hszB := cell_lt p0
      have hLL := lintext_any A8 4 c8 Y d u wB (by omega) hI (hT.out _ q0)
      have hke := ld_txt hk
      go_wp2_with fail
      refine hLL.mono ?_
      rintro e wC ⟨rfl, hq⟩
      rw [← hke]
      have dX2 : (T.toList == T.toList) = true := by simp
      clear hLL hke
      replace p0 := carry hq p0
      replace p1 := carry hq p1
      replace p2 := carry hq p2
      replace hI := hI.below hq
      replace q0 := btr q0 hq
      clear hq
      have hszC := cell_lt p0
      go_wp2_with fail
      refine (linok_atD (by omega) hI hk.1).mono ?_
      rintro e wD ⟨rfl, hq⟩
      go_wp2
      go_ret
      exact ⟨rfl, btr q0 hq⟩
    · skip
      obtain ⟨p0, p1, p2⟩ := new3 w8 (.slice none 0 0) (.int .i64 0) (.bool false) 39
      have hq := bal (Below.refl w8.heap.size w8) (.cells #[.slice none 0 0, .int .i64 0, .bool false] 39)
      replace q0 := btr q0 hq
      clear hq hqq
      go_wp2_with fail
      refine (slinread_any T _ hTz).mono ?_
      rintro e w9 ⟨hp2, hq⟩
      obtain rfl : e = .returned (.tuple #[.agg #[.slice none 0 0, .int .i64 0, .bool false], .bool false]) := by
        rcases hp2 with ⟨Y', d', u', v', h2, _⟩ | ⟨h2, rfl⟩
        · exact absurd h2 (hk _ _ _)
        · rfl
      clear hp2
      replace p0 := carry hq p0
      replace p1 := carry hq p1
      replace p2 := carry hq p2
      replace q0 := btr q0 hq
      clear hq
      obtain ⟨b0, b1, b2⟩ := new3 w9 (.slice none 0 0) (.int .i64 0) (.bool false) 39
      have hq := bal (Below.refl w9.heap.size w9) (.cells #[.slice none 0 0, .int .i64 0, .bool false] 39)
      replace p0 := carry hq p0
      replace p1 := carry hq p1
      replace p2 := carry hq p2
      replace q0 := btr q0 hq
      clear hq
      go_upto_region 11 with fail
      generalize w9.alloc (.cells #[.slice none 0 0, .int .i64 0, .bool false] 39) = wA at *
      generalize w9.heap.size = LA at *
      generalize w8.heap.size = L8 at *
      have hszp := cell_lt p0
      have hszb := cell_lt b0
      go_wp2_with fail
      refine (linsame_atD (n := 0) (m := 0) (Z := fun _ => 0) (Y := fun _ => 0) (by omega) (by omega) (.inl rfl) (.inl rfl) (eqL_self 0 (fun _ => 0) 0 false)).mono ?_
      rintro e wB ⟨rfl, hq⟩
      go_wp2
      go_ret
      exact ⟨rfl, btr q0 hq⟩
end Go.Proofs.YthcabejfmoedfaaDoor
