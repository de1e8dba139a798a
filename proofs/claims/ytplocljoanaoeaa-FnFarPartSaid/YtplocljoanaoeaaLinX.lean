/- Contract of the program's LinAt. -/
import Derived.Test.YtplocljoanaoeaaLinW
namespace Go.Proofs.Ytplocljoanaoeaa
set_option linter.unusedVariables false
set_option linter.unusedSimpArgs false
open Go.RowKit
theorem eqrat_run (x y u v : Int) (w : World) : (Op.equalIn 10000 52 (.agg #[.int .i64 x, .int .i64 y]) (.agg #[.int .i64 u, .int .i64 v])).run Try.prog w = .ok (x == u && y == v) w := by
  have u3 := Try.underlying3
  have a3 := Try.isAgg3
  have z3 := Try.sizeOf3
  rw [show (10000 : Nat) = 9999 + 1 from rfl, Op.equalIn]
  simp only [Sem.run_bind, run_underlying Try.underlying52, Result.andThen_ok]
  by_cases h0 : x = u <;> by_cases h1 : y = v <;> simp [go_sem, u3, a3, z3, h0, h1]
set_option maxRecDepth 100000 in
set_option maxHeartbeats 2000000 in
theorem linat_a (A : Option Addr) (n c : Nat) (Z : Nat → Int) (b : Int) (s : Bool) (B : Option Addr) (m d : Nat) (N D : Nat → Int) (w : World) (hn : n ≤ 9223372036854775806) (hA : Ints w A n Z) (hm : m ≤ 9223372036854775806) (hB : Rats w B m N D) (h1 : okL n Z b = false) :
    Calls Try.prog 21 #[.agg #[.slice A n c, .int .i64 b, .bool s], .slice B m d] w fun e w' => e = .returned (.tuple #[.bool false, .bool false]) ∧ Below w.heap.size w w' := by
  obtain ⟨x0, x1, x2, x3, x4, u, hx⟩ := wideV_six n Z b s
  have hW := wide_far (c := c) (by omega) hA h1 hx
  clear hx hA hn hB
  go_enter Try.func21, Try.ntmps21
  go_wp2_with (go_at_call 46; refine (hW _ (bal (Below.refl _ _) _)).mono ?_; rintro e w1 ⟨rfl, hq⟩)
  refine bodyPost_ret (v := .tuple #[.bool false, .bool false]) (by simp [results, Try.results21, go_sem]) rfl ⟨rfl, ?_⟩
  exact bal (btr (bal (Below.refl _ _) _) hq) _
set_option maxRecDepth 100000 in
set_option maxHeartbeats 2000000 in
theorem linat_b (A : Option Addr) (n c : Nat) (Z : Nat → Int) (b : Int) (s : Bool) (B : Option Addr) (m d : Nat) (N D : Nat → Int) (w : World) (hn : n ≤ 9223372036854775806) (hA : Ints w A n Z) (hm : m ≤ 9223372036854775806) (hB : Rats w B m N D) (h1 : okL n Z b = true) (h2 : valsB m N D = false) :
    Calls Try.prog 21 #[.agg #[.slice A n c, .int .i64 b, .bool s], .slice B m d] w fun e w' => e = .returned (.tuple #[.bool false, .bool false]) ∧ Below w.heap.size w w' := by
  have hW := wide_far (c := c) (by omega) hA h1 (wide_v4 (s := s) h1)
  have hV := isassign_at (c := d) hm hB h2
  obtain ⟨k0, k1, k2, _⟩ := KcL.new3 w (.slice A n c) (.int .i64 b) (.bool s) 28 rfl
  clear hA hn hB h1 h2
  go_enter Try.func21, Try.ntmps21
  go_wp2_with (first | (go_at_call 46; refine (hW _ (bal (Below.refl _ _) _)).mono ?_; rintro e w1 ⟨rfl, hq⟩; replace k1 := carryA (.cells #[.int .i64 (Z 0), .int .i64 (Z 1), .int .i64 (Z 2), .int .i64 (Z 3), .int .i64 b, .bool s] 74) (carry hq k1); replace k2 := carryA (.cells #[.int .i64 (Z 0), .int .i64 (Z 1), .int .i64 (Z 2), .int .i64 (Z 3), .int .i64 b, .bool s] 74) (carry hq k2); have q0 := bal (btr (bal (Below.refl w.heap.size w) _) hq) (.cells #[.int .i64 (Z 0), .int .i64 (Z 1), .int .i64 (Z 2), .int .i64 (Z 3), .int .i64 b, .bool s] 74)) | (go_at_call 39; refine (hV _ q0).mono ?_; rintro e w2 ⟨rfl, hq2⟩; replace k1 := carry hq2 k1; replace k2 := carry hq2 k2; obtain ⟨hc, hf⟩ := bcell hq2; replace q0 := btr q0 hq2))
  refine bodyPost_ret (v := .tuple #[.bool false, .bool false]) (by simp [results, Try.results21, go_sem]) rfl ⟨rfl, ?_⟩
  exact q0
set_option maxRecDepth 100000 in
set_option maxHeartbeats 4000000 in
theorem linat_c (A : Option Addr) (n c : Nat) (Z : Nat → Int) (b : Int) (s : Bool) (B : Option Addr) (m d : Nat) (N D : Nat → Int) (w : World) (hn : n ≤ 9223372036854775806) (hA : Ints w A n Z) (hm : m ≤ 9223372036854775806) (hB : Rats w B m N D) (h1 : okL n Z b = true) (h2 : valsB m N D = true) (h3 : (atS Z N D 4).2.2 = false) :
    Calls Try.prog 21 #[.agg #[.slice A n c, .int .i64 b, .bool s], .slice B m d] w fun e w' => e = .returned (.tuple #[.bool false, .bool false]) ∧ Below w.heap.size w w' := by
  obtain ⟨rfl, _⟩ := valsB_iff.1 h2
  have hW := wide_far (c := c) (by omega) hA h1 (wide_v4 (s := s) h1)
  have hV := isassign_at (c := d) hm hB h2
  have hC := fun W h => cat_any (Z 0) (Z 1) (Z 2) (Z 3) B d Z N D W rfl rfl rfl rfl (hB.below h)
  rw [atS_none h3] at hC
  unfold AtP at hC
  obtain ⟨k0, k1, k2, _⟩ := KcL.new3 w (.slice A n c) (.int .i64 b) (.bool s) 28 rfl
  clear hA hn hB h1 h2 h3
  go_enter Try.func21, Try.ntmps21
  go_wp2_with (first | (go_at_call 46; refine (hW _ (bal (Below.refl _ _) _)).mono ?_; rintro e w1 ⟨rfl, hq⟩; replace k1 := carryA (.cells #[.int .i64 (Z 0), .int .i64 (Z 1), .int .i64 (Z 2), .int .i64 (Z 3), .int .i64 b, .bool s] 74) (carry hq k1); replace k2 := carryA (.cells #[.int .i64 (Z 0), .int .i64 (Z 1), .int .i64 (Z 2), .int .i64 (Z 3), .int .i64 b, .bool s] 74) (carry hq k2); have q0 := bal (btr (bal (Below.refl w.heap.size w) _) hq) (.cells #[.int .i64 (Z 0), .int .i64 (Z 1), .int .i64 (Z 2), .int .i64 (Z 3), .int .i64 b, .bool s] 74)) | (go_at_call 39; refine (hV _ q0).mono ?_; rintro e w2 ⟨rfl, hq2⟩; replace k1 := carry hq2 k1; replace k2 := carry hq2 k2; obtain ⟨hc, hf⟩ := bcell hq2; replace q0 := btr q0 hq2) | (go_at_call 47; refine (hC _ q0).mono ?_; rintro e w3 ⟨rfl, hq3⟩; clear hc hf; replace k1 := carryA (.cells #[.int .i64 0, .int .i64 0] 52) (carry hq3 k1); replace k2 := carryA (.cells #[.int .i64 0, .int .i64 0] 52) (carry hq3 k2); replace q0 := bal (btr q0 hq3) (.cells #[.int .i64 0, .int .i64 0] 52)))
  refine bodyPost_ret (v := .tuple #[.bool false, .bool false]) (by simp [results, Try.results21, go_sem]) rfl ⟨rfl, ?_⟩
  exact q0
set_option maxRecDepth 100000 in
set_option maxHeartbeats 8000000 in
theorem linat_y (A : Option Addr) (n c : Nat) (Z : Nat → Int) (b : Int) (s : Bool) (B : Option Addr) (m d : Nat) (N D : Nat → Int) (x y : Int) (w : World) (hn : n ≤ 9223372036854775806) (hA : Ints w A n Z) (hm : m ≤ 9223372036854775806) (hB : Rats w B m N D) (h1 : okL n Z b = true) (h2 : valsB m N D = true) (h3 : atS Z N D 4 = (x, y, true)) :
    Calls Try.prog 21 #[.agg #[.slice A n c, .int .i64 b, .bool s], .slice B m d] w fun e w' => e = .returned (.tuple #[.bool (keepB x y b s), .bool true]) ∧ Below w.heap.size w w' := by
  obtain ⟨rfl, _⟩ := valsB_iff.1 h2
  have hW := wide_far (c := c) (by omega) hA h1 (wide_v4 (s := s) h1)
  have hV := isassign_at (c := d) hm hB h2
  have hC := fun W h => cat_any (Z 0) (Z 1) (Z 2) (Z 3) B d Z N D W rfl rfl rfl rfl (hB.below h)
  have hL := fun W => rless_any x y b 1 W
  have hE := eqrat_run x y b 1
  rw [h3] at hC
  unfold AtP at hC
  obtain ⟨k0, k1, k2, _⟩ := KcL.new3 w (.slice A n c) (.int .i64 b) (.bool s) 28 rfl
  clear hA hn hB h1 h2 h3
  unfold keepB
  generalize lessB x y b 1 = lv at hL ⊢
  generalize (x == b && y == 1) = ev at hE ⊢
  cases lv
  · cases s
    · skip
      go_enter Try.func21, Try.ntmps21
      go_wp2_with (first | (go_at_call 46; refine (hW _ (bal (Below.refl _ _) _)).mono ?_; rintro e w1 ⟨rfl, hq⟩; replace k1 := carryA (.cells #[.int .i64 (Z 0), .int .i64 (Z 1), .int .i64 (Z 2), .int .i64 (Z 3), .int .i64 b, .bool false] 74) (carry hq k1); replace k2 := carryA (.cells #[.int .i64 (Z 0), .int .i64 (Z 1), .int .i64 (Z 2), .int .i64 (Z 3), .int .i64 b, .bool false] 74) (carry hq k2); have q0 := bal (btr (bal (Below.refl w.heap.size w) _) hq) (.cells #[.int .i64 (Z 0), .int .i64 (Z 1), .int .i64 (Z 2), .int .i64 (Z 3), .int .i64 b, .bool false] 74)) | (go_at_call 39; refine (hV _ q0).mono ?_; rintro e w2 ⟨rfl, hq2⟩; replace k1 := carry hq2 k1; replace k2 := carry hq2 k2; obtain ⟨hc, hf⟩ := bcell hq2; replace q0 := btr q0 hq2) | (go_at_call 47; refine (hC _ q0).mono ?_; rintro e w3 ⟨rfl, hq3⟩; clear hc hf; replace k1 := carryA (.cells #[.int .i64 x, .int .i64 y] 52) (carry hq3 k1); replace k2 := carryA (.cells #[.int .i64 x, .int .i64 y] 52) (carry hq3 k2); replace q0 := bal (btr q0 hq3) (.cells #[.int .i64 x, .int .i64 y] 52)) | (go_at_call 48; refine (hL _).mono ?_; rintro e w4 ⟨rfl, hq4⟩; replace k2 := carry hq4 (carryA (.cells #[.int .i64 b, .int .i64 1] 52) k2); obtain ⟨hc4, hf4⟩ := bcell hq4; replace q0 := btr (bal q0 (.cells #[.int .i64 b, .int .i64 1] 52)) hq4))
      refine bodyPost_ret (v := .tuple #[.bool ev, .bool true]) (by simp [results, Try.results21, go_sem]) rfl ⟨by simp, ?_⟩
      exact q0
    · skip
      go_enter Try.func21, Try.ntmps21
      go_wp2_with (first | (go_at_call 46; refine (hW _ (bal (Below.refl _ _) _)).mono ?_; rintro e w1 ⟨rfl, hq⟩; replace k1 := carryA (.cells #[.int .i64 (Z 0), .int .i64 (Z 1), .int .i64 (Z 2), .int .i64 (Z 3), .int .i64 b, .bool true] 74) (carry hq k1); replace k2 := carryA (.cells #[.int .i64 (Z 0), .int .i64 (Z 1), .int .i64 (Z 2), .int .i64 (Z 3), .int .i64 b, .bool true] 74) (carry hq k2); have q0 := bal (btr (bal (Below.refl w.heap.size w) _) hq) (.cells #[.int .i64 (Z 0), .int .i64 (Z 1), .int .i64 (Z 2), .int .i64 (Z 3), .int .i64 b, .bool true] 74)) | (go_at_call 39; refine (hV _ q0).mono ?_; rintro e w2 ⟨rfl, hq2⟩; replace k1 := carry hq2 k1; replace k2 := carry hq2 k2; obtain ⟨hc, hf⟩ := bcell hq2; replace q0 := btr q0 hq2) | (go_at_call 47; refine (hC _ q0).mono ?_; rintro e w3 ⟨rfl, hq3⟩; clear hc hf; replace k1 := carryA (.cells #[.int .i64 x, .int .i64 y] 52) (carry hq3 k1); replace k2 := carryA (.cells #[.int .i64 x, .int .i64 y] 52) (carry hq3 k2); replace q0 := bal (btr q0 hq3) (.cells #[.int .i64 x, .int .i64 y] 52)) | (go_at_call 48; refine (hL _).mono ?_; rintro e w4 ⟨rfl, hq4⟩; replace k2 := carry hq4 (carryA (.cells #[.int .i64 b, .int .i64 1] 52) k2); obtain ⟨hc4, hf4⟩ := bcell hq4; replace q0 := btr (bal q0 (.cells #[.int .i64 b, .int .i64 1] 52)) hq4))
      refine bodyPost_ret (v := .tuple #[.bool false, .bool true]) (by simp [results, Try.results21, go_sem]) rfl ⟨by simp, ?_⟩
      exact q0
  · skip
    go_enter Try.func21, Try.ntmps21
    go_wp2_with (first | (go_at_call 46; refine (hW _ (bal (Below.refl _ _) _)).mono ?_; rintro e w1 ⟨rfl, hq⟩; replace k1 := carryA (.cells #[.int .i64 (Z 0), .int .i64 (Z 1), .int .i64 (Z 2), .int .i64 (Z 3), .int .i64 b, .bool s] 74) (carry hq k1); replace k2 := carryA (.cells #[.int .i64 (Z 0), .int .i64 (Z 1), .int .i64 (Z 2), .int .i64 (Z 3), .int .i64 b, .bool s] 74) (carry hq k2); have q0 := bal (btr (bal (Below.refl w.heap.size w) _) hq) (.cells #[.int .i64 (Z 0), .int .i64 (Z 1), .int .i64 (Z 2), .int .i64 (Z 3), .int .i64 b, .bool s] 74)) | (go_at_call 39; refine (hV _ q0).mono ?_; rintro e w2 ⟨rfl, hq2⟩; replace k1 := carry hq2 k1; replace k2 := carry hq2 k2; obtain ⟨hc, hf⟩ := bcell hq2; replace q0 := btr q0 hq2) | (go_at_call 47; refine (hC _ q0).mono ?_; rintro e w3 ⟨rfl, hq3⟩; clear hc hf; replace k1 := carryA (.cells #[.int .i64 x, .int .i64 y] 52) (carry hq3 k1); replace k2 := carryA (.cells #[.int .i64 x, .int .i64 y] 52) (carry hq3 k2); replace q0 := bal (btr q0 hq3) (.cells #[.int .i64 x, .int .i64 y] 52)) | (go_at_call 48; refine (hL _).mono ?_; rintro e w4 ⟨rfl, hq4⟩; replace k2 := carry hq4 (carryA (.cells #[.int .i64 b, .int .i64 1] 52) k2); obtain ⟨hc4, hf4⟩ := bcell hq4; replace q0 := btr (bal q0 (.cells #[.int .i64 b, .int .i64 1] 52)) hq4))
    refine bodyPost_ret (v := .tuple #[.bool true, .bool true]) (by simp [results, Try.results21, go_sem]) rfl ⟨by simp, ?_⟩
    exact q0
theorem linat_any (A : Option Addr) (n c : Nat) (Z : Nat → Int) (b : Int) (s : Bool) (B : Option Addr) (m d : Nat) (N D : Nat → Int) (w : World) (hn : n ≤ 9223372036854775806) (hA : Ints w A n Z) (hm : m ≤ 9223372036854775806) (hB : Rats w B m N D) :
    Calls Try.prog 21 #[.agg #[.slice A n c, .int .i64 b, .bool s], .slice B m d] w fun e w' => e = .returned (.tuple #[.bool (atB n Z b s m N D).1, .bool (atB n Z b s m N D).2]) ∧ Below w.heap.size w w' := by
  cases h1 : okL n Z b
  · rw [atB_no1 h1]; exact linat_a A n c Z b s B m d N D w hn hA hm hB h1
  cases h2 : valsB m N D
  · rw [atB_no2 h2]; exact linat_b A n c Z b s B m d N D w hn hA hm hB h1 h2
  rcases atS_cases Z N D 4 with h3 | ⟨x, y, h3⟩
  · rw [atB_no3 (by rw [h3])]; exact linat_c A n c Z b s B m d N D w hn hA hm hB h1 h2 (by rw [h3])
  · rw [atB_yes h1 h2 h3]; exact linat_y A n c Z b s B m d N D x y w hn hA hm hB h1 h2 h3
end Go.Proofs.Ytplocljoanaoeaa
