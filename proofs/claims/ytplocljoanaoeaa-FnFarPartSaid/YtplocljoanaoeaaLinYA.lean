/- Contract of the model's LinAt. -/
import Derived.Test.YtplocljoanaoeaaLinY
namespace Go.Proofs.Ytplocljoanaoeaa
set_option linter.unusedVariables false
set_option linter.unusedSimpArgs false
open Go.RowKit
set_option maxRecDepth 100000 in
set_option maxHeartbeats 2000000 in
theorem slinat_a (A : Option Addr) (n c : Nat) (Z : Nat → Int) (b : Int) (s : Bool) (B : Option Addr) (m d : Nat) (N D : Nat → Int) (w : World) (hn : n ≤ 9223372036854775806) (hA : Ints w A n Z) (hm : m ≤ 9223372036854775806) (hB : Rats w B m N D) (h1 : okL n Z b = false) :
    Calls Try.prog 57 #[.agg #[.slice A n c, .int .i64 b, .bool s], .slice B m d] w fun e w' => e = .returned (.tuple #[.bool false, .bool false]) ∧ Below w.heap.size w w' := by
  have hO := slinok_at (c := c) (s := s) hn hA h1
  obtain ⟨k0, k1, k2, _⟩ := KcL.new3 w (.slice A n c) (.int .i64 b) (.bool s) 28 rfl
  have q0 := (bal (Below.refl w.heap.size w) (.cells #[.slice A n c, .int .i64 b, .bool s] 28))
  clear hA hn hB
  go_enter Try.func57, Try.ntmps57
  go_wp2_with (first | (go_at_call 65; refine (hO _ q0).mono ?_; rintro e w1 ⟨rfl, hq⟩; replace k0 := carry hq k0; replace k1 := carry hq k1; replace k2 := carry hq k2; replace q0 := btr q0 hq; clear hq))
  refine bodyPost_ret (v := .tuple #[.bool false, .bool false]) (by simp [results, Try.results57, go_sem]) rfl ⟨rfl, ?_⟩
  exact q0
set_option maxRecDepth 100000 in
set_option maxHeartbeats 2000000 in
theorem slinat_b (A : Option Addr) (n c : Nat) (Z : Nat → Int) (b : Int) (s : Bool) (B : Option Addr) (m d : Nat) (N D : Nat → Int) (w : World) (hn : n ≤ 9223372036854775806) (hA : Ints w A n Z) (hm : m ≤ 9223372036854775806) (hB : Rats w B m N D) (h1 : okL n Z b = true) (h2 : valsB m N D = false) :
    Calls Try.prog 57 #[.agg #[.slice A n c, .int .i64 b, .bool s], .slice B m d] w fun e w' => e = .returned (.tuple #[.bool false, .bool false]) ∧ Below w.heap.size w w' := by
  have hO := slinok_at (c := c) (s := s) hn hA h1
  have hV := svals_at (c := d) hm hB h2
  obtain ⟨k0, k1, k2, _⟩ := KcL.new3 w (.slice A n c) (.int .i64 b) (.bool s) 28 rfl
  have q0 := (bal (Below.refl w.heap.size w) (.cells #[.slice A n c, .int .i64 b, .bool s] 28))
  clear hA hn hB h1 h2
  go_enter Try.func57, Try.ntmps57
  go_wp2_with (first | (go_at_call 65; refine (hO _ q0).mono ?_; rintro e w1 ⟨rfl, hq⟩; replace k0 := carry hq k0; replace k1 := carry hq k1; replace k2 := carry hq k2; replace q0 := btr q0 hq; clear hq) | (go_at_call 58; refine (hV _ q0).mono ?_; rintro e w2 ⟨rfl, hq⟩; replace k0 := carry hq k0; replace k1 := carry hq k1; replace k2 := carry hq k2; replace q0 := btr q0 hq; clear hq))
  refine bodyPost_ret (v := .tuple #[.bool false, .bool false]) (by simp [results, Try.results57, go_sem]) rfl ⟨rfl, ?_⟩
  exact q0
set_option maxRecDepth 100000 in
set_option maxHeartbeats 4000000 in
theorem slinat_c (A : Option Addr) (n c : Nat) (Z : Nat → Int) (b : Int) (s : Bool) (B : Option Addr) (m d : Nat) (N D : Nat → Int) (w : World) (hn : n ≤ 9223372036854775806) (hA : Ints w A n Z) (hm : m ≤ 9223372036854775806) (hB : Rats w B m N D) (h1 : okL n Z b = true) (h2 : valsB m N D = true) (h3 : (atS Z N D 4).2.2 = false) :
    Calls Try.prog 57 #[.agg #[.slice A n c, .int .i64 b, .bool s], .slice B m d] w fun e w' => e = .returned (.tuple #[.bool false, .bool false]) ∧ Below w.heap.size w w' := by
  obtain ⟨rfl, _⟩ := valsB_iff.1 h2
  obtain ⟨rfl, _, _⟩ := okL_iff.1 h1
  have hO := slinok_at (c := c) (s := s) hn hA h1
  have hV := svals_at (c := d) hm hB h2
  have hC := fun W h => slsum2_any A c b s B d Z N D W (hA.below h) (hB.below h)
  rw [atS_none h3] at hC
  unfold SlP at hC
  obtain ⟨k0, k1, k2, _⟩ := KcL.new3 w (.slice A 4 c) (.int .i64 b) (.bool s) 28 rfl
  have q0 := (bal (Below.refl w.heap.size w) (.cells #[.slice A 4 c, .int .i64 b, .bool s] 28))
  clear hA hn hB h1 h2 h3
  go_enter Try.func57, Try.ntmps57
  go_wp2_with (first | (go_at_call 65; refine (hO _ q0).mono ?_; rintro e w1 ⟨rfl, hq⟩; replace k0 := carry hq k0; replace k1 := carry hq k1; replace k2 := carry hq k2; replace q0 := btr q0 hq; clear hq) | (go_at_call 58; refine (hV _ q0).mono ?_; rintro e w2 ⟨rfl, hq⟩; replace k0 := carry hq k0; replace k1 := carry hq k1; replace k2 := carry hq k2; replace q0 := btr q0 hq; clear hq) | (go_at_call 86; refine (hC _ q0).mono ?_; rintro e w3 ⟨x, y, rfl, _, hq⟩; replace k1 := carryA (.cells #[.int .i64 x, .int .i64 y] 52) (carry hq k1); replace k2 := carryA (.cells #[.int .i64 x, .int .i64 y] 52) (carry hq k2); replace q0 := bal (btr q0 hq) (.cells #[.int .i64 x, .int .i64 y] 52)))
  refine bodyPost_ret (v := .tuple #[.bool false, .bool false]) (by simp [results, Try.results57, go_sem]) rfl ⟨rfl, ?_⟩
  exact q0
set_option maxRecDepth 100000 in
set_option maxHeartbeats 8000000 in
theorem slinat_y (A : Option Addr) (n c : Nat) (Z : Nat → Int) (b : Int) (s : Bool) (B : Option Addr) (m d : Nat) (N D : Nat → Int) (x y : Int) (w : World) (hn : n ≤ 9223372036854775806) (hA : Ints w A n Z) (hm : m ≤ 9223372036854775806) (hB : Rats w B m N D) (h1 : okL n Z b = true) (h2 : valsB m N D = true) (h3 : atS Z N D 4 = (x, y, true)) :
    Calls Try.prog 57 #[.agg #[.slice A n c, .int .i64 b, .bool s], .slice B m d] w fun e w' => e = .returned (.tuple #[.bool (keepB x y b s), .bool true]) ∧ Below w.heap.size w w' := by
  obtain ⟨rfl, _⟩ := valsB_iff.1 h2
  obtain ⟨rfl, _, _⟩ := okL_iff.1 h1
  have hO := slinok_at (c := c) (s := s) hn hA h1
  have hV := svals_at (c := d) hm hB h2
  have hC := fun W h => slsum2_any A c b s B d Z N D W (hA.below h) (hB.below h)
  have hL := fun W => sless_any x y b 1 W
  have hE := eqrat_run x y b 1
  rw [h3] at hC
  unfold SlP at hC
  obtain ⟨k0, k1, k2, _⟩ := KcL.new3 w (.slice A 4 c) (.int .i64 b) (.bool s) 28 rfl
  have q0 := (bal (Below.refl w.heap.size w) (.cells #[.slice A 4 c, .int .i64 b, .bool s] 28))
  clear hA hn hB h1 h2 h3
  unfold keepB
  generalize lessB x y b 1 = lv at hL ⊢
  generalize (x == b && y == 1) = ev at hE ⊢
  cases lv
  · cases s
    · skip
      go_enter Try.func57, Try.ntmps57
      go_wp2_with (first | (go_at_call 65; refine (hO _ q0).mono ?_; rintro e w1 ⟨rfl, hq⟩; replace k0 := carry hq k0; replace k1 := carry hq k1; replace k2 := carry hq k2; replace q0 := btr q0 hq; clear hq) | (go_at_call 58; refine (hV _ q0).mono ?_; rintro e w2 ⟨rfl, hq⟩; replace k0 := carry hq k0; replace k1 := carry hq k1; replace k2 := carry hq k2; replace q0 := btr q0 hq; clear hq) | (go_at_call 86; refine (hC _ q0).mono ?_; rintro e w3 ⟨x1, y1, rfl, hxy, hq⟩; obtain ⟨rfl, rfl⟩ : x = x1 ∧ y = y1 := (by simpa using hxy); clear hxy; replace k1 := carryA (.cells #[.int .i64 x, .int .i64 y] 52) (carry hq k1); replace k2 := carryA (.cells #[.int .i64 x, .int .i64 y] 52) (carry hq k2); replace q0 := bal (btr q0 hq) (.cells #[.int .i64 x, .int .i64 y] 52)) | (go_at_call 87; refine (hL _).mono ?_; rintro e w4 ⟨rfl, hq4⟩; replace k2 := carry hq4 (carryA (.cells #[.int .i64 b, .int .i64 1] 52) k2); obtain ⟨hc4, hf4⟩ := bcell hq4; replace q0 := btr (bal q0 (.cells #[.int .i64 b, .int .i64 1] 52)) hq4))
      refine bodyPost_ret (v := .tuple #[.bool ev, .bool true]) (by simp [results, Try.results57, go_sem]) rfl ⟨by simp, ?_⟩
      exact q0
    · skip
      go_enter Try.func57, Try.ntmps57
      go_wp2_with (first | (go_at_call 65; refine (hO _ q0).mono ?_; rintro e w1 ⟨rfl, hq⟩; replace k0 := carry hq k0; replace k1 := carry hq k1; replace k2 := carry hq k2; replace q0 := btr q0 hq; clear hq) | (go_at_call 58; refine (hV _ q0).mono ?_; rintro e w2 ⟨rfl, hq⟩; replace k0 := carry hq k0; replace k1 := carry hq k1; replace k2 := carry hq k2; replace q0 := btr q0 hq; clear hq) | (go_at_call 86; refine (hC _ q0).mono ?_; rintro e w3 ⟨x1, y1, rfl, hxy, hq⟩; obtain ⟨rfl, rfl⟩ : x = x1 ∧ y = y1 := (by simpa using hxy); clear hxy; replace k1 := carryA (.cells #[.int .i64 x, .int .i64 y] 52) (carry hq k1); replace k2 := carryA (.cells #[.int .i64 x, .int .i64 y] 52) (carry hq k2); replace q0 := bal (btr q0 hq) (.cells #[.int .i64 x, .int .i64 y] 52)) | (go_at_call 87; refine (hL _).mono ?_; rintro e w4 ⟨rfl, hq4⟩; replace k2 := carry hq4 (carryA (.cells #[.int .i64 b, .int .i64 1] 52) k2); obtain ⟨hc4, hf4⟩ := bcell hq4; replace q0 := btr (bal q0 (.cells #[.int .i64 b, .int .i64 1] 52)) hq4))
      refine bodyPost_ret (v := .tuple #[.bool false, .bool true]) (by simp [results, Try.results57, go_sem]) rfl ⟨by simp, ?_⟩
      exact q0
  · skip
    go_enter Try.func57, Try.ntmps57
    go_wp2_with (first | (go_at_call 65; refine (hO _ q0).mono ?_; rintro e w1 ⟨rfl, hq⟩; replace k0 := carry hq k0; replace k1 := carry hq k1; replace k2 := carry hq k2; replace q0 := btr q0 hq; clear hq) | (go_at_call 58; refine (hV _ q0).mono ?_; rintro e w2 ⟨rfl, hq⟩; replace k0 := carry hq k0; replace k1 := carry hq k1; replace k2 := carry hq k2; replace q0 := btr q0 hq; clear hq) | (go_at_call 86; refine (hC _ q0).mono ?_; rintro e w3 ⟨x1, y1, rfl, hxy, hq⟩; obtain ⟨rfl, rfl⟩ : x = x1 ∧ y = y1 := (by simpa using hxy); clear hxy; replace k1 := carryA (.cells #[.int .i64 x, .int .i64 y] 52) (carry hq k1); replace k2 := carryA (.cells #[.int .i64 x, .int .i64 y] 52) (carry hq k2); replace q0 := bal (btr q0 hq) (.cells #[.int .i64 x, .int .i64 y] 52)) | (go_at_call 87; refine (hL _).mono ?_; rintro e w4 ⟨rfl, hq4⟩; replace k2 := carry hq4 (carryA (.cells #[.int .i64 b, .int .i64 1] 52) k2); obtain ⟨hc4, hf4⟩ := bcell hq4; replace q0 := btr (bal q0 (.cells #[.int .i64 b, .int .i64 1] 52)) hq4))
    refine bodyPost_ret (v := .tuple #[.bool true, .bool true]) (by simp [results, Try.results57, go_sem]) rfl ⟨by simp, ?_⟩
    exact q0
theorem slinat_any (A : Option Addr) (n c : Nat) (Z : Nat → Int) (b : Int) (s : Bool) (B : Option Addr) (m d : Nat) (N D : Nat → Int) (w : World) (hn : n ≤ 9223372036854775806) (hA : Ints w A n Z) (hm : m ≤ 9223372036854775806) (hB : Rats w B m N D) :
    Calls Try.prog 57 #[.agg #[.slice A n c, .int .i64 b, .bool s], .slice B m d] w fun e w' => e = .returned (.tuple #[.bool (atB n Z b s m N D).1, .bool (atB n Z b s m N D).2]) ∧ Below w.heap.size w w' := by
  cases h1 : okL n Z b
  · rw [atB_no1 h1]; exact slinat_a A n c Z b s B m d N D w hn hA hm hB h1
  cases h2 : valsB m N D
  · rw [atB_no2 h2]; exact slinat_b A n c Z b s B m d N D w hn hA hm hB h1 h2
  rcases atS_cases Z N D 4 with h3 | ⟨x, y, h3⟩
  · rw [atB_no3 (by rw [h3])]; exact slinat_c A n c Z b s B m d N D w hn hA hm hB h1 h2 (by rw [h3])
  · rw [atB_yes h1 h2 h3]; exact slinat_y A n c Z b s B m d N D x y w hn hA hm hB h1 h2 h3
end Go.Proofs.Ytplocljoanaoeaa
