/- Contract of the model's LinSum. -/
import Derived.Test.YtplocljoanaoeaaLinSA
namespace Go.Proofs.Ytplocljoanaoeaa
set_option linter.unusedVariables false
set_option linter.unusedSimpArgs false
open Go.RowKit
def sumR (na : Nat) (Z : Nat → Int) (b : Int) (s : Bool) (m : Int) (nb : Nat) (Y : Nat → Int) (d : Int) (u : Bool) (n : Int) : LinR × Bool :=
  if okL na Z b = true ∧ okL nb Y d = true ∧ (0 ≤ m ∧ m ≤ 1000000) ∧ (0 ≤ n ∧ n ≤ 1000000) then addR2 Z b s m Y d u n else (zeroL, false)
set_option maxRecDepth 100000 in
set_option maxHeartbeats 2000000 in
theorem slinsum_a (A : Option Addr) (na c : Nat) (Z : Nat → Int) (b m : Int) (s : Bool) (B : Option Addr) (nb c2 : Nat) (Y : Nat → Int) (d n : Int) (u : Bool) (w : World) (hn : na ≤ 9223372036854775806) (hA : Ints w A na Z) (hn2 : nb ≤ 9223372036854775806) (hB : Ints w B nb Y) (h1 : okL na Z b = false) :
    Calls Try.prog 44 #[.agg #[.slice A na c, .int .i64 b, .bool s], .int .i64 m, .agg #[.slice B nb c2, .int .i64 d, .bool u], .int .i64 n] w (SumP w (zeroL, false)) := by
  have hO := slinok_at (c := c) (s := s) hn hA h1
  clear hA hB hn hn2 h1
  go_enter Try.func44, Try.ntmps44
  go_wp2_with fail
  refine (hO _ (bal (bal (bal (Below.refl _ _) _) _) _)).mono ?_
  rintro e w1 ⟨rfl, hq⟩
  obtain ⟨hc, hf⟩ := bcell hq
  go_wp2_with fail
  have e0 : w1.cell? ⟨w.heap.size + 1 + 1, 0, none⟩ = some (.slice none 0 0) := by rw [hc _ _ (by simp <;> omega)]; simp [go_sem]
  have e1 : w1.cell? ⟨w.heap.size + 1 + 1, 1, none⟩ = some (.int .i64 0) := by rw [hc _ _ (by simp <;> omega)]; simp [go_sem]
  have e2 : w1.cell? ⟨w.heap.size + 1 + 1, 2, none⟩ = some (.bool false) := by rw [hc _ _ (by simp <;> omega)]; simp [go_sem]
  obtain ⟨t0, t1, t2⟩ := set3 e0 e1 e2 (.slice none 0 0) (.int .i64 0) (.bool false)
  clear hc hf hO
  refine bodyPost_ret (v := .tuple #[.agg #[.slice none 0 0, .int .i64 0, .bool false], .bool false]) (by simp [results, Try.results44, go_sem, t0, t1, t2]) rfl (sum_p (r := (zeroL, false)) (NewL.zero _ _) ?_)
  clear e0 e1 e2 t0 t1 t2
  (repeat first | with_reducible exact Below.refl _ _ | with_reducible assumption | with_reducible refine Below.drew ?_ | with_reducible refine bdn ?_ _ | with_reducible refine bal ?_ _ | (with_reducible refine bst ?_ ?_ _; rotate_left; (simp <;> omega)) | (with_reducible refine btr ?_ (by with_reducible assumption)))
set_option maxRecDepth 100000 in
set_option maxHeartbeats 2000000 in
theorem slinsum_b (A : Option Addr) (na c : Nat) (Z : Nat → Int) (b m : Int) (s : Bool) (B : Option Addr) (nb c2 : Nat) (Y : Nat → Int) (d n : Int) (u : Bool) (w : World) (hn : na ≤ 9223372036854775806) (hA : Ints w A na Z) (hn2 : nb ≤ 9223372036854775806) (hB : Ints w B nb Y) (h1 : okL na Z b = true) (h2 : okL nb Y d = false) :
    Calls Try.prog 44 #[.agg #[.slice A na c, .int .i64 b, .bool s], .int .i64 m, .agg #[.slice B nb c2, .int .i64 d, .bool u], .int .i64 n] w (SumP w (zeroL, false)) := by
  have hO := slinok_at (c := c) (s := s) hn hA h1
  have hP := slinok_at (c := c2) (s := u) hn2 hB h2
  clear hA hB hn hn2 h2 h1
  go_enter Try.func44, Try.ntmps44
  go_wp2_with fail
  refine (hO _ (bal (bal (bal (Below.refl _ _) _) _) _)).mono ?_
  rintro e w1 ⟨rfl, hq⟩
  obtain ⟨hc, hf⟩ := bcell hq
  go_wp2_with fail
  refine (hP _ (btr (bal (bal (bal (Below.refl _ _) _) _) _) hq)).mono ?_
  rintro e w2 ⟨rfl, hq2⟩
  clear hc hf
  obtain ⟨hc, hf⟩ := bcell (btr hq hq2)
  go_wp2_with fail
  have e0 : w2.cell? ⟨w.heap.size + 1 + 1, 0, none⟩ = some (.slice none 0 0) := by rw [hc _ _ (by simp <;> omega)]; simp [go_sem]
  have e1 : w2.cell? ⟨w.heap.size + 1 + 1, 1, none⟩ = some (.int .i64 0) := by rw [hc _ _ (by simp <;> omega)]; simp [go_sem]
  have e2 : w2.cell? ⟨w.heap.size + 1 + 1, 2, none⟩ = some (.bool false) := by rw [hc _ _ (by simp <;> omega)]; simp [go_sem]
  obtain ⟨t0, t1, t2⟩ := set3 e0 e1 e2 (.slice none 0 0) (.int .i64 0) (.bool false)
  clear hc hf hO hP
  refine bodyPost_ret (v := .tuple #[.agg #[.slice none 0 0, .int .i64 0, .bool false], .bool false]) (by simp [results, Try.results44, go_sem, t0, t1, t2]) rfl (sum_p (r := (zeroL, false)) (NewL.zero _ _) ?_)
  clear e0 e1 e2 t0 t1 t2
  (repeat first | with_reducible exact Below.refl _ _ | with_reducible assumption | with_reducible refine Below.drew ?_ | with_reducible refine bdn ?_ _ | with_reducible refine bal ?_ _ | (with_reducible refine bst ?_ ?_ _; rotate_left; (simp <;> omega)) | (with_reducible refine btr ?_ (by with_reducible assumption)))
set_option maxRecDepth 100000 in
set_option maxHeartbeats 2000000 in
theorem slinsum_c (A : Option Addr) (na c : Nat) (Z : Nat → Int) (b m : Int) (s : Bool) (B : Option Addr) (nb c2 : Nat) (Y : Nat → Int) (d n : Int) (u : Bool) (w : World) (hn : na ≤ 9223372036854775806) (hA : Ints w A na Z) (hn2 : nb ≤ 9223372036854775806) (hB : Ints w B nb Y) (h1 : okL na Z b = true) (h2 : okL nb Y d = true) (h3 : m < 0) :
    Calls Try.prog 44 #[.agg #[.slice A na c, .int .i64 b, .bool s], .int .i64 m, .agg #[.slice B nb c2, .int .i64 d, .bool u], .int .i64 n] w (SumP w (zeroL, false)) := by
  have hO := slinok_at (c := c) (s := s) hn hA h1
  have hP := slinok_at (c := c2) (s := u) hn2 hB h2
  have k1 : decide (m < 0) = true := by simpa using h3
  clear hA hB hn hn2 h2 h1
  go_enter Try.func44, Try.ntmps44
  go_wp2_with fail
  refine (hO _ (bal (bal (bal (Below.refl _ _) _) _) _)).mono ?_
  rintro e w1 ⟨rfl, hq⟩
  obtain ⟨hc, hf⟩ := bcell hq
  go_wp2_with fail
  refine (hP _ (btr (bal (bal (bal (Below.refl _ _) _) _) _) hq)).mono ?_
  rintro e w2 ⟨rfl, hq2⟩
  clear hc hf
  obtain ⟨hc, hf⟩ := bcell (btr hq hq2)
  go_wp2_with fail
  have e0 : w2.cell? ⟨w.heap.size + 1 + 1, 0, none⟩ = some (.slice none 0 0) := by rw [hc _ _ (by simp <;> omega)]; simp [go_sem]
  have e1 : w2.cell? ⟨w.heap.size + 1 + 1, 1, none⟩ = some (.int .i64 0) := by rw [hc _ _ (by simp <;> omega)]; simp [go_sem]
  have e2 : w2.cell? ⟨w.heap.size + 1 + 1, 2, none⟩ = some (.bool false) := by rw [hc _ _ (by simp <;> omega)]; simp [go_sem]
  obtain ⟨t0, t1, t2⟩ := set3 e0 e1 e2 (.slice none 0 0) (.int .i64 0) (.bool false)
  clear hc hf hO hP
  refine bodyPost_ret (v := .tuple #[.agg #[.slice none 0 0, .int .i64 0, .bool false], .bool false]) (by simp [results, Try.results44, go_sem, t0, t1, t2]) rfl (sum_p (r := (zeroL, false)) (NewL.zero _ _) ?_)
  clear e0 e1 e2 t0 t1 t2
  (repeat first | with_reducible exact Below.refl _ _ | with_reducible assumption | with_reducible refine Below.drew ?_ | with_reducible refine bdn ?_ _ | with_reducible refine bal ?_ _ | (with_reducible refine bst ?_ ?_ _; rotate_left; (simp <;> omega)) | (with_reducible refine btr ?_ (by with_reducible assumption)))
set_option maxRecDepth 100000 in
set_option maxHeartbeats 2000000 in
theorem slinsum_d (A : Option Addr) (na c : Nat) (Z : Nat → Int) (b m : Int) (s : Bool) (B : Option Addr) (nb c2 : Nat) (Y : Nat → Int) (d n : Int) (u : Bool) (w : World) (hn : na ≤ 9223372036854775806) (hA : Ints w A na Z) (hn2 : nb ≤ 9223372036854775806) (hB : Ints w B nb Y) (h1 : okL na Z b = true) (h2 : okL nb Y d = true) (h3 : 0 ≤ m) (h4 : n < 0) :
    Calls Try.prog 44 #[.agg #[.slice A na c, .int .i64 b, .bool s], .int .i64 m, .agg #[.slice B nb c2, .int .i64 d, .bool u], .int .i64 n] w (SumP w (zeroL, false)) := by
  have hO := slinok_at (c := c) (s := s) hn hA h1
  have hP := slinok_at (c := c2) (s := u) hn2 hB h2
  have k1 : decide (m < 0) = false := by simpa using h3
  have k2 : decide (n < 0) = true := by simpa using h4
  clear hA hB hn hn2 h2 h1
  go_enter Try.func44, Try.ntmps44
  go_wp2_with fail
  refine (hO _ (bal (bal (bal (Below.refl _ _) _) _) _)).mono ?_
  rintro e w1 ⟨rfl, hq⟩
  obtain ⟨hc, hf⟩ := bcell hq
  go_wp2_with fail
  refine (hP _ (btr (bal (bal (bal (Below.refl _ _) _) _) _) hq)).mono ?_
  rintro e w2 ⟨rfl, hq2⟩
  clear hc hf
  obtain ⟨hc, hf⟩ := bcell (btr hq hq2)
  go_wp2_with fail
  have e0 : w2.cell? ⟨w.heap.size + 1 + 1, 0, none⟩ = some (.slice none 0 0) := by rw [hc _ _ (by simp <;> omega)]; simp [go_sem]
  have e1 : w2.cell? ⟨w.heap.size + 1 + 1, 1, none⟩ = some (.int .i64 0) := by rw [hc _ _ (by simp <;> omega)]; simp [go_sem]
  have e2 : w2.cell? ⟨w.heap.size + 1 + 1, 2, none⟩ = some (.bool false) := by rw [hc _ _ (by simp <;> omega)]; simp [go_sem]
  obtain ⟨t0, t1, t2⟩ := set3 e0 e1 e2 (.slice none 0 0) (.int .i64 0) (.bool false)
  clear hc hf hO hP
  refine bodyPost_ret (v := .tuple #[.agg #[.slice none 0 0, .int .i64 0, .bool false], .bool false]) (by simp [results, Try.results44, go_sem, t0, t1, t2]) rfl (sum_p (r := (zeroL, false)) (NewL.zero _ _) ?_)
  clear e0 e1 e2 t0 t1 t2
  (repeat first | with_reducible exact Below.refl _ _ | with_reducible assumption | with_reducible refine Below.drew ?_ | with_reducible refine bdn ?_ _ | with_reducible refine bal ?_ _ | (with_reducible refine bst ?_ ?_ _; rotate_left; (simp <;> omega)) | (with_reducible refine btr ?_ (by with_reducible assumption)))
set_option maxRecDepth 100000 in
set_option maxHeartbeats 2000000 in
theorem slinsum_e (A : Option Addr) (na c : Nat) (Z : Nat → Int) (b m : Int) (s : Bool) (B : Option Addr) (nb c2 : Nat) (Y : Nat → Int) (d n : Int) (u : Bool) (w : World) (hn : na ≤ 9223372036854775806) (hA : Ints w A na Z) (hn2 : nb ≤ 9223372036854775806) (hB : Ints w B nb Y) (h1 : okL na Z b = true) (h2 : okL nb Y d = true) (h3 : 0 ≤ m) (h4 : 0 ≤ n) (h5 : 1000000 < m) :
    Calls Try.prog 44 #[.agg #[.slice A na c, .int .i64 b, .bool s], .int .i64 m, .agg #[.slice B nb c2, .int .i64 d, .bool u], .int .i64 n] w (SumP w (zeroL, false)) := by
  have hO := slinok_at (c := c) (s := s) hn hA h1
  have hP := slinok_at (c := c2) (s := u) hn2 hB h2
  have k1 : decide (m < 0) = false := by simpa using h3
  have k2 : decide (n < 0) = false := by simpa using h4
  have k3 : decide (1000000 < m) = true := by simpa using h5
  clear hA hB hn hn2 h2 h1
  go_enter Try.func44, Try.ntmps44
  go_wp2_with fail
  refine (hO _ (bal (bal (bal (Below.refl _ _) _) _) _)).mono ?_
  rintro e w1 ⟨rfl, hq⟩
  obtain ⟨hc, hf⟩ := bcell hq
  go_wp2_with fail
  refine (hP _ (btr (bal (bal (bal (Below.refl _ _) _) _) _) hq)).mono ?_
  rintro e w2 ⟨rfl, hq2⟩
  clear hc hf
  obtain ⟨hc, hf⟩ := bcell (btr hq hq2)
  go_wp2_with fail
  have e0 : w2.cell? ⟨w.heap.size + 1 + 1, 0, none⟩ = some (.slice none 0 0) := by rw [hc _ _ (by simp <;> omega)]; simp [go_sem]
  have e1 : w2.cell? ⟨w.heap.size + 1 + 1, 1, none⟩ = some (.int .i64 0) := by rw [hc _ _ (by simp <;> omega)]; simp [go_sem]
  have e2 : w2.cell? ⟨w.heap.size + 1 + 1, 2, none⟩ = some (.bool false) := by rw [hc _ _ (by simp <;> omega)]; simp [go_sem]
  obtain ⟨t0, t1, t2⟩ := set3 e0 e1 e2 (.slice none 0 0) (.int .i64 0) (.bool false)
  clear hc hf hO hP
  refine bodyPost_ret (v := .tuple #[.agg #[.slice none 0 0, .int .i64 0, .bool false], .bool false]) (by simp [results, Try.results44, go_sem, t0, t1, t2]) rfl (sum_p (r := (zeroL, false)) (NewL.zero _ _) ?_)
  clear e0 e1 e2 t0 t1 t2
  (repeat first | with_reducible exact Below.refl _ _ | with_reducible assumption | with_reducible refine Below.drew ?_ | with_reducible refine bdn ?_ _ | with_reducible refine bal ?_ _ | (with_reducible refine bst ?_ ?_ _; rotate_left; (simp <;> omega)) | (with_reducible refine btr ?_ (by with_reducible assumption)))
set_option maxRecDepth 100000 in
set_option maxHeartbeats 2000000 in
theorem slinsum_f (A : Option Addr) (na c : Nat) (Z : Nat → Int) (b m : Int) (s : Bool) (B : Option Addr) (nb c2 : Nat) (Y : Nat → Int) (d n : Int) (u : Bool) (w : World) (hn : na ≤ 9223372036854775806) (hA : Ints w A na Z) (hn2 : nb ≤ 9223372036854775806) (hB : Ints w B nb Y) (h1 : okL na Z b = true) (h2 : okL nb Y d = true) (h3 : 0 ≤ m) (h4 : 0 ≤ n) (h5 : m ≤ 1000000) (h6 : 1000000 < n) :
    Calls Try.prog 44 #[.agg #[.slice A na c, .int .i64 b, .bool s], .int .i64 m, .agg #[.slice B nb c2, .int .i64 d, .bool u], .int .i64 n] w (SumP w (zeroL, false)) := by
  have hO := slinok_at (c := c) (s := s) hn hA h1
  have hP := slinok_at (c := c2) (s := u) hn2 hB h2
  have k1 : decide (m < 0) = false := by simpa using h3
  have k2 : decide (n < 0) = false := by simpa using h4
  have k3 : decide (1000000 < m) = false := by simpa using h5
  have k4 : decide (1000000 < n) = true := by simpa using h6
  clear hA hB hn hn2 h2 h1
  go_enter Try.func44, Try.ntmps44
  go_wp2_with fail
  refine (hO _ (bal (bal (bal (Below.refl _ _) _) _) _)).mono ?_
  rintro e w1 ⟨rfl, hq⟩
  obtain ⟨hc, hf⟩ := bcell hq
  go_wp2_with fail
  refine (hP _ (btr (bal (bal (bal (Below.refl _ _) _) _) _) hq)).mono ?_
  rintro e w2 ⟨rfl, hq2⟩
  clear hc hf
  obtain ⟨hc, hf⟩ := bcell (btr hq hq2)
  go_wp2_with fail
  have e0 : w2.cell? ⟨w.heap.size + 1 + 1, 0, none⟩ = some (.slice none 0 0) := by rw [hc _ _ (by simp <;> omega)]; simp [go_sem]
  have e1 : w2.cell? ⟨w.heap.size + 1 + 1, 1, none⟩ = some (.int .i64 0) := by rw [hc _ _ (by simp <;> omega)]; simp [go_sem]
  have e2 : w2.cell? ⟨w.heap.size + 1 + 1, 2, none⟩ = some (.bool false) := by rw [hc _ _ (by simp <;> omega)]; simp [go_sem]
  obtain ⟨t0, t1, t2⟩ := set3 e0 e1 e2 (.slice none 0 0) (.int .i64 0) (.bool false)
  clear hc hf hO hP
  refine bodyPost_ret (v := .tuple #[.agg #[.slice none 0 0, .int .i64 0, .bool false], .bool false]) (by simp [results, Try.results44, go_sem, t0, t1, t2]) rfl (sum_p (r := (zeroL, false)) (NewL.zero _ _) ?_)
  clear e0 e1 e2 t0 t1 t2
  (repeat first | with_reducible exact Below.refl _ _ | with_reducible assumption | with_reducible refine Below.drew ?_ | with_reducible refine bdn ?_ _ | with_reducible refine bal ?_ _ | (with_reducible refine bst ?_ ?_ _; rotate_left; (simp <;> omega)) | (with_reducible refine btr ?_ (by with_reducible assumption)))
set_option maxRecDepth 100000 in
set_option maxHeartbeats 2000000 in
theorem slinsum_y (A : Option Addr) (na c : Nat) (Z : Nat → Int) (b m : Int) (s : Bool) (B : Option Addr) (nb c2 : Nat) (Y : Nat → Int) (d n : Int) (u : Bool) (w : World) (hn : na ≤ 9223372036854775806) (hA : Ints w A na Z) (hn2 : nb ≤ 9223372036854775806) (hB : Ints w B nb Y) (h1 : okL na Z b = true) (h2 : okL nb Y d = true) (hm : 0 ≤ m ∧ m ≤ 1000000) (hk : 0 ≤ n ∧ n ≤ 1000000) :
    Calls Try.prog 44 #[.agg #[.slice A na c, .int .i64 b, .bool s], .int .i64 m, .agg #[.slice B nb c2, .int .i64 d, .bool u], .int .i64 n] w (SumP w (addR2 Z b s m Y d u n)) := by
  have hO := slinok_at (c := c) (s := s) hn hA h1
  have hP := slinok_at (c := c2) (s := u) hn2 hB h2
  have k1 : decide (m < 0) = false := by simpa using hm.1
  have k2 : decide (n < 0) = false := by simpa using hk.1
  have k3 : decide (1000000 < m) = false := by simpa using hm.2
  have k4 : decide (1000000 < n) = false := by simpa using hk.2
  obtain ⟨rfl, _, _⟩ := okL_iff.1 h1
  obtain ⟨rfl, _, _⟩ := okL_iff.1 h2
  have hL := fun W (hb : Below w.heap.size w W) => lladd_any A c Z b m s B c2 Y d n u W (hA.below hb) (hB.below hb) h1 h2 hm hk
  generalize addR2 Z b s m Y d u n = R at hL ⊢
  clear hA hB hn hn2 h1 h2 hm hk
  go_enter Try.func44, Try.ntmps44
  go_wp2_with fail
  refine (hO _ (bal (bal (bal (Below.refl _ _) _) _) _)).mono ?_
  rintro e w1 ⟨rfl, hq⟩
  obtain ⟨hc, hf⟩ := bcell hq
  go_wp2_with fail
  refine (hP _ (btr (bal (bal (bal (Below.refl _ _) _) _) _) hq)).mono ?_
  rintro e w2 ⟨rfl, hq2⟩
  clear hc hf
  obtain ⟨hc, hf⟩ := bcell (btr hq hq2)
  go_wp2_with fail
  refine (hL _ (btr (btr (bal (bal (bal (Below.refl _ _) _) _) _) hq) hq2)).mono ?_
  rintro e w3 ⟨v, rfl, ⟨A', c', rfl, hc1, hc2, hO3⟩, hq3⟩
  clear hc hf
  obtain ⟨hc, hf⟩ := bcell (btr (btr hq hq2) hq3)
  have hz := (btr hq hq2).size
  have hlr : w.heap.size + 1 + 1 < w2.heap.size := by simp at hz; omega
  go_wp2_with fail
  have e0 : w3.cell? ⟨w.heap.size + 1 + 1, 0, none⟩ = some (.slice none 0 0) := by rw [hc _ _ (by simp <;> omega)]; simp [go_sem]
  have e1 : w3.cell? ⟨w.heap.size + 1 + 1, 1, none⟩ = some (.int .i64 0) := by rw [hc _ _ (by simp <;> omega)]; simp [go_sem]
  have e2 : w3.cell? ⟨w.heap.size + 1 + 1, 2, none⟩ = some (.bool false) := by rw [hc _ _ (by simp <;> omega)]; simp [go_sem]
  obtain ⟨t0, t1, t2⟩ := set3 e0 e1 e2 (.slice A' R.1.1 c') (.int .i64 R.1.2.2.1) (.bool R.1.2.2.2)
  clear hc hf hO hP hL
  have q2 := btr (bal (bal (bal (Below.refl w.heap.size w) _) _) _) (btr hq hq2)
  have hO4 := (((hO3.set (o := 0) (.slice A' R.1.1 c') hlr).set (o := 1) (.int .i64 R.1.2.2.1) hlr).set (o := 2) (.bool R.1.2.2.2) hlr).old (W := w) q2.size
  refine bodyPost_ret (v := .tuple #[.agg #[.slice A' R.1.1 c', .int .i64 R.1.2.2.1, .bool R.1.2.2.2], .bool R.2]) (by simp [results, Try.results44, go_sem, t0, t1, t2]) rfl (sum_p (r := R) ⟨A', c', rfl, hc1, hc2, hO4⟩ ?_)
  clear e0 e1 e2 t0 t1 t2 hO3 hO4 hz
  (repeat first | with_reducible exact Below.refl _ _ | with_reducible assumption | with_reducible refine Below.drew ?_ | with_reducible refine bdn ?_ _ | with_reducible refine bal ?_ _ | (with_reducible refine bst ?_ ?_ _; rotate_left; (simp <;> omega)) | (with_reducible refine btr ?_ (by with_reducible assumption)))
theorem slinsum_any (A : Option Addr) (na c : Nat) (Z : Nat → Int) (b m : Int) (s : Bool) (B : Option Addr) (nb c2 : Nat) (Y : Nat → Int) (d n : Int) (u : Bool) (w : World) (hn : na ≤ 9223372036854775806) (hA : Ints w A na Z) (hn2 : nb ≤ 9223372036854775806) (hB : Ints w B nb Y) :
    Calls Try.prog 44 #[.agg #[.slice A na c, .int .i64 b, .bool s], .int .i64 m, .agg #[.slice B nb c2, .int .i64 d, .bool u], .int .i64 n] w (SumP w (sumR na Z b s m nb Y d u n)) := by
  unfold sumR
  cases h1 : okL na Z b
  · rw [if_neg (by simp)]; exact slinsum_a A na c Z b m s B nb c2 Y d n u w hn hA hn2 hB h1
  cases h2 : okL nb Y d
  · rw [if_neg (by simp)]; exact slinsum_b A na c Z b m s B nb c2 Y d n u w hn hA hn2 hB h1 h2
  by_cases h3 : 0 ≤ m
  · by_cases h4 : 0 ≤ n
    · by_cases h5 : m ≤ 1000000
      · by_cases h6 : n ≤ 1000000
        · rw [if_pos ⟨rfl, rfl, ⟨h3, h5⟩, ⟨h4, h6⟩⟩]; exact slinsum_y A na c Z b m s B nb c2 Y d n u w hn hA hn2 hB h1 h2 ⟨h3, h5⟩ ⟨h4, h6⟩
        · rw [if_neg (fun h => h6 h.2.2.2.2)]; exact slinsum_f A na c Z b m s B nb c2 Y d n u w hn hA hn2 hB h1 h2 h3 h4 h5 (by omega)
      · rw [if_neg (fun h => h5 h.2.2.1.2)]; exact slinsum_e A na c Z b m s B nb c2 Y d n u w hn hA hn2 hB h1 h2 h3 h4 (by omega)
    · rw [if_neg (fun h => h4 h.2.2.2.1)]; exact slinsum_d A na c Z b m s B nb c2 Y d n u w hn hA hn2 hB h1 h2 h3 (by omega)
  · rw [if_neg (fun h => h3 h.2.2.1.1)]; exact slinsum_c A na c Z b m s B nb c2 Y d n u w hn hA hn2 hB h1 h2 (by omega)
end Go.Proofs.Ytplocljoanaoeaa
