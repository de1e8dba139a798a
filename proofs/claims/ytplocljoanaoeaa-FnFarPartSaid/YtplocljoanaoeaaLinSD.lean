/- Contract of the program's LinSum. -/
import Derived.Test.YtplocljoanaoeaaLinSB
import Derived.Test.YtplocljoanaoeaaLinSC
namespace Go.Proofs.Ytplocljoanaoeaa
set_option linter.unusedVariables false
set_option linter.unusedSimpArgs false
open Go.RowKit
theorem KcL.new6 (w : World) (x0 x1 x2 x3 x4 x5 : Value) (t : TypeId) : KcL [(w.heap.size, 0, x0), (w.heap.size, 1, x1), (w.heap.size, 2, x2), (w.heap.size, 3, x3), (w.heap.size, 4, x4), (w.heap.size, 5, x5)] (w.alloc (.cells #[x0, x1, x2, x3, x4, x5] t)) := by
  refine ⟨?_, ?_, ?_, ?_, ?_, ?_, trivial⟩ <;> simp [go_sem]
theorem mult_at (n : Int) (w : World) {v : Bool} (h : decide (0 ≤ n ∧ n ≤ 1000000) = v) :
    Calls Try.prog 72 #[.int .i64 n] w fun e w' => e = .returned (.bool v) ∧ w' = w := by subst h; exact mult_any n w
/-- behind both calls of wide: the two rows in new blocks, the result still empty -/
def SumS (w w3 : World) (p1 p2 : Nat) (x y : List Value) : Prop :=
  Below w.heap.size w w3 ∧ KcL [(p1, 0, x.getD 0 undef), (p1, 1, x.getD 1 undef), (p1, 2, x.getD 2 undef), (p1, 3, x.getD 3 undef), (p1, 4, x.getD 4 undef), (p1, 5, x.getD 5 undef), (p2, 0, y.getD 0 undef), (p2, 1, y.getD 1 undef), (p2, 2, y.getD 2 undef), (p2, 3, y.getD 3 undef), (p2, 4, y.getD 4 undef), (p2, 5, y.getD 5 undef),
    (w.heap.size + 1 + 1, 0, .slice none 0 0), (w.heap.size + 1 + 1, 1, .int .i64 0), (w.heap.size + 1 + 1, 2, .bool false)] w3 ∧ ∀ o, w3.frozen? ⟨w.heap.size + 1 + 1, o, none⟩ = false
set_option maxRecDepth 100000 in
set_option maxHeartbeats 4000000 in
theorem linsum_a (A : Option Addr) (na c : Nat) (Z : Nat → Int) (b m : Int) (s : Bool) (B : Option Addr) (nb c2 : Nat) (Y : Nat → Int) (d n : Int) (u : Bool) (w : World) (hn : na ≤ 9223372036854775807) (hA : Ints w A na Z) (hn2 : nb ≤ 9223372036854775807) (hB : Ints w B nb Y) (h1 : okL na Z b = false) {vb : Bool} (h2 : okL nb Y d = vb) :
    Calls Try.prog 42 #[.agg #[.slice A na c, .int .i64 b, .bool s], .int .i64 m, .agg #[.slice B nb c2, .int .i64 d, .bool u], .int .i64 n] w (SumP w (zeroL, false)) := by
  obtain ⟨x0, x1, x2, x3, x4, xs, hx⟩ := wideV_six na Z b s
  obtain ⟨y0', y1', y2', y3', y4', ys, hy⟩ := wideV_six nb Y d u
  have hW := wide_far (c := c) hn hA h1 hx
  have hV := wide_far (c := c2) hn2 hB h2 hy
  clear hx hy hA hB hn hn2 h1 h2
  go_enter Try.func42, Try.ntmps42
  go_wp2_with fail
  refine (hW _ (bal (bal (bal (Below.refl _ _) _) _) _)).mono ?_
  rintro e w1 ⟨rfl, hq⟩
  obtain ⟨hc, hf⟩ := bcell hq
  have y0 : w1.cell? ⟨w.heap.size + 1, 0, none⟩ = some (.slice B nb c2) := by rw [hc _ _ (by simp <;> omega)]; simp [go_sem]
  have y1 : w1.cell? ⟨w.heap.size + 1, 1, none⟩ = some (.int .i64 d) := by rw [hc _ _ (by simp <;> omega)]; simp [go_sem]
  have y2 : w1.cell? ⟨w.heap.size + 1, 2, none⟩ = some (.bool u) := by rw [hc _ _ (by simp <;> omega)]; simp [go_sem]
  have r0 : w1.cell? ⟨w.heap.size + 1 + 1, 0, none⟩ = some (.slice none 0 0) := by rw [hc _ _ (by simp <;> omega)]; simp [go_sem]
  have r1 : w1.cell? ⟨w.heap.size + 1 + 1, 1, none⟩ = some (.int .i64 0) := by rw [hc _ _ (by simp <;> omega)]; simp [go_sem]
  have r2 : w1.cell? ⟨w.heap.size + 1 + 1, 2, none⟩ = some (.bool false) := by rw [hc _ _ (by simp <;> omega)]; simp [go_sem]
  have fr : ∀ o, w1.frozen? ⟨w.heap.size + 1 + 1, o, none⟩ = false := fun o => by rw [hf _ _ (by simp <;> omega)]; simp [go_sem]
  have q0 := btr (bal (bal (bal (Below.refl w.heap.size w) _) _) _) hq
  have R3 : KcL [(w.heap.size + 1 + 1, 0, .slice none 0 0), (w.heap.size + 1 + 1, 1, .int .i64 0), (w.heap.size + 1 + 1, 2, .bool false)] w1 := ⟨r0, r1, r2, trivial⟩
  have K := (KcL.new6 w1 (.int .i64 x0) (.int .i64 x1) (.int .i64 x2) (.int .i64 x3) (.int .i64 x4) (.bool xs) 74).app (R3.alloc _)
  have hl := cell_lt r0
  have hly := cell_lt y0
  have ca := fun (x : Obj) (b o : Nat) (h : b < w1.heap.size) => World.cell?_alloc_lt w1 x ⟨b, o, none⟩ h
  clear hc hf hq r0 r1 r2 R3
  go_wp2_with fail
  refine (hV _ (btr q0 (bal (Below.refl w1.heap.size w1) _))).mono ?_
  rintro e w2 ⟨rfl, hq⟩
  clear hW hV ca y0 y1 y2
  replace q0 := btr (btr q0 (bal (Below.refl w1.heap.size w1) _)) hq
  have q2 := btr (bal (Below.refl w1.heap.size w1) _) hq
  replace fr := fun o => carryf q2 (fr o) hl
  have fr2 := fun o => carryAf (.cells #[.int .i64 y0', .int .i64 y1', .int .i64 y2', .int .i64 y3', .int .i64 y4', .bool ys] 74) (fr o) (Nat.lt_of_lt_of_le hl q2.size)
  have K2 := ((K.below hq).alloc (.cells #[.int .i64 y0', .int .i64 y1', .int .i64 y2', .int .i64 y3', .int .i64 y4', .bool ys] 74)).app (KcL.new6 w2 (.int .i64 y0') (.int .i64 y1') (.int .i64 y2') (.int .i64 y3') (.int .i64 y4') (.bool ys) 74)
  have q3 := btr q0 (bal (Below.refl w2.heap.size w2) (.cells #[.int .i64 y0', .int .i64 y1', .int .i64 y2', .int .i64 y3', .int .i64 y4', .bool ys] 74))
  clear K fr q0 hq q2 hl hly
  go_upto_region 3 with fail
  generalize w2.alloc (.cells #[.int .i64 y0', .int .i64 y1', .int .i64 y2', .int .i64 y3', .int .i64 y4', .bool ys] 74) = w3 at *
  have HH_ := K2; obtain ⟨k0, k1, k2, k3, k4, k5, k6, k7, k8, k9, k10, k11, k12, k13, k14, _⟩ := HH_
  go_wp2_with (fail)
  obtain ⟨t0, t1, t2⟩ := set3 k6 k7 k8 (.slice none 0 0) (.int .i64 0) (.bool false)
  refine bodyPost_ret (v := .tuple #[.agg #[.slice none 0 0, .int .i64 0, .bool false], .bool false]) (by simp [results, Try.results42, go_sem, t0, t1, t2]) rfl (sum_p (r := (zeroL, false)) (NewL.zero _ _) ?_)
  clear t0 t1 t2 fr2 K2
  clear k0 k1 k2 k3 k4 k5 k6 k7 k8 k9 k10 k11 k12 k13 k14
  (repeat first | with_reducible exact Below.refl _ _ | with_reducible assumption | with_reducible refine Below.drew ?_ | with_reducible refine bdn ?_ _ | with_reducible refine bal ?_ _ | (with_reducible refine bst ?_ ?_ _; rotate_left; (simp <;> omega)) | (with_reducible refine btr ?_ (by with_reducible assumption)))
set_option maxRecDepth 100000 in
set_option maxHeartbeats 4000000 in
theorem linsum_b (A : Option Addr) (na c : Nat) (Z : Nat → Int) (b m : Int) (s : Bool) (B : Option Addr) (nb c2 : Nat) (Y : Nat → Int) (d n : Int) (u : Bool) (w : World) (hn : na ≤ 9223372036854775807) (hA : Ints w A na Z) (hn2 : nb ≤ 9223372036854775807) (hB : Ints w B nb Y) (h1 : okL na Z b = true) (h2 : okL nb Y d = false) :
    Calls Try.prog 42 #[.agg #[.slice A na c, .int .i64 b, .bool s], .int .i64 m, .agg #[.slice B nb c2, .int .i64 d, .bool u], .int .i64 n] w (SumP w (zeroL, false)) := by
  obtain ⟨x0, x1, x2, x3, x4, xs, hx⟩ := wideV_six na Z b s
  obtain ⟨y0', y1', y2', y3', y4', ys, hy⟩ := wideV_six nb Y d u
  have hW := wide_far (c := c) hn hA h1 hx
  have hV := wide_far (c := c2) hn2 hB h2 hy
  clear hx hy hA hB hn hn2 h1 h2
  go_enter Try.func42, Try.ntmps42
  go_wp2_with fail
  refine (hW _ (bal (bal (bal (Below.refl _ _) _) _) _)).mono ?_
  rintro e w1 ⟨rfl, hq⟩
  obtain ⟨hc, hf⟩ := bcell hq
  have y0 : w1.cell? ⟨w.heap.size + 1, 0, none⟩ = some (.slice B nb c2) := by rw [hc _ _ (by simp <;> omega)]; simp [go_sem]
  have y1 : w1.cell? ⟨w.heap.size + 1, 1, none⟩ = some (.int .i64 d) := by rw [hc _ _ (by simp <;> omega)]; simp [go_sem]
  have y2 : w1.cell? ⟨w.heap.size + 1, 2, none⟩ = some (.bool u) := by rw [hc _ _ (by simp <;> omega)]; simp [go_sem]
  have r0 : w1.cell? ⟨w.heap.size + 1 + 1, 0, none⟩ = some (.slice none 0 0) := by rw [hc _ _ (by simp <;> omega)]; simp [go_sem]
  have r1 : w1.cell? ⟨w.heap.size + 1 + 1, 1, none⟩ = some (.int .i64 0) := by rw [hc _ _ (by simp <;> omega)]; simp [go_sem]
  have r2 : w1.cell? ⟨w.heap.size + 1 + 1, 2, none⟩ = some (.bool false) := by rw [hc _ _ (by simp <;> omega)]; simp [go_sem]
  have fr : ∀ o, w1.frozen? ⟨w.heap.size + 1 + 1, o, none⟩ = false := fun o => by rw [hf _ _ (by simp <;> omega)]; simp [go_sem]
  have q0 := btr (bal (bal (bal (Below.refl w.heap.size w) _) _) _) hq
  have R3 : KcL [(w.heap.size + 1 + 1, 0, .slice none 0 0), (w.heap.size + 1 + 1, 1, .int .i64 0), (w.heap.size + 1 + 1, 2, .bool false)] w1 := ⟨r0, r1, r2, trivial⟩
  have K := (KcL.new6 w1 (.int .i64 x0) (.int .i64 x1) (.int .i64 x2) (.int .i64 x3) (.int .i64 x4) (.bool xs) 74).app (R3.alloc _)
  have hl := cell_lt r0
  have hly := cell_lt y0
  have ca := fun (x : Obj) (b o : Nat) (h : b < w1.heap.size) => World.cell?_alloc_lt w1 x ⟨b, o, none⟩ h
  clear hc hf hq r0 r1 r2 R3
  go_wp2_with fail
  refine (hV _ (btr q0 (bal (Below.refl w1.heap.size w1) _))).mono ?_
  rintro e w2 ⟨rfl, hq⟩
  clear hW hV ca y0 y1 y2
  replace q0 := btr (btr q0 (bal (Below.refl w1.heap.size w1) _)) hq
  have q2 := btr (bal (Below.refl w1.heap.size w1) _) hq
  replace fr := fun o => carryf q2 (fr o) hl
  have fr2 := fun o => carryAf (.cells #[.int .i64 y0', .int .i64 y1', .int .i64 y2', .int .i64 y3', .int .i64 y4', .bool ys] 74) (fr o) (Nat.lt_of_lt_of_le hl q2.size)
  have K2 := ((K.below hq).alloc (.cells #[.int .i64 y0', .int .i64 y1', .int .i64 y2', .int .i64 y3', .int .i64 y4', .bool ys] 74)).app (KcL.new6 w2 (.int .i64 y0') (.int .i64 y1') (.int .i64 y2') (.int .i64 y3') (.int .i64 y4') (.bool ys) 74)
  have q3 := btr q0 (bal (Below.refl w2.heap.size w2) (.cells #[.int .i64 y0', .int .i64 y1', .int .i64 y2', .int .i64 y3', .int .i64 y4', .bool ys] 74))
  clear K fr q0 hq q2 hl hly
  go_upto_region 3 with fail
  generalize w2.alloc (.cells #[.int .i64 y0', .int .i64 y1', .int .i64 y2', .int .i64 y3', .int .i64 y4', .bool ys] 74) = w3 at *
  have HH_ := K2; obtain ⟨k0, k1, k2, k3, k4, k5, k6, k7, k8, k9, k10, k11, k12, k13, k14, _⟩ := HH_
  go_wp2_with (fail)
  obtain ⟨t0, t1, t2⟩ := set3 k6 k7 k8 (.slice none 0 0) (.int .i64 0) (.bool false)
  refine bodyPost_ret (v := .tuple #[.agg #[.slice none 0 0, .int .i64 0, .bool false], .bool false]) (by simp [results, Try.results42, go_sem, t0, t1, t2]) rfl (sum_p (r := (zeroL, false)) (NewL.zero _ _) ?_)
  clear t0 t1 t2 fr2 K2
  clear k0 k1 k2 k3 k4 k5 k6 k7 k8 k9 k10 k11 k12 k13 k14
  (repeat first | with_reducible exact Below.refl _ _ | with_reducible assumption | with_reducible refine Below.drew ?_ | with_reducible refine bdn ?_ _ | with_reducible refine bal ?_ _ | (with_reducible refine bst ?_ ?_ _; rotate_left; (simp <;> omega)) | (with_reducible refine btr ?_ (by with_reducible assumption)))
set_option maxRecDepth 100000 in
set_option maxHeartbeats 4000000 in
theorem linsum_c (A : Option Addr) (na c : Nat) (Z : Nat → Int) (b m : Int) (s : Bool) (B : Option Addr) (nb c2 : Nat) (Y : Nat → Int) (d n : Int) (u : Bool) (w : World) (hn : na ≤ 9223372036854775807) (hA : Ints w A na Z) (hn2 : nb ≤ 9223372036854775807) (hB : Ints w B nb Y) (h1 : okL na Z b = true) (h2 : okL nb Y d = true) (hm : ¬ (0 ≤ m ∧ m ≤ 1000000)) :
    Calls Try.prog 42 #[.agg #[.slice A na c, .int .i64 b, .bool s], .int .i64 m, .agg #[.slice B nb c2, .int .i64 d, .bool u], .int .i64 n] w (SumP w (zeroL, false)) := by
  obtain ⟨x0, x1, x2, x3, x4, xs, hx⟩ := wideV_six na Z b s
  obtain ⟨y0', y1', y2', y3', y4', ys, hy⟩ := wideV_six nb Y d u
  have hW := wide_far (c := c) hn hA h1 hx
  have hV := wide_far (c := c2) hn2 hB h2 hy
  have hM := fun W => mult_at m W (v := false) (by simpa using hm)
  clear hx hy hA hB hn hn2 h1 h2
  go_enter Try.func42, Try.ntmps42
  go_wp2_with fail
  refine (hW _ (bal (bal (bal (Below.refl _ _) _) _) _)).mono ?_
  rintro e w1 ⟨rfl, hq⟩
  obtain ⟨hc, hf⟩ := bcell hq
  have y0 : w1.cell? ⟨w.heap.size + 1, 0, none⟩ = some (.slice B nb c2) := by rw [hc _ _ (by simp <;> omega)]; simp [go_sem]
  have y1 : w1.cell? ⟨w.heap.size + 1, 1, none⟩ = some (.int .i64 d) := by rw [hc _ _ (by simp <;> omega)]; simp [go_sem]
  have y2 : w1.cell? ⟨w.heap.size + 1, 2, none⟩ = some (.bool u) := by rw [hc _ _ (by simp <;> omega)]; simp [go_sem]
  have r0 : w1.cell? ⟨w.heap.size + 1 + 1, 0, none⟩ = some (.slice none 0 0) := by rw [hc _ _ (by simp <;> omega)]; simp [go_sem]
  have r1 : w1.cell? ⟨w.heap.size + 1 + 1, 1, none⟩ = some (.int .i64 0) := by rw [hc _ _ (by simp <;> omega)]; simp [go_sem]
  have r2 : w1.cell? ⟨w.heap.size + 1 + 1, 2, none⟩ = some (.bool false) := by rw [hc _ _ (by simp <;> omega)]; simp [go_sem]
  have fr : ∀ o, w1.frozen? ⟨w.heap.size + 1 + 1, o, none⟩ = false := fun o => by rw [hf _ _ (by simp <;> omega)]; simp [go_sem]
  have q0 := btr (bal (bal (bal (Below.refl w.heap.size w) _) _) _) hq
  have R3 : KcL [(w.heap.size + 1 + 1, 0, .slice none 0 0), (w.heap.size + 1 + 1, 1, .int .i64 0), (w.heap.size + 1 + 1, 2, .bool false)] w1 := ⟨r0, r1, r2, trivial⟩
  have K := (KcL.new6 w1 (.int .i64 x0) (.int .i64 x1) (.int .i64 x2) (.int .i64 x3) (.int .i64 x4) (.bool xs) 74).app (R3.alloc _)
  have hl := cell_lt r0
  have hly := cell_lt y0
  have ca := fun (x : Obj) (b o : Nat) (h : b < w1.heap.size) => World.cell?_alloc_lt w1 x ⟨b, o, none⟩ h
  clear hc hf hq r0 r1 r2 R3
  go_wp2_with fail
  refine (hV _ (btr q0 (bal (Below.refl w1.heap.size w1) _))).mono ?_
  rintro e w2 ⟨rfl, hq⟩
  clear hW hV ca y0 y1 y2
  replace q0 := btr (btr q0 (bal (Below.refl w1.heap.size w1) _)) hq
  have q2 := btr (bal (Below.refl w1.heap.size w1) _) hq
  replace fr := fun o => carryf q2 (fr o) hl
  have fr2 := fun o => carryAf (.cells #[.int .i64 y0', .int .i64 y1', .int .i64 y2', .int .i64 y3', .int .i64 y4', .bool ys] 74) (fr o) (Nat.lt_of_lt_of_le hl q2.size)
  have K2 := ((K.below hq).alloc (.cells #[.int .i64 y0', .int .i64 y1', .int .i64 y2', .int .i64 y3', .int .i64 y4', .bool ys] 74)).app (KcL.new6 w2 (.int .i64 y0') (.int .i64 y1') (.int .i64 y2') (.int .i64 y3') (.int .i64 y4') (.bool ys) 74)
  have q3 := btr q0 (bal (Below.refl w2.heap.size w2) (.cells #[.int .i64 y0', .int .i64 y1', .int .i64 y2', .int .i64 y3', .int .i64 y4', .bool ys] 74))
  clear K fr q0 hq q2 hl hly
  go_upto_region 3 with fail
  generalize w2.alloc (.cells #[.int .i64 y0', .int .i64 y1', .int .i64 y2', .int .i64 y3', .int .i64 y4', .bool ys] 74) = w3 at *
  have HH_ := K2; obtain ⟨k0, k1, k2, k3, k4, k5, k6, k7, k8, k9, k10, k11, k12, k13, k14, _⟩ := HH_
  go_wp2_with (go_at_call 72; refine (hM _).mono ?_; rintro e w9 ⟨rfl, rfl⟩)
  obtain ⟨t0, t1, t2⟩ := set3 k6 k7 k8 (.slice none 0 0) (.int .i64 0) (.bool false)
  refine bodyPost_ret (v := .tuple #[.agg #[.slice none 0 0, .int .i64 0, .bool false], .bool false]) (by simp [results, Try.results42, go_sem, t0, t1, t2]) rfl (sum_p (r := (zeroL, false)) (NewL.zero _ _) ?_)
  clear t0 t1 t2 fr2 K2
  clear k0 k1 k2 k3 k4 k5 k6 k7 k8 k9 k10 k11 k12 k13 k14
  (repeat first | with_reducible exact Below.refl _ _ | with_reducible assumption | with_reducible refine Below.drew ?_ | with_reducible refine bdn ?_ _ | with_reducible refine bal ?_ _ | (with_reducible refine bst ?_ ?_ _; rotate_left; (simp <;> omega)) | (with_reducible refine btr ?_ (by with_reducible assumption)))
set_option maxRecDepth 100000 in
set_option maxHeartbeats 4000000 in
theorem linsum_d (A : Option Addr) (na c : Nat) (Z : Nat → Int) (b m : Int) (s : Bool) (B : Option Addr) (nb c2 : Nat) (Y : Nat → Int) (d n : Int) (u : Bool) (w : World) (hn : na ≤ 9223372036854775807) (hA : Ints w A na Z) (hn2 : nb ≤ 9223372036854775807) (hB : Ints w B nb Y) (h1 : okL na Z b = true) (h2 : okL nb Y d = true) (hm : 0 ≤ m ∧ m ≤ 1000000) (hk : ¬ (0 ≤ n ∧ n ≤ 1000000)) :
    Calls Try.prog 42 #[.agg #[.slice A na c, .int .i64 b, .bool s], .int .i64 m, .agg #[.slice B nb c2, .int .i64 d, .bool u], .int .i64 n] w (SumP w (zeroL, false)) := by
  obtain ⟨x0, x1, x2, x3, x4, xs, hx⟩ := wideV_six na Z b s
  obtain ⟨y0', y1', y2', y3', y4', ys, hy⟩ := wideV_six nb Y d u
  have hW := wide_far (c := c) hn hA h1 hx
  have hV := wide_far (c := c2) hn2 hB h2 hy
  have hM := fun W => mult_at m W (v := true) (by simpa using hm)
  have hM2 := fun W => mult_at n W (v := false) (by simpa using hk)
  clear hx hy hA hB hn hn2 h1 h2
  go_enter Try.func42, Try.ntmps42
  go_wp2_with fail
  refine (hW _ (bal (bal (bal (Below.refl _ _) _) _) _)).mono ?_
  rintro e w1 ⟨rfl, hq⟩
  obtain ⟨hc, hf⟩ := bcell hq
  have y0 : w1.cell? ⟨w.heap.size + 1, 0, none⟩ = some (.slice B nb c2) := by rw [hc _ _ (by simp <;> omega)]; simp [go_sem]
  have y1 : w1.cell? ⟨w.heap.size + 1, 1, none⟩ = some (.int .i64 d) := by rw [hc _ _ (by simp <;> omega)]; simp [go_sem]
  have y2 : w1.cell? ⟨w.heap.size + 1, 2, none⟩ = some (.bool u) := by rw [hc _ _ (by simp <;> omega)]; simp [go_sem]
  have r0 : w1.cell? ⟨w.heap.size + 1 + 1, 0, none⟩ = some (.slice none 0 0) := by rw [hc _ _ (by simp <;> omega)]; simp [go_sem]
  have r1 : w1.cell? ⟨w.heap.size + 1 + 1, 1, none⟩ = some (.int .i64 0) := by rw [hc _ _ (by simp <;> omega)]; simp [go_sem]
  have r2 : w1.cell? ⟨w.heap.size + 1 + 1, 2, none⟩ = some (.bool false) := by rw [hc _ _ (by simp <;> omega)]; simp [go_sem]
  have fr : ∀ o, w1.frozen? ⟨w.heap.size + 1 + 1, o, none⟩ = false := fun o => by rw [hf _ _ (by simp <;> omega)]; simp [go_sem]
  have q0 := btr (bal (bal (bal (Below.refl w.heap.size w) _) _) _) hq
  have R3 : KcL [(w.heap.size + 1 + 1, 0, .slice none 0 0), (w.heap.size + 1 + 1, 1, .int .i64 0), (w.heap.size + 1 + 1, 2, .bool false)] w1 := ⟨r0, r1, r2, trivial⟩
  have K := (KcL.new6 w1 (.int .i64 x0) (.int .i64 x1) (.int .i64 x2) (.int .i64 x3) (.int .i64 x4) (.bool xs) 74).app (R3.alloc _)
  have hl := cell_lt r0
  have hly := cell_lt y0
  have ca := fun (x : Obj) (b o : Nat) (h : b < w1.heap.size) => World.cell?_alloc_lt w1 x ⟨b, o, none⟩ h
  clear hc hf hq r0 r1 r2 R3
  go_wp2_with fail
  refine (hV _ (btr q0 (bal (Below.refl w1.heap.size w1) _))).mono ?_
  rintro e w2 ⟨rfl, hq⟩
  clear hW hV ca y0 y1 y2
  replace q0 := btr (btr q0 (bal (Below.refl w1.heap.size w1) _)) hq
  have q2 := btr (bal (Below.refl w1.heap.size w1) _) hq
  replace fr := fun o => carryf q2 (fr o) hl
  have fr2 := fun o => carryAf (.cells #[.int .i64 y0', .int .i64 y1', .int .i64 y2', .int .i64 y3', .int .i64 y4', .bool ys] 74) (fr o) (Nat.lt_of_lt_of_le hl q2.size)
  have K2 := ((K.below hq).alloc (.cells #[.int .i64 y0', .int .i64 y1', .int .i64 y2', .int .i64 y3', .int .i64 y4', .bool ys] 74)).app (KcL.new6 w2 (.int .i64 y0') (.int .i64 y1') (.int .i64 y2') (.int .i64 y3') (.int .i64 y4') (.bool ys) 74)
  have q3 := btr q0 (bal (Below.refl w2.heap.size w2) (.cells #[.int .i64 y0', .int .i64 y1', .int .i64 y2', .int .i64 y3', .int .i64 y4', .bool ys] 74))
  clear K fr q0 hq q2 hl hly
  go_upto_region 3 with fail
  generalize w2.alloc (.cells #[.int .i64 y0', .int .i64 y1', .int .i64 y2', .int .i64 y3', .int .i64 y4', .bool ys] 74) = w3 at *
  have HH_ := K2; obtain ⟨k0, k1, k2, k3, k4, k5, k6, k7, k8, k9, k10, k11, k12, k13, k14, _⟩ := HH_
  go_wp2_with (go_at_call 72; first | ((with_reducible refine (hM _).mono ?_); rintro e w9 ⟨rfl, rfl⟩) | ((with_reducible refine (hM2 _).mono ?_); rintro e w9 ⟨rfl, rfl⟩))
  obtain ⟨t0, t1, t2⟩ := set3 k6 k7 k8 (.slice none 0 0) (.int .i64 0) (.bool false)
  refine bodyPost_ret (v := .tuple #[.agg #[.slice none 0 0, .int .i64 0, .bool false], .bool false]) (by simp [results, Try.results42, go_sem, t0, t1, t2]) rfl (sum_p (r := (zeroL, false)) (NewL.zero _ _) ?_)
  clear t0 t1 t2 fr2 K2
  clear k0 k1 k2 k3 k4 k5 k6 k7 k8 k9 k10 k11 k12 k13 k14
  (repeat first | with_reducible exact Below.refl _ _ | with_reducible assumption | with_reducible refine Below.drew ?_ | with_reducible refine bdn ?_ _ | with_reducible refine bal ?_ _ | (with_reducible refine bst ?_ ?_ _; rotate_left; (simp <;> omega)) | (with_reducible refine btr ?_ (by with_reducible assumption)))
end Go.Proofs.Ytplocljoanaoeaa
