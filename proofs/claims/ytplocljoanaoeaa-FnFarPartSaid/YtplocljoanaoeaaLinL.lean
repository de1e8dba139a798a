/- Contract of the model's LinNot: the walk. -/
import Derived.Test.YtplocljoanaoeaaLinK
import Derived.OwnWalk
import Derived.IntWalk
import Derived.Test.YtplocljoanaoeaaBT
namespace Go.Proofs.Ytplocljoanaoeaa
set_option linter.unusedVariables false
set_option linter.unusedSimpArgs false
open Go.RowKit
set_option maxRecDepth 100000 in
set_option maxHeartbeats 1000000 in
theorem slinnot_no (A : Option Addr) (n c : Nat) (Z : Nat → Int) (b : Int) (s : Bool) (w : World) (hn : n ≤ 9223372036854775806) (hA : Ints w A n Z) (hv : okL n Z b = false) :
    Calls Try.prog 100 #[.agg #[.slice A n c, .int .i64 b, .bool s]] w (NotP w zeroL) := by
  have hO := slinok_at (c := c) (s := s) hn hA hv
  clear hv hA hn
  go_enter Try.func100, Try.ntmps100
  go_wp2_with (go_at_call 65; refine (hO _ (bal (bal (Below.refl _ _) _) _)).mono ?_; rintro e w1 ⟨rfl, hq⟩; obtain ⟨hc, hf⟩ := bcell hq)
  clear hO
  have e0 : w1.cell? ⟨w.heap.size + 1, 0, none⟩ = some (.slice none 0 0) := by rw [hc _ _ (by simp <;> omega)]; simp [go_sem]
  have e1 : w1.cell? ⟨w.heap.size + 1, 1, none⟩ = some (.int .i64 0) := by rw [hc _ _ (by simp <;> omega)]; simp [go_sem]
  have e2 : w1.cell? ⟨w.heap.size + 1, 2, none⟩ = some (.bool false) := by rw [hc _ _ (by simp <;> omega)]; simp [go_sem]
  obtain ⟨t0, t1, t2⟩ := set3 e0 e1 e2 (.slice none 0 0) (.int .i64 0) (.bool false)
  clear hc hf
  refine bodyPost_ret (v := .agg #[.slice none 0 0, .int .i64 0, .bool false]) (by simp [results, Try.results100, go_sem, t0, t1, t2]) rfl (not_p (NewL.zero _ _) ?_)
  (repeat first | with_reducible exact Below.refl _ _ | with_reducible assumption | with_reducible refine Below.drew ?_ | with_reducible refine bdn ?_ _ | with_reducible refine bal ?_ _ | (with_reducible refine bst ?_ ?_ _; rotate_left; (simp <;> omega)) | (with_reducible refine btr ?_ (by with_reducible assumption)))
set_option maxRecDepth 100000 in
set_option maxHeartbeats 4000000 in
theorem slinnot_yes (g off c : Nat) (Z : Nat → Int) (b : Int) (s : Bool) (w : World) (hg : g < w.heap.size) (hcell : ∀ k, k < 4 → w.cell? ⟨g, off + k, none⟩ = some (.int .i64 (Z k))) (hv : okL 4 Z b = true) :
    Calls Try.prog 100 #[.agg #[.slice (some ⟨g, off, none⟩) 4 c, .int .i64 b, .bool s]] w (NotP w (4, fun k => -Z k, -b, !s)) := by
  have hO := slinok_at (A := some ⟨g, off, none⟩) (c := c) (s := s) (by omega) (.inr ⟨g, off, rfl, hg, hcell⟩) hv
  obtain ⟨hb0, hb1, hb2, hb3, b1, b2⟩ := okL_bd4 hv
  obtain ⟨i0, hi, hz0, hz1, hz2⟩ := info_parts infoI
  have HZ := hid (okL_iff.1 hv).2.1
  clear hv hb0 hb1 hb2 hb3
  go_enter Try.func100, Try.ntmps100
  go_wp2_with (go_at_call 65; refine (hO _ (bal (bal (Below.refl _ _) _) _)).mono ?_; rintro e w1 ⟨rfl, hq⟩; obtain ⟨hc, hf⟩ := bcell hq)
  clear hO
  have q0 := btr (bal (bal (Below.refl w.heap.size w) (.cells #[.slice (some ⟨g, off, none⟩) 4 c, .int .i64 b, .bool s] 28)) (.cells #[.slice none 0 0, .int .i64 0, .bool false] 28)) hq
  have x0 : w1.cell? ⟨w.heap.size, 0, none⟩ = some (.slice (some ⟨g, off, none⟩) 4 c) := by rw [hc _ _ (by simp <;> omega)]; simp [go_sem]
  have e0 : w1.cell? ⟨w.heap.size + 1, 0, none⟩ = some (.slice none 0 0) := by rw [hc _ _ (by simp <;> omega)]; simp [go_sem]
  have e1 : w1.cell? ⟨w.heap.size + 1, 1, none⟩ = some (.int .i64 0) := by rw [hc _ _ (by simp <;> omega)]; simp [go_sem]
  have e2 : w1.cell? ⟨w.heap.size + 1, 2, none⟩ = some (.bool false) := by rw [hc _ _ (by simp <;> omega)]; simp [go_sem]
  have f0 : w1.frozen? ⟨w.heap.size + 1, 0, none⟩ = false := by rw [hf _ _ (by simp <;> omega)]; simp [go_sem]
  have f1 : w1.frozen? ⟨w.heap.size + 1, 1, none⟩ = false := by rw [hf _ _ (by simp <;> omega)]; simp [go_sem]
  have f2 : w1.frozen? ⟨w.heap.size + 1, 2, none⟩ = false := by rw [hf _ _ (by simp <;> omega)]; simp [go_sem]
  clear hc hf hq
  have hBl := Bld.start w1 (fun k => -Z k) (-b) (!s)
  go_loopw [4] (fun i wr => ∃ k : Nat, k ≤ 4 ∧ i = .int .i64 k ∧ Bld w1.heap.size w1 (fun k => -Z k) (-b) (!s) k wr) (fun i _ => 4 - (intOf i).toNat)
  case atStart => exact ⟨0, Nat.zero_le _, rfl, hBl⟩
  case round =>
    clear hBl
    obtain ⟨k, hk, rfl, v, hb, ho, r0, r1, r2, rf⟩ := hrel
    have hBr : w1.heap.size < wr.heap.size := cell_lt r0
    have y0 : wr.cell? ⟨w.heap.size, 0, none⟩ = some (.slice (some ⟨g, off, none⟩) 4 c) := (hb.cell (p := ⟨w.heap.size, 0, none⟩) (cell_lt x0)).trans x0
    have hx1 : w.heap.size < wr.heap.size := cell_lt y0
    by_cases hlt : k < 4
    · have z0 : wr.cell? ⟨g, off + k, none⟩ = some (.int .i64 (Z k)) := (hb.cell (p := ⟨g, off + k, none⟩) (Nat.lt_of_lt_of_le hg q0.size)).trans ((q0.cell (p := ⟨g, off + k, none⟩) hg).trans (hcell k hlt))
      have hgr : g < wr.heap.size := cell_lt z0
      obtain ⟨zb1, zb2⟩ := inC_iff.1 (HZ.out k hlt)
      have ds : (decide (k < 4)) = true := by simpa using hlt
      have hx2 : w1.heap.size < wr.heap.size := hBr
      have gc := @gro_cell wr
      go_wp2
      refine region_grow_maker 8 rfl (by kernel_rfl) (by kernel_rfl) rfl ?_; simp only [List.take_succ_cons, List.take_zero]; (repeat (go_big_quiet_step (fail))); refine wpQuiet_nil ?_
      intro w2 hq2
      clear gc
      have ho2 := own_below hq2 ho
      have hnews : ∀ (j : Nat) (u : Value), ([Value.int .i64 (-Z k)] : List Value)[j]? = some u → (w2.alloc (.cells #[.int .i64 (-Z k)] 3)).cell? ((⟨w2.heap.size, 0, none⟩ : Addr).add j) = some u := new_one w2 _ _
      have hone : ∀ u ∈ ([Value.int .i64 (-Z k)] : List Value), u.oneCell' = true := fun u hu => by simp at hu; subst hu; rfl
      have hx3 : w1.heap.size < w2.heap.size := Nat.lt_of_lt_of_le hBr hq2.size
      clear y0 z0 hx1 hgr ds
      refine ⟨.slice (some ⟨w2.heap.size, 0, none⟩) 1 1, w2.alloc (.cells #[.int .i64 (-Z k)] 3), by kernel_rfl, hq2.alloc hq2.size _, ?_⟩
      go_wp2_with ((at_builtin; refine wpList_append_own _ rfl _ _ 24 rfl (w1.heap.size + 1) 3 i0 (.int .i64 0) 1 8 Try.underlying24 hi hz0 hz1 hz2 rfl (by decide) _ _ _ rfl (ho2.alloc _) ⟨w2.heap.size, 0, none⟩ 1 1 [.int .i64 (-Z k)] rfl rfl hnews hone (by unfold maxLen; omega) (by omega) (by simp; omega) ?_; intro v' w3 hown hgrow _; obtain ⟨A', c', rfl⟩ := own_slice hown; have hB := hid (Bld.step (Z := fun k => -Z k) (.int .i64 (-Z k)) hb hBr r1 r2 r0 rf ho hq2 hown hgrow); obtain ⟨m0, m1⟩ := bld_room (.int .i64 (-Z k)) hBr r0 rf ho hq2 hgrow))
      exact ⟨⟨k + 1, by omega, by go_num, hB.out⟩, by simp [intOf]; omega⟩
    · have hke : k = 4 := by omega
      subst hke
      obtain ⟨A', c', rfl, hc1, hc2, hO⟩ := own_new (W := w1) (by omega) (Nat.le_succ _) ho
      have qr : Below w.heap.size w wr := q0.trans (hb.mono q0.size)
      replace f0 := (hb.frozen (p := ⟨w.heap.size + 1, 0, none⟩) (cell_lt e0)).trans f0
      replace f1 := (hb.frozen (p := ⟨w.heap.size + 1, 1, none⟩) (cell_lt e1)).trans f1
      replace f2 := (hb.frozen (p := ⟨w.heap.size + 1, 2, none⟩) (cell_lt e2)).trans f2
      have hlr : w.heap.size + 1 < w1.heap.size := cell_lt e0
      replace e0 := (hb.cell (p := ⟨w.heap.size + 1, 0, none⟩) (cell_lt e0)).trans e0
      replace e1 := (hb.cell (p := ⟨w.heap.size + 1, 1, none⟩) (cell_lt e1)).trans e1
      replace e2 := (hb.cell (p := ⟨w.heap.size + 1, 2, none⟩) (cell_lt e2)).trans e2
      have HO := hid hO; clear hO ho
      clear hcell x0
      go_wp2
      obtain ⟨t0, t1, t2⟩ := set3 e0 e1 e2 (.slice A' 4 c') (.int .i64 (-b)) (.bool (!s))
      have hO2 := ((((HO.out).set (o := 0) (.slice A' 4 c') hlr).set (o := 1) (.int .i64 (-b)) hlr).set (o := 2) (.bool (!s)) hlr).old (W := w) q0.size
      refine bodyPost_ret (v := .agg #[.slice A' 4 c', .int .i64 (-b), .bool (!s)]) (by simp [results, Try.results100, go_sem, t0, t1, t2]) rfl (not_p ⟨A', c', rfl, hc1, hc2, hO2⟩ ?_)
      clear f0 f1 f2 e0 e1 e2 t0 t1 t2 hO2 r0 r1 r2 rf hb HO
      (repeat first | with_reducible exact Below.refl _ _ | with_reducible assumption | with_reducible refine Below.drew ?_ | with_reducible refine bdn ?_ _ | with_reducible refine bal ?_ _ | (with_reducible refine bst ?_ ?_ _; rotate_left; (simp <;> omega)) | (with_reducible refine btr ?_ (by with_reducible assumption)))
theorem slinnot_any (A : Option Addr) (n c : Nat) (Z : Nat → Int) (b : Int) (s : Bool) (w : World) (hn : n ≤ 9223372036854775806) (hA : Ints w A n Z) :
    Calls Try.prog 100 #[.agg #[.slice A n c, .int .i64 b, .bool s]] w (NotP w (notR n Z b s)) := by
  unfold notR
  cases hv : okL n Z b
  · exact slinnot_no A n c Z b s w hn hA hv
  · obtain ⟨rfl, _, _⟩ := okL_iff.1 hv
    rcases hA with h0 | ⟨g, off, rfl, hg, hc⟩
    · omega
    · exact slinnot_yes g off c Z b s w hg hc hv
end Go.Proofs.Ytplocljoanaoeaa
