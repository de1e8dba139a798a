/- Contract of DrawLinBad: one constraint, often of no numbers. -/
import Derived.Test.YtbdmofmoegmigaaLinDE
namespace Go.Proofs.Ytbdmofmoegmigaa
set_option linter.unusedVariables false
set_option linter.unusedSimpArgs false
open Go.RowKit
theorem new0 (w : World) (t : TypeId) : Ints (w.alloc (.cells #[.int .i64 0, .int .i64 0, .int .i64 0, .int .i64 0] t)) (some ⟨w.heap.size, 0, none⟩) 4 (fun _ => 0) :=
  .inr ⟨w.heap.size, 0, rfl, by simp, fun k hk => by rcases lt4 hk with rfl | rfl | rfl | rfl <;> simp [go_sem]⟩
/-- a constraint, drawn into a row of its own -/
def FlatP (w : World) (e : Ending) (w' : World) : Prop :=
  ∃ A n c Z b s, e = .returned (.agg #[.slice A n c, .int .i64 b, .bool s]) ∧ n ≤ 5 ∧ NewRow w.heap.size w' A n Z ∧ Below w.heap.size w w'
set_option maxRecDepth 100000 in
set_option maxHeartbeats 4000000 in
theorem l2flat_any (B : Nat) (w : World) (a : Option Addr) (len cap : Nat) (hB : B ≤ w.heap.size) (hby : Bytes B w a len) (hlc : len ≤ cap) (hc : cap ≤ 9223372036854775807) :
    Calls Try.prog 98 #[.slice a len cap] w (FlatP w) := by
  have hO := open_any B (w.alloc (.cells #[.slice none 0 0, .int .i64 0, .bool false] 25)) a len cap (by simp <;> omega) (hby.alloc _) hlc hc
  have H := KcL.new3 w (.slice none 0 0) (.int .i64 0) (.bool false) 25 rfl
  have q0 := bal (Below.refl w.heap.size w) (.cells #[.slice none 0 0, .int .i64 0, .bool false] 25)
  have fa : ∀ o, (w.alloc (.cells #[.slice none 0 0, .int .i64 0, .bool false] 25)).frozen? ⟨w.heap.size, o, none⟩ = false := fun o => by simp [go_sem]
  go_enter Try.func98, Try.ntmps98
  go_wp2_with fail
  refine hO.mono ?_
  rintro e w1 ⟨g, rfl, hb, hR, hg⟩
  clear hO
  have hgs : w.heap.size + 1 ≤ g := by simpa using hg
  have hz1 := hb.size
  simp only [World.size_alloc] at hz1
  replace H := H.below hb
  replace q0 := btr q0 hb
  replace fa := fun o => carryf hb (fa o) (by simp)
  clear hb hg
  have glt := hR.lt
  go_wp2_with fail
  refine (l2some_any B _ g 0 hR (by omega)).mono ?_
  rintro e w2 ⟨A, n, c, Z, b, s, q, rfl, hn, hnc, hc2, row, hg2, hR2, hq⟩
  have hz2 := hg2.size
  replace H := H.keep hg2 (fun e he r hr => by cases hr; simp at he; rcases he with rfl | rfl | rfl <;> (simp only; omega))
  replace q0 := q0.grown hg2 q0.size (fun r hr => by cases hr; omega)
  replace fa := frz hg2 (by omega) (by simp; omega) fa
  clear hg2 hR
  go_wp2_with fail
  have al := bal (Below.refl w2.heap.size w2) (.cells #[.slice A n c, .int .i64 b, .bool s] 25)
  have hL1 : g < w2.heap.size := hR2.lt
  have fb : ∀ o, (w2.alloc (.cells #[.slice A n c, .int .i64 b, .bool s] 25)).frozen? ⟨w2.heap.size, o, none⟩ = false := fun o => by simp [go_sem]
  have hz6 : w2.heap.size < (w2.alloc (.cells #[.slice A n c, .int .i64 b, .bool s] 25)).heap.size := by simp
  replace H := (H.below al).app (KcL.new3 w2 (.slice A n c) (.int .i64 b) (.bool s) 25 rfl)
  replace q0 := btr q0 al
  replace fa := fun o => carryf al (fa o) (by omega)
  replace row := row.grow (grow_alloc (grow_refl w2 none) (.cells #[.slice A n c, .int .i64 b, .bool s] 25)) (fun r hr => by cases hr)
  refine (pick_any B _ g q 3 (hR2.alloc _) (by omega) (by omega)).mono ?_
  rintro e w3 ⟨x, _, _, rfl, hg3, hR3⟩
  have hz3 := hg3.size
  replace H := H.keep hg3 (fun e he r hr => by cases hr; simp at he; rcases he with rfl | rfl | rfl | rfl | rfl | rfl <;> (simp only; omega))
  replace q0 := q0.grown hg3 q0.size (fun r hr => by cases hr; omega)
  replace fa := frz hg3 (by omega) (by simp; omega) fa
  replace fb := frz hg3 (by omega) (by simp; omega) fb
  replace row := row.grow hg3 (fun r hr => by cases hr; exact glt)
  have lB : w2.heap.size < w3.heap.size := by omega
  clear hg3 hR2 hR3 al hz6
  generalize w2.heap.size = L at *
  obtain ⟨k0, k1, k2, l0, l1, l2, _⟩ := H
  have f0 := fa 0
  have f1 := fa 1
  have f2 := fa 2
  have g0 := fb 0
  by_cases hx : 0 < x
  · have dx : decide (0 < x) = true := by simpa using hx
    go_upto_region 5 with fail
    have hS : w.heap.size ≠ L := by omega
    have z0 : ((w3.setCell ⟨L, 0, none⟩ (.slice (some ⟨w3.heap.size, 0, none⟩) 4 4)).alloc (.cells #[.int .i64 0, .int .i64 0, .int .i64 0, .int .i64 0] 3)).cell? ⟨L, 0, none⟩ = some (.slice (some ⟨w3.heap.size, 0, none⟩) 4 4) := carryA _ (World.cell?_setCell_same _ _ _ l0)
    have z1 : ((w3.setCell ⟨L, 0, none⟩ (.slice (some ⟨w3.heap.size, 0, none⟩) 4 4)).alloc (.cells #[.int .i64 0, .int .i64 0, .int .i64 0, .int .i64 0] 3)).cell? ⟨L, 1, none⟩ = some (.int .i64 b) := carryA _ (by rw [World.cell?_setCell_other _ _ _ _ (by simp)]; exact l1)
    have z2 : ((w3.setCell ⟨L, 0, none⟩ (.slice (some ⟨w3.heap.size, 0, none⟩) 4 4)).alloc (.cells #[.int .i64 0, .int .i64 0, .int .i64 0, .int .i64 0] 3)).cell? ⟨L, 2, none⟩ = some (.bool s) := carryA _ (by rw [World.cell?_setCell_other _ _ _ _ (by simp)]; exact l2)
    have gg : w3.grownBy ((w3.setCell ⟨L, 0, none⟩ (.slice (some ⟨w3.heap.size, 0, none⟩) 4 4)).alloc (.cells #[.int .i64 0, .int .i64 0, .int .i64 0, .int .i64 0] 3)) (some L) := grow_alloc (grow_set w3 L 0 _) _
    have hI : Ints ((w3.setCell ⟨L, 0, none⟩ (.slice (some ⟨w3.heap.size, 0, none⟩) 4 4)).alloc (.cells #[.int .i64 0, .int .i64 0, .int .i64 0, .int .i64 0] 3)) (some ⟨w3.heap.size, 0, none⟩) 4 (fun _ => 0) := by
      have := new0 (w3.setCell ⟨L, 0, none⟩ (.slice (some ⟨w3.heap.size, 0, none⟩) 4 4)) 3
      simpa [World.setCell] using this
    replace q0 := q0.grown gg q0.size (fun r hr => by cases hr; omega)
    replace k0 := grow_cell gg hS k0
    replace k1 := grow_cell gg hS k1
    replace k2 := grow_cell gg hS k2
    replace fa := frz gg (by omega) (by simp; omega) fa
    replace f0 := fa 0
    replace f1 := fa 1
    replace f2 := fa 2
    have hN : w3.heap.size ≠ w.heap.size := by omega
    generalize ((w3.setCell ⟨L, 0, none⟩ (.slice (some ⟨w3.heap.size, 0, none⟩) 4 4)).alloc (.cells #[.int .i64 0, .int .i64 0, .int .i64 0, .int .i64 0] 3)) = w5 at *
    clear gg l0 l1 l2 g0 fb
    go_wp2_with fail
    obtain ⟨t0, t1, t2⟩ := set3 k0 k1 k2 (.slice (some ⟨w3.heap.size, 0, none⟩) 4 4) (.int .i64 b) (.bool s)
    refine bodyPost_ret (v := .agg #[.slice (some ⟨w3.heap.size, 0, none⟩) 4 4, .int .i64 b, .bool s]) (by simp [results, Try.results98, go_sem, t0, t1, t2]) rfl ?_
    have ki : ∀ (W : World) (o : Nat) (v : Value), NewRow (w.heap.size + 1) W (some ⟨w3.heap.size, 0, none⟩) 4 (fun _ => 0) → NewRow (w.heap.size + 1) (W.setCell ⟨w.heap.size, o, none⟩ v) (some ⟨w3.heap.size, 0, none⟩) 4 (fun _ => 0) := fun W o v x => x.grow (grow_set W w.heap.size o v) (fun r e => by cases e; omega)
    have hI' : NewRow (w.heap.size + 1) w5 (some ⟨w3.heap.size, 0, none⟩) 4 (fun _ => 0) := by
      rcases hI with h | ⟨g', off, e, hg', hcc⟩
      · exact .inl h
      · simp only [Option.some.injEq, Addr.mk.injEq, and_true] at e
        obtain ⟨rfl, rfl⟩ := e
        exact .inr ⟨w3.heap.size, 0, rfl, by omega, hg', hcc⟩
    exact ⟨_, 4, 4, fun _ => 0, b, s, rfl, by omega, (ki _ 2 _ (ki _ 1 _ (ki _ 0 _ hI'))).low (by omega), bst (bst (bst q0 (Nat.le_refl _) _) (Nat.le_refl _) _) (Nat.le_refl _) _⟩
  · have dx : decide (0 < x) = false := by simpa using hx
    go_wp2_with fail
    obtain ⟨t0, t1, t2⟩ := set3 k0 k1 k2 (.slice A n c) (.int .i64 b) (.bool s)
    refine bodyPost_ret (v := .agg #[.slice A n c, .int .i64 b, .bool s]) (by simp [results, Try.results98, go_sem, t0, t1, t2]) rfl ?_
    have kp : ∀ (W : World) (o : Nat) (v : Value), NewRow w1.heap.size W A n Z → NewRow w1.heap.size (W.setCell ⟨w.heap.size, o, none⟩ v) A n Z := fun W o v x => x.grow (grow_set W w.heap.size o v) (fun r e => by cases e; omega)
    exact ⟨A, n, c, Z, b, s, rfl, hn, (kp _ 2 _ (kp _ 1 _ (kp _ 0 _ row))).low (by omega), bst (bst (bst q0 (Nat.le_refl _) _) (Nat.le_refl _) _) (Nat.le_refl _) _⟩
set_option maxRecDepth 100000 in
set_option maxHeartbeats 4000000 in
theorem drawlinbad_any (B : Nat) (w : World) (a : Option Addr) (len cap : Nat) (hB : B ≤ w.heap.size) (hby : Bytes B w a len) (hlc : len ≤ cap) (hc : cap ≤ 9223372036854775807) :
    Calls Try.prog 36 #[.slice a len cap] w (OneD w) := by
  have hF := l2flat_any B (w.alloc (.cells #[.slice none 0 0, .int .i64 0, .bool false] 25)) a len cap (by simp <;> omega) (hby.alloc _) hlc hc
  have H := KcL.new3 w (.slice none 0 0) (.int .i64 0) (.bool false) 25 rfl
  have q0 := bal (Below.refl w.heap.size w) (.cells #[.slice none 0 0, .int .i64 0, .bool false] 25)
  have fa : ∀ o, (w.alloc (.cells #[.slice none 0 0, .int .i64 0, .bool false] 25)).frozen? ⟨w.heap.size, o, none⟩ = false := fun o => by simp [go_sem]
  go_enter Try.func36, Try.ntmps36
  go_wp2_with fail
  refine hF.mono ?_
  rintro e w1 ⟨A, n, c, Z, b, s, rfl, hn, hI, hb⟩
  replace H := H.below hb
  replace q0 := btr q0 hb
  replace fa := fun o => carryf hb (fa o) (by simp)
  clear hF hb
  obtain ⟨k0, k1, k2, _⟩ := H
  have f0 := fa 0
  have f1 := fa 1
  have f2 := fa 2
  go_wp2_with fail
  obtain ⟨t0, t1, t2⟩ := set3 k0 k1 k2 (.slice A n c) (.int .i64 b) (.bool s)
  refine bodyPost_ret (v := .agg #[.slice A n c, .int .i64 b, .bool s]) (by simp [results, Try.results36, go_sem, t0, t1, t2]) rfl ?_
  rw [World.size_alloc] at hI
  have kp : ∀ (W : World) (o : Nat) (v : Value), NewRow (w.heap.size + 1) W A n Z → NewRow (w.heap.size + 1) (W.setCell ⟨w.heap.size, o, none⟩ v) A n Z := fun W o v x => x.grow (grow_set W w.heap.size o v) (fun r e => by cases e; omega)
  exact ⟨A, n, c, Z, b, s, rfl, hn, (kp _ 2 _ (kp _ 1 _ (kp _ 0 _ hI))).ints, bst (bst (bst q0 (Nat.le_refl _) _) (Nat.le_refl _) _) (Nat.le_refl _) _⟩
end Go.Proofs.Ytbdmofmoegmigaa
