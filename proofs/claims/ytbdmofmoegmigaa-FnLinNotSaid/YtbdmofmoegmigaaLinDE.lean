/- Contract of DrawLinNot: one constraint that may be bent. -/
import Derived.Test.YtbdmofmoegmigaaLinDD
namespace Go.Proofs.Ytbdmofmoegmigaa
set_option linter.unusedVariables false
set_option linter.unusedSimpArgs false
open Go.RowKit
/-- a drawn constraint -/
def OneD (w : World) (e : Ending) (w' : World) : Prop :=
  ∃ A n c Z b s, e = .returned (.agg #[.slice A n c, .int .i64 b, .bool s]) ∧ n ≤ 5 ∧ Ints w' A n Z ∧ Below w.heap.size w w'
set_option maxRecDepth 100000 in
set_option maxHeartbeats 4000000 in
theorem drawlinnot_any (B : Nat) (w : World) (a : Option Addr) (len cap : Nat) (hB : B ≤ w.heap.size) (hby : Bytes B w a len) (hlc : len ≤ cap) (hc : cap ≤ 9223372036854775807) :
    Calls Try.prog 25 #[.slice a len cap] w (OneD w) := by
  have hO := open_any B (w.alloc (.cells #[.slice none 0 0, .int .i64 0, .bool false] 25)) a len cap (by simp <;> omega) (hby.alloc _) hlc hc
  have H := KcL.new3 w (.slice none 0 0) (.int .i64 0) (.bool false) 25 rfl
  have q0 := bal (Below.refl w.heap.size w) (.cells #[.slice none 0 0, .int .i64 0, .bool false] 25)
  have fa : ∀ o, (w.alloc (.cells #[.slice none 0 0, .int .i64 0, .bool false] 25)).frozen? ⟨w.heap.size, o, none⟩ = false := fun o => by simp [go_sem]
  go_enter Try.func25, Try.ntmps25
  go_wp2_with fail
  refine hO.mono ?_
  rintro e w1 ⟨g, rfl, hb, hR, hg⟩
  clear hO
  have hgs : w.heap.size + 1 ≤ g := by simpa using hg
  have hz1 := hb.size
  simp only [World.size_alloc] at hz1
  replace H := H.below hb
  replace q0 := btr q0 hb
  replace fa := fun o => carryf hb (fa o) (by simp)
  clear hb hg
  have glt := hR.lt
  go_wp2_with fail
  refine (l2some_any B _ g 0 hR (by omega)).mono ?_
  rintro e w2 ⟨A, n, c, Z, b, s, q, rfl, hn, hnc, hc2, row, hg2, hR2, hq⟩
  have hz2 := hg2.size
  replace H := H.keep hg2 (fun e he r hr => by cases hr; simp at he; rcases he with rfl | rfl | rfl <;> (simp only; omega))
  replace q0 := q0.grown hg2 q0.size (fun r hr => by cases hr; omega)
  replace fa := frz hg2 (by omega) (by simp; omega) fa
  clear hg2 hR
  obtain ⟨k0, k1, k2, _⟩ := H
  have f0 := fa 0
  have f1 := fa 1
  have f2 := fa 2
  go_wp2_with fail
  obtain ⟨t0, t1, t2⟩ := set3 k0 k1 k2 (.slice A n c) (.int .i64 b) (.bool s)
  refine bodyPost_ret (v := .agg #[.slice A n c, .int .i64 b, .bool s]) (by simp [results, Try.results25, go_sem, t0, t1, t2]) rfl ?_
  have kp : ∀ (W : World) (o : Nat) (v : Value), NewRow w1.heap.size W A n Z → NewRow w1.heap.size (W.setCell ⟨w.heap.size, o, none⟩ v) A n Z := fun W o v x => x.grow (grow_set W w.heap.size o v) (fun r e => by cases e; omega)
  exact ⟨A, n, c, Z, b, s, rfl, hn, (kp _ 2 _ (kp _ 1 _ (kp _ 0 _ row))).ints, bst (bst (bst q0 (Nat.le_refl _) _) (Nat.le_refl _) _) (Nat.le_refl _) _⟩
end Go.Proofs.Ytbdmofmoegmigaa
