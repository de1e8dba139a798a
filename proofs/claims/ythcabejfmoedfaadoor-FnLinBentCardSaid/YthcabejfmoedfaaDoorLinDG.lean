/- Contracts of DrawLinAt: a constraint that may be bent, and numbers; and of DrawLinBad. -/
import Derived.Test.YthcabejfmoedfaaDoorLinDE
import Derived.Test.YthcabejfmoedfaaDoorLinDF
namespace Go.Proofs.YthcabejfmoedfaaDoor
set_option linter.unusedVariables false
set_option linter.unusedSimpArgs false
open Go.RowKit
/-- a drawn constraint and drawn numbers -/
def AtD (w : World) (e : Ending) (w' : World) : Prop :=
  ∃ A n c Z b s D m d N M, e = .returned (.tuple #[.agg #[.slice A n c, .int .i64 b, .bool s], .slice D m d]) ∧ n ≤ 5 ∧ Ints w' A n Z ∧ m ≤ 4 ∧ Rats w' D m N M ∧ Below w.heap.size w w'
set_option maxRecDepth 100000 in
set_option maxHeartbeats 4000000 in
theorem drawlinat_any (B : Nat) (w : World) (a : Option Addr) (len cap : Nat) (hB : B ≤ w.heap.size) (hby : Bytes B w a len) (hlc : len ≤ cap) (hc : cap ≤ 9223372036854775807) :
    Calls Tryd.prog 33 #[.slice a len cap] w (AtD w) := by
  have hO := open_any B (w.alloc (.cells #[.slice none 0 0, .int .i64 0, .bool false] 39)) a len cap (by simp <;> omega) (hby.alloc _) hlc hc
  have H := KcL.new3 w (.slice none 0 0) (.int .i64 0) (.bool false) 39 rfl
  have q0 := bal (Below.refl w.heap.size w) (.cells #[.slice none 0 0, .int .i64 0, .bool false] 39)
  have fa : ∀ o, (w.alloc (.cells #[.slice none 0 0, .int .i64 0, .bool false] 39)).frozen? ⟨w.heap.size, o, none⟩ = false := fun o => by simp [go_sem]
  go_enter Tryd.func33, Tryd.ntmps33
  go_wp2_with fail
  refine hO.mono ?_
  rintro e w1 ⟨g, rfl, hb, hR, hg⟩
  clear hO
  have hgs : w.heap.size + 1 ≤ g := by simpa using hg
  have hz1 := hb.size
  simp only [World.size_alloc] at hz1
  replace H := H.below hb
  replace q0 := btr q0 hb
  replace fa := fun o => carryf hb (fa o) (by simp)
  clear hb hg
  have glt := hR.lt
  go_wp2_with fail
  refine (l2some_any B _ g 0 hR (by omega)).mono ?_
  rintro e w2 ⟨A, n, c, Z, b, s, q, rfl, ⟨hn1, hn⟩, hnc, hc2, row, hg2, hR2, hq⟩
  have hz2 := hg2.size
  replace H := H.keep hg2 (fun e he r hr => by cases hr; simp at he; rcases he with rfl | rfl | rfl <;> (simp only; omega))
  replace q0 := q0.grown hg2 q0.size (fun r hr => by cases hr; omega)
  replace fa := frz hg2 (by omega) (by simp; omega) fa
  clear hg2 hR
  go_upto_region 3 with fail
  have al := bal (Below.refl w2.heap.size w2) (.cells #[.slice A n c, .int .i64 b, .bool s] 39)
  have KL := KcL.new3 w2 (.slice A n c) (.int .i64 b) (.bool s) 39 rfl
  have hL1 : g < w2.heap.size := hR2.lt
  have hz6 : w2.heap.size < (w2.alloc (.cells #[.slice A n c, .int .i64 b, .bool s] 39)).heap.size := by simp
  replace H := H.below al
  replace q0 := btr q0 al
  replace fa := fun o => carryf al (fa o) (by omega)
  replace row := row.grow (grow_alloc (grow_refl w2 none) (.cells #[.slice A n c, .int .i64 b, .bool s] 39)) (fun r hr => by cases hr)
  replace hR2 := hR2.alloc (.cells #[.slice A n c, .int .i64 b, .bool s] 39)
  generalize w2.alloc (.cells #[.slice A n c, .int .i64 b, .bool s] 39) = w3 at *
  clear al
  refine region_planC (fun w' => KcL [(w2.heap.size, 0, .slice A n c), (w2.heap.size, 1, .int .i64 b), (w2.heap.size, 2, .bool s)] w') (.takes [0, 1] (.make 2 .fin)) 3 rfl (by kernel_rfl) (KL.below (Below.refl w3.heap.size w3).drew) ?_
  have qd := (Below.refl w3.heap.size w3).drew
  refine plan_takes ?_; simp only [pickOps, List.getElem?_cons_zero, List.getElem?_cons_succ]
  refine quiet_doC rfl (.agg #[.slice A n c, .int .i64 b, .bool s]) (fun w' hw' => run_load3 rfl (by kernel_rfl) Tryd.underlying39 rfl (by kernel_rfl) hw'.1 hw'.2.1 hw'.2.2.1) ?_
  refine quiet_doC rfl (.pointer (some ⟨g, 0, none⟩)) (fun _ _ => by kernel_rfl) ?_
  refine wpQuiet_nil ?_
  replace KL := KL.below qd
  replace H := H.below qd
  replace q0 := btr q0 qd
  replace fa := fun o => carryf qd (fa o) (by omega)
  replace row := row.grow (grow_of_below qd none) (fun r hr => by cases hr)
  replace hR2 := hR2.below qd
  have hsd : w3.drew.heap.size = w3.heap.size := rfl
  refine planC_call rfl rfl 74 #[.pointer (some ⟨g, 0, none⟩)] (by kernel_rfl) ?_
  refine (l2numbers_any B _ g q hR2 (by omega)).mono ?_
  rintro e w4 ⟨D, m, d, N, M, q2, rfl, hm, hNR, hg4, hR4, hq2⟩
  have KL4 := KL.keep hg4 (fun e he r hr => by cases hr; simp at he; rcases he with rfl | rfl | rfl <;> (simp only; omega))
  have H4 := H.keep hg4 (fun e he r hr => by cases hr; simp at he; rcases he with rfl | rfl | rfl <;> (simp only; omega))
  have z4 := hg4.size
  replace q0 := q0.grown hg4 q0.size (fun r hr => by cases hr; omega)
  replace fa := frz hg4 (by omega) (by simp; omega) fa
  replace row := row.grow hg4 (fun r hr => by cases hr; exact glt)
  refine ⟨_, rfl, KL4, ?_⟩
  refine plan_fin ?_
  simp only [List.drop_succ_cons, List.drop_zero]
  clear KL H hg4 hR2 hR4 qd KL4
  obtain ⟨k0, k1, k2, _⟩ := H4
  have f0 := fa 0
  have f1 := fa 1
  have f2 := fa 2
  go_wp2_with fail
  obtain ⟨t0, t1, t2⟩ := set3 k0 k1 k2 (.slice A n c) (.int .i64 b) (.bool s)
  refine bodyPost_ret (v := .tuple #[.agg #[.slice A n c, .int .i64 b, .bool s], .slice D m d]) (by simp [results, Tryd.results33, go_sem, t0, t1, t2]) rfl ?_
  have kp : ∀ (W : World) (o : Nat) (v : Value), NewRow w1.heap.size W A n Z → NewRow w1.heap.size (W.setCell ⟨w.heap.size, o, none⟩ v) A n Z := fun W o v x => x.grow (grow_set W w.heap.size o v) (fun r e => by cases e; omega)
  have kq : ∀ (W : World) (o : Nat) (v : Value), NewRats w3.drew.heap.size W D m N M → NewRats w3.drew.heap.size (W.setCell ⟨w.heap.size, o, none⟩ v) D m N M := fun W o v x => x.grow (grow_set W w.heap.size o v) (fun r e => by cases e; omega)
  exact ⟨A, n, c, Z, b, s, D, m, d, N, M, rfl, hn, (kp _ 2 _ (kp _ 1 _ (kp _ 0 _ row))).ints, hm, (kq _ 2 _ (kq _ 1 _ (kq _ 0 _ hNR))).rats, bst (bst (bst q0 (Nat.le_refl _) _) (Nat.le_refl _) _) (Nat.le_refl _) _⟩
end Go.Proofs.YthcabejfmoedfaaDoor
