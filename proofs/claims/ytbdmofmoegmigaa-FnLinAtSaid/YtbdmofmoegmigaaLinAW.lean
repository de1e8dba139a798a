/- The law FnLinAt: the walk. -/
import Derived.Test.YtbdmofmoegmigaaLinDG
import Derived.Test.YtbdmofmoegmigaaLinYA
import Derived.Test.YtbdmofmoegmigaaLinAM
import Derived.Test.YtbdmofmoegmigaaLinSE
namespace Go.Proofs.Ytbdmofmoegmigaa
set_option linter.unusedVariables false
set_option linter.unusedSimpArgs false
open Go.RowKit
theorem linat_at {A : Option Addr} {n c : Nat} {Z : Nat → Int} {b : Int} {s : Bool} {B : Option Addr} {m d : Nat} {N D : Nat → Int} {w : World} (hn : n ≤ 9223372036854775806) (hA : Ints w A n Z) (hm : m ≤ 9223372036854775806) (hB : Rats w B m N D) {p q : Bool} (h : atB n Z b s m N D = (p, q)) :
    Calls Try.prog 32 #[.agg #[.slice A n c, .int .i64 b, .bool s], .slice B m d] w fun e w' => e = .returned (.tuple #[.bool p, .bool q]) ∧ Below w.heap.size w w' := by
  have := linat_any A n c Z b s B m d N D w hn hA hm hB
  rw [h] at this
  exact this
theorem slinat_at {A : Option Addr} {n c : Nat} {Z : Nat → Int} {b : Int} {s : Bool} {B : Option Addr} {m d : Nat} {N D : Nat → Int} {w : World} (hn : n ≤ 9223372036854775806) (hA : Ints w A n Z) (hm : m ≤ 9223372036854775806) (hB : Rats w B m N D) {p q : Bool} (h : atB n Z b s m N D = (p, q)) :
    Calls Try.prog 41 #[.agg #[.slice A n c, .int .i64 b, .bool s], .slice B m d] w fun e w' => e = .returned (.tuple #[.bool p, .bool q]) ∧ Below w.heap.size w w' := by
  have := slinat_any A n c Z b s B m d N D w hn hA hm hB
  rw [h] at this
  exact this
theorem ints0A (w : World) (t : TypeId) : Ints (w.alloc (.cells #[.int .i64 0, .int .i64 0, .int .i64 0, .int .i64 0] t)) (some ⟨w.heap.size, 0, none⟩) 4 (fun _ => 0) :=
  .inr ⟨w.heap.size, 0, rfl, by simp, fun k hk => by rcases lt4 hk with rfl | rfl | rfl | rfl <;> simp [go_sem]⟩
set_option maxRecDepth 100000 in
set_option maxHeartbeats 8000000 in
theorem walk_LinAt (a0 : Option Addr) (len0 cap0 : Nat) (w : World) (hby : Bytes w.heap.size w a0 len0) (hlc : len0 ≤ cap0) (hc : cap0 ≤ 9223372036854775807) :
    Calls Try.prog 6 #[.slice a0 len0 cap0] w fun e w' => e = .returned (.bool true) ∧ Below w.heap.size w w' := by
  by_cases hbig : 1048576 < len0
  · go_enter Try.func6, Try.ntmps6
    go_wp2
    go_ret
    exact ⟨rfl, Below.refl _ _⟩
  go_enter Try.func6, Try.ntmps6
  go_wp2_with fail
  refine (drawlinat_any w.heap.size w a0 len0 cap0 (Nat.le_refl _) hby hlc hc).mono ?_
  rintro e w1 ⟨A, n, c, Z, b, s, D, m, d, N, M, rfl, hn, hA, hm, hD, hq⟩
  clear hby hlc hc hbig
  have al := bal (Below.refl w1.heap.size w1) (.cells #[.slice A n c, .int .i64 b, .bool s] 25)
  have H := KcL.new3 w1 (.slice A n c) (.int .i64 b) (.bool s) 25 rfl
  have I1 := hA.below al
  replace hD := hD.below al
  have q0 := btr hq al
  clear hA hq al
  rcases hp : atB n Z b s m N M with ⟨p1, p2⟩
  go_wp2_with fail
  refine (linat_at (by omega) I1 (by omega) hD hp).mono ?_
  rintro e w2 ⟨rfl, hq⟩
  replace H := H.below hq
  replace I1 := I1.below hq
  replace hD := hD.below hq
  replace q0 := btr q0 hq
  clear hq
  have HH := H; obtain ⟨c0, c1, cc2, _⟩ := HH
  go_wp2_with fail
  refine (slinat_at (by omega) I1 (by omega) hD hp).mono ?_
  rintro e w3 ⟨rfl, hq⟩
  clear c0 c1 cc2
  replace H := H.below hq
  replace I1 := I1.below hq
  replace hD := hD.below hq
  replace q0 := btr q0 hq
  clear hq
  have dp1 : (p1 != p1) = false := by simp
  have ep1 : (p1 == p1) = true := by simp
  cases p2
  · go_wp2
    go_ret
    exact ⟨rfl, q0⟩
  have al := bal (bal (Below.refl w3.heap.size w3) (.cells #[.int .i64 0, .int .i64 0, .int .i64 0, .int .i64 0] 3)) (.cells #[.slice (some ⟨w3.heap.size, 0, none⟩) 4 4, .int .i64 0, .bool false] 25)
  have I0 := (ints0A w3 3).below (bal (Below.refl _ (w3.alloc (.cells #[.int .i64 0, .int .i64 0, .int .i64 0, .int .i64 0] 3))) (.cells #[.slice (some ⟨w3.heap.size, 0, none⟩) 4 4, .int .i64 0, .bool false] 25))
  replace H := H.below al
  replace I1 := I1.below al
  replace hD := hD.below al
  replace q0 := btr q0 al
  have HH := H; obtain ⟨c0, c1, cc2, _⟩ := HH
  go_wp2_with fail
  refine (linsum_any A n c Z b 2 s (some ⟨w3.heap.size, 0, none⟩) 4 4 (fun _ => 0) 0 1 false _ (by omega) I1 (by omega) I0).mono ?_
  rintro e w4 ⟨v, rfl, ⟨A3, c3, rfl, _, _, O3⟩, hq⟩
  clear c0 c1 cc2 al I0
  generalize hs : sumR n Z b s 2 4 (fun _ => 0) 0 false 1 = R at O3 ⊢
  have hR4 : R.1.1 ≤ 4 := by rw [← hs]; unfold sumR addR2; split <;> (first | (split <;> simp [zeroL]) | simp [zeroL])
  obtain ⟨R, fine⟩ := R
  simp only at O3 hR4 ⊢
  have I3 := O3.ints
  replace H := H.below hq
  replace I1 := I1.below hq
  replace hD := hD.below hq
  replace q0 := btr q0 hq
  clear hq O3
  cases fine
  · go_wp2
    go_ret
    exact ⟨rfl, bal q0 _⟩
  have hT := at_twice hp hs
  obtain ⟨a1, hL, hLa⟩ := at_loose hp
  clear hs hp
  have al := bal (Below.refl w4.heap.size w4) (.cells #[.slice A3 R.1 c3, .int .i64 R.2.2.1, .bool R.2.2.2] 25)
  replace H := (H.below al).app (KcL.new3 w4 (.slice A3 R.1 c3) (.int .i64 R.2.2.1) (.bool R.2.2.2) 25 rfl)
  replace I1 := I1.below al
  replace I3 := I3.below al
  replace hD := hD.below al
  replace q0 := btr q0 al
  rcases hr : atB R.1 R.2.1 R.2.2.1 R.2.2.2 m N M with ⟨r1, r2⟩
  rw [hr] at hT
  simp only at hT
  have HH := H; obtain ⟨c0, c1, cc2, d0, d1, d2, _⟩ := HH
  go_wp2_with fail
  refine (linat_at (by omega) I3 (by omega) hD hr).mono ?_
  rintro e w5 ⟨rfl, hq⟩
  clear c0 c1 cc2 d0 d1 d2 hr
  replace H := H.below hq
  replace I1 := I1.below hq
  replace hD := hD.below hq
  replace q0 := btr q0 hq
  clear hq al I3
  have HH := H; obtain ⟨c0, c1, cc2, d0, d1, d2, _⟩ := HH
  have al := bal (Below.refl w5.heap.size w5) (.cells #[.slice A n c, .int .i64 b, .bool false] 25)
  replace I1 := I1.below al
  replace hD := hD.below al
  replace q0 := btr q0 al
  go_wp2_with fail
  refine (linat_at (by omega) I1 (by omega) hD hL).mono ?_
  rintro e w6 ⟨rfl, hq⟩
  replace q0 := btr q0 hq
  clear hq al I1 hD hL H c0 c1 cc2 d0 d1 d2
  cases r2
  · cases p1
    · go_wp2
      go_ret
      exact ⟨rfl, q0⟩
    · obtain rfl := hLa rfl
      go_wp2
      go_ret
      exact ⟨rfl, q0⟩
  · obtain rfl := hT rfl
    cases r1
    · go_wp2
      go_ret
      exact ⟨rfl, q0⟩
    · obtain rfl := hLa rfl
      go_wp2
      go_ret
      exact ⟨rfl, q0⟩
end Go.Proofs.Ytbdmofmoegmigaa
