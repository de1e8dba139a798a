/- Contract of the kit's RatText, and the walk of the exact law. -/
import Derived.Test.YthcabejfmoedfaaDoorDec
import Derived.Test.YthcabejfmoedfaaDoorLawK
import Derived.Test.YthcabejfmoedfaaDoorBR
namespace Go.Proofs.YthcabejfmoedfaaDoor
set_option linter.unusedVariables false
set_option linter.unusedSimpArgs false
open Go.Shelf Go.RowKit Go.Joins
theorem str_app (a b : List UInt8) : (⟨a.toArray⟩ : ByteArray) ++ ⟨b.toArray⟩ = ⟨(a ++ b).toArray⟩ := by
  apply ByteArray.ext
  rw [ByteArray.data_append]
  show a.toArray ++ b.toArray = _
  rw [List.append_toArray]
set_option maxRecDepth 100000 in
set_option maxHeartbeats 4000000 in
theorem say_any (n d : Int) (w : World) :
    Calls Tryd.prog 15 #[.agg #[.int .i64 n, .int .i64 d]] w fun e w' => e = .returned (.string ⟨(ratTxt n d).toArray⟩) ∧ Below w.heap.size w w' := by
  cases hv : okB n d
  · have e : ratTxt n d = [] := by unfold ratTxt; rw [if_neg (by simp [hv])]
    rw [e]
    go_enter Tryd.func15, Tryd.ntmps15
    go_wp2_with fail
    refine (sok_at n d _ hv).mono ?_
    rintro e w1 ⟨rfl, hb⟩
    go_wp2_with fail
    go_ret
    exact ⟨rfl, btr (bal (Below.refl _ _) _) hb⟩
  · obtain ⟨n1, n2, d1, d2⟩ := ok_b hv
    have ln := itoa_len ⟨n1, n2⟩
    have ld := itoa_len (n := d) (by omega)
    obtain ⟨c0, c1⟩ := pair_new w (.int .i64 n) (.int .i64 d) 23
    by_cases hd : d = 1
    · have e : ratTxt n d = Lib.itoa n := by unfold ratTxt; rw [if_pos hv, if_pos hd, List.append_nil]
      rw [e]; clear e
      subst hd
      go_enter Tryd.func15, Tryd.ntmps15
      go_wp2_with fail
      refine (sok_at n 1 _ hv).mono ?_
      rintro e w1 ⟨rfl, hb⟩
      replace c0 := carry hb c0
      replace c1 := carry hb c1
      have hW := btr (bal (Below.refl w.heap.size w) _) hb
      clear hb
      go_wp2_with fail
      refine (ldec_at n w1 ⟨n1, n2⟩).mono ?_
      rintro e w2 ⟨rfl, hb⟩
      go_wp2_with fail
      go_ret
      exact ⟨rfl, btr hW hb⟩
    · have e : ratTxt n d = Lib.itoa n ++ 47 :: Lib.itoa d := by unfold ratTxt; rw [if_pos hv, if_neg hd]
      rw [e]; clear e
      have hd' : (d == 1) = false := by simpa using hd
      have cc : ∀ v W, (-1000000000 ≤ v ∧ v ≤ 1000000000) → _ := fun v W h => ldec_at v W h
      have nn : -1000000000 ≤ n ∧ n ≤ 1000000000 := ⟨n1, n2⟩
      have dd : -1000000000 ≤ d ∧ d ≤ 1000000000 := by omega
      generalize Lib.itoa = f at ln ld cc ⊢
      have zn : ByteArray.size ⟨(f n).toArray⟩ ≤ 1000000002 := ln
      have zd : ByteArray.size ⟨(f d).toArray⟩ ≤ 1000000002 := ld
      go_enter Tryd.func15, Tryd.ntmps15
      go_wp2_with fail
      refine (sok_at n d _ hv).mono ?_
      rintro e w1 ⟨rfl, hb⟩
      replace c0 := carry hb c0
      replace c1 := carry hb c1
      have hW := btr (bal (Below.refl w.heap.size w) _) hb
      clear hb
      have gc0 : ∀ X : Gro w1, (gro w1 X).cell? ⟨w.heap.size, 0, none⟩ = some (.int .i64 n) := fun X => carry X.h c0
      have gc1 : ∀ X : Gro w1, (gro w1 X).cell? ⟨w.heap.size, 1, none⟩ = some (.int .i64 d) := fun X => carry X.h c1
      go_wp2_with fail
      refine wp_region_grow_lit (by kernel_rfl) (by kernel_rfl) ?_
      repeat (go_big_quiet_step ((go_at_call 55; exact grow_call _ (cc _ _ (by assumption)))))
      refine wpQuiet_nil ?_
      rintro _ ⟨X, rfl⟩
      go_wp2
      go_ret
      refine ⟨?_, btr hW X.h⟩
      show Ending.returned (Value.string ((⟨(f n).toArray⟩ : ByteArray) ++ ⟨[(47 : UInt8)].toArray⟩ ++ ⟨(f d).toArray⟩)) = _
      rw [str_app, str_app, List.append_assoc]
      rfl
end Go.Proofs.YthcabejfmoedfaaDoor
