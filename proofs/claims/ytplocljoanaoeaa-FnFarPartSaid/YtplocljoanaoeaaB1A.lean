/- Several texts in one: FvN, FvP, FvR, FvQ. -/
import Derived.Test.YtplocljoanaoeaaB8
import Derived.Test.YtplocljoanaoeaaB5
import Derived.Test.YtplocljoanaoeaaB6
import Derived.Test.YtplocljoanaoeaaLinX
import Derived.Test.YtplocljoanaoeaaB7
namespace Go.Proofs.Ytplocljoanaoeaa
set_option linter.unusedVariables false
set_option linter.unusedSimpArgs false
open Go.RowKit
theorem linsame_selfN {A B : Option Addr} {n c d : Nat} {Z : Nat → Int} {b : Int} {s : Bool} {w : World} (hn : n ≤ 9223372036854775806) (hA : Ints w A n Z) (hB : Ints w B n Z) :
    Calls Try.prog 20 #[.agg #[.slice A n c, .int .i64 b, .bool s], .agg #[.slice B n d, .int .i64 b, .bool s]] w fun e w' => e = .returned (.bool true) ∧ Below w.heap.size w w' := by
  have := linsame_any A B n n c d Z Z b b s s w hn hn hA hB
  rw [eqL_self] at this
  exact this
theorem code_zero {n : Nat} {L : Lst} (h : (runE n L).code = 0) : ∃ N D, runE n L = .yes N D := by
  cases hr : runE n L with
  | yes N D => exact ⟨N, D, rfl⟩
  | no U => rw [hr] at h; simp [FarE.code] at h
  | much => rw [hr] at h; simp [FarE.code] at h
  | form => rw [hr] at h; simp [FarE.code] at h
set_option maxRecDepth 100000 in
set_option maxHeartbeats 16000000 in
theorem walk_FarNever (a0 : Option Addr) (len0 cap0 : Nat) (w : World) (hby : Bytes w.heap.size w a0 len0) (hlc : len0 ≤ cap0) (hc0 : cap0 ≤ 9223372036854775807) :
    Calls Try.prog 3 #[.slice a0 len0 cap0] w fun e w' => e = .returned (.bool true) ∧ Below w.heap.size w w' := by
  by_cases hbig : 1048576 < len0
  · go_enter Try.func3, Try.ntmps3
    go_wp2
    go_ret
    exact ⟨rfl, Below.refl _ _⟩
  go_enter Try.func3, Try.ntmps3
  go_wp2_with fail
  refine (drawfarok_any w.heap.size w a0 len0 cap0 (Nat.le_refl _) hby hlc hc0).mono ?_
  rintro e w1 ⟨A, n, c, L, B, m, d, T, rfl, hn, hA, hN0, hm, hB, hq⟩
  have hN : ∀ k, k < n → L.N k ≤ 1048576 := fun k hk => by have := hN0 k hk; omega
  have q0 := hq
  clear hq hN0
  go_wp2_with fail
  refine (drawlinat_any w.heap.size w1 a0 len0 cap0 q0.size (hby.below q0) hlc hc0).mono ?_
  rintro e w2 ⟨A4, n4, c4, Z4, b4, s4, D, v, dv, N0, M0, rfl, _, _, hv, hV, hq⟩
  have al := bal (Below.refl w2.heap.size w2) (.cells #[.slice A4 n4 c4, .int .i64 b4, .bool s4] 28)
  replace hA := hA.below (btr hq al)
  replace hB := hB.below (btr hq al)
  replace hV := hV.below al
  replace q0 := btr (btr q0 hq) al
  clear hq al hby hlc hc0 hbig
  have hI := fun W h1 h2 => farok_any A n c L B m d T W (by omega) h1 (by omega) h2 hN
  have hP := fun W h1 h2 => sfarok_any A n c L B m d T W (by omega) h1 (by omega) h2 hN
  have hR := fun W h => farrun_any A n c L W (by omega) h hN
  have hF := fun W h1 h2 => farall_any A n c L D v dv N0 M0 W (by omega) h1 hN (by omega) h2
  have hnev := @far_never n v L m T N0 M0
  have hnev2 := fun h0 => (code_zero (n := n) (L := L) h0).elim fun N => fun ⟨D', e⟩ => fun h => @far_never n 4 L m T N D' h (runE_yA e)
  generalize hk : farOkB (farS n L m T) = ok at *
  clear hk
  have dk : (ok != ok) = false := by simp
  have dk2 : (ok == ok) = true := by simp
  go_wp2_with fail
  refine (hI _ hA hB).mono ?_
  rintro e w3 ⟨rfl, hq⟩
  replace hA := hA.below hq
  replace hB := hB.below hq
  replace hV := hV.below hq
  replace q0 := btr q0 hq
  clear hq hI
  go_wp2_with fail
  refine (hP _ hA hB).mono ?_
  rintro e w4 ⟨rfl, hq⟩
  replace hA := hA.below hq
  replace hB := hB.below hq
  replace hV := hV.below hq
  replace q0 := btr q0 hq
  clear hq
  cases ok
  · go_wp2_with fail
    refine (hP _ hA hB).mono ?_
    rintro e w5 ⟨rfl, hq⟩
    go_wp2
    go_ret
    exact ⟨rfl, btr q0 hq⟩
  have hall : allB n L v N0 M0 = false := by
    cases e : allB n L v N0 M0
    · rfl
    · exact (hnev rfl e).elim
  rw [hall] at hF
  have hcode : (runE n L).code ≠ 0 := fun h => hnev2 h rfl
  generalize runE n L = R at hR hcode
  have d0 : (R.code != 0) = true := by simpa using hcode
  clear hnev hnev2 hall hcode hP
  unfold RunP at hR
  go_wp2_with fail
  refine (hR _ hA).mono ?_
  rintro e w5 ⟨A1, c1, B1, d1, rfl, hq, _, _⟩
  replace hA := hA.below hq
  replace hV := hV.below hq
  replace q0 := btr q0 hq
  clear hq hR
  go_wp2_with fail
  refine (hF _ hA hV).mono ?_
  rintro e w6 ⟨rfl, hq⟩
  go_wp2
  go_ret
  exact ⟨rfl, btr q0 hq⟩
def L0N : Lst := ⟨fun _ => 0, fun _ _ => 0, fun _ => 0, fun _ => false⟩
theorem okS_zero : okS 0 L0N = true := okS_iff.2 ⟨by omega, fun k hk => by omega⟩
theorem run_zero : (runE 0 L0N).code = 0 := by
  decide +kernel
theorem bad_zero (T : Nat → Int) : farOkB (farS 0 L0N 0 T) = false := by
  unfold farS
  rw [if_pos ⟨okS_zero, rfl, rfl⟩]
  simp [farOkB, sumS, badB, emptyB, refB]
set_option maxRecDepth 100000 in
set_option maxHeartbeats 16000000 in
theorem walk_FarNone (a0 : Option Addr) (len0 cap0 : Nat) (w : World) (hby : Bytes w.heap.size w a0 len0) (hlc : len0 ≤ cap0) (hc0 : cap0 ≤ 9223372036854775807) :
    Calls Try.prog 9 #[.slice a0 len0 cap0] w fun e w' => e = .returned (.bool true) ∧ Below w.heap.size w w' := by
  by_cases hbig : 1048576 < len0
  · go_enter Try.func9, Try.ntmps9
    go_wp2
    go_ret
    exact ⟨rfl, Below.refl _ _⟩
  go_enter Try.func9, Try.ntmps9
  go_wp2_with fail
  refine (drawfarall_any w.heap.size w a0 len0 cap0 (Nat.le_refl _) hby hlc hc0).mono ?_
  rintro e w1 ⟨_, _, _, _, D, m, d, N, M, rfl, _, _, _, hm, hV, hq⟩
  have q0 := hq
  clear hq hby hlc hc0 hbig
  have hF := fun W h => farall_any none 0 0 L0N D m d N M W (by omega) (.inl rfl) (fun k hk => by omega) (by omega) h
  have hP := fun W h => sfarall_any none 0 0 L0N D m d N M W (by omega) (.inl rfl) (fun k hk => by omega) (by omega) h
  have hR := fun W => farrun_any none 0 0 L0N W (by omega) (.inl rfl) (fun k hk => by omega)
  have hO := fun W => farok_any none 0 0 L0N none 0 0 (fun _ => 0) W (by omega) (.inl rfl) (by omega) (.inl rfl) (fun k hk => by omega)
  obtain ⟨N1, D1, hr⟩ := code_zero run_zero
  have hall := runE_yA hr
  have hG := fun W A c h => farall_any none 0 0 L0N A 4 c N1 D1 W (by omega) (.inl rfl) (fun k hk => by omega) (by omega) h
  rw [hall] at hG
  rw [hr] at hR
  rw [bad_zero] at hO
  unfold RunP at hR
  simp only [FarE.m, FarE.k, FarE.N, FarE.D, FarE.U, FarE.code] at hR
  generalize allB 0 L0N m N M = al at *
  have dk : (al == al) = true := by simp
  clear hr hall
  go_wp2_with fail
  refine (hF _ hV).mono ?_
  rintro e w2 ⟨rfl, hq⟩
  replace hV := hV.below hq
  replace q0 := btr q0 hq
  clear hq hF
  go_wp2_with fail
  refine (hR _).mono ?_
  rintro e w3 ⟨A1, c1, B1, d1, rfl, hq, O1, _⟩
  have hV1 := O1.rats
  replace hV := hV.below hq
  replace q0 := btr q0 hq
  clear hq hR O1
  go_wp2_with fail
  refine (hP _ hV).mono ?_
  rintro e w4 ⟨rfl, hq⟩
  replace hV1 := hV1.below hq
  replace q0 := btr q0 hq
  clear hq hP
  go_wp2_with fail
  refine (hG _ A1 c1 hV1).mono ?_
  rintro e w5 ⟨rfl, hq⟩
  replace q0 := btr q0 hq
  clear hq
  go_wp2_with fail
  refine (hO _).mono ?_
  rintro e w6 ⟨rfl, hq⟩
  go_wp2
  go_ret
  exact ⟨rfl, btr q0 hq⟩
set_option maxRecDepth 100000 in
set_option maxHeartbeats 16000000 in
theorem walk_FarSum (a0 : Option Addr) (len0 cap0 : Nat) (w : World) (hby : Bytes w.heap.size w a0 len0) (hlc : len0 ≤ cap0) (hc0 : cap0 ≤ 9223372036854775807) :
    Calls Try.prog 4 #[.slice a0 len0 cap0] w fun e w' => e = .returned (.bool true) ∧ Below w.heap.size w w' := by
  by_cases hbig : 1048576 < len0
  · go_enter Try.func4, Try.ntmps4
    go_wp2
    go_ret
    exact ⟨rfl, Below.refl _ _⟩
  go_enter Try.func4, Try.ntmps4
  go_wp2_with fail
  refine (drawfarsum_any w.heap.size w a0 len0 cap0 (Nat.le_refl _) hby hlc hc0).mono ?_
  rintro e w1 ⟨A, n, c, L, B, m, d, T, rfl, hn, hA, hN0, hm, hB, hq⟩
  have hN : ∀ k, k < n → L.N k ≤ 1048576 := fun k hk => by have := hN0 k hk; omega
  have q0 := hq
  clear hq hN0 hby hlc hc0 hbig
  have hI := fun W h1 h2 => farsum_any A n c L B m d T W (by omega) h1 (by omega) h2 hN
  have hP := fun W h1 h2 => sfarsum_any A n c L B m d T W (by omega) h1 (by omega) h2 hN
  have hR := fun W h => farrun_any A n c L W (by omega) h hN
  have hln := farS_len n L m T
  have hfs := fun N D (e : runE n L = .yes N D) (h : (farS n L m T).2 = true) r => @far_sum n 4 L m T N D r h (runE_yA e)
  rcases hF : farS n L m T with ⟨R, fine⟩
  rw [hF] at hI hP hln hfs
  unfold SumP at hI hP
  simp only at hI hP hln hfs
  have df : (fine != fine) = false := by simp
  have ef : (fine == fine) = true := by simp
  clear hF
  go_wp2_with fail
  refine (hI _ hA hB).mono ?_
  rintro e w3 ⟨v3, rfl, ⟨A3, c3, rfl, _, _, O3⟩, hq⟩
  have I3 := O3.ints
  have al := bal (Below.refl w3.heap.size w3) (.cells #[.slice A3 R.1 c3, .int .i64 R.2.2.1, .bool R.2.2.2] 28)
  have H := KcL.new3 w3 (.slice A3 R.1 c3) (.int .i64 R.2.2.1) (.bool R.2.2.2) 28 rfl
  replace hA := (hA.below hq).below al
  replace hB := (hB.below hq).below al
  replace I3 := I3.below al
  replace q0 := btr (btr q0 hq) al
  clear hq al O3
  have HH := H; obtain ⟨c0, c1, c2, _⟩ := HH
  go_wp2_with fail
  refine (hP _ hA hB).mono ?_
  rintro e w4 ⟨v4, rfl, ⟨A5, c5, rfl, _, _, O5⟩, hq⟩
  have I5 := O5.ints
  clear c0 c1 c2 O5
  have al := bal (Below.refl w4.heap.size w4) (.cells #[.slice A5 R.1 c5, .int .i64 R.2.2.1, .bool R.2.2.2] 28)
  replace H := ((H.below hq).below al).app (KcL.new3 w4 (.slice A5 R.1 c5) (.int .i64 R.2.2.1) (.bool R.2.2.2) 28 rfl)
  replace hA := (hA.below hq).below al
  replace I3 := (I3.below hq).below al
  replace I5 := I5.below al
  replace q0 := btr (btr q0 hq) al
  clear hq al hP hI hB
  have HH := H; obtain ⟨c0, c1, c2, d0, d1, d2, _⟩ := HH
  go_wp2_with fail
  refine (linsame_selfN (by omega) I3 I5).mono ?_
  rintro e w5 ⟨rfl, hq⟩
  clear c0 c1 c2 d0 d1 d2
  replace H := H.below hq
  replace hA := hA.below hq
  replace I3 := I3.below hq
  replace I5 := I5.below hq
  replace q0 := btr q0 hq
  clear hq
  have HH := H; obtain ⟨c0, c1, c2, d0, d1, d2, _⟩ := HH
  cases fine
  · go_wp2_with fail
    refine (linsame_selfN (by omega) I3 I5).mono ?_
    rintro e w6 ⟨rfl, hq⟩
    go_wp2
    go_ret
    exact ⟨rfl, btr q0 hq⟩
  clear d0 d1 d2 I5
  have hR' := hR _ hA
  clear hR hA
  by_cases h0 : (runE n L).code = 0
  · obtain ⟨N, D, hr⟩ := code_zero h0
    have hfs' := fun r => hfs N D hr rfl r
    rw [hr] at hR'
    unfold RunP at hR'
    simp only [FarE.m, FarE.k, FarE.N, FarE.D, FarE.U, FarE.code] at hR'
    clear h0 hr hfs
    go_wp2_with fail
    refine hR'.mono ?_
    rintro e w6 ⟨A1, e1, B1, f1, rfl, hq, O1, _⟩
    have hV := O1.rats
    clear c0 c1 c2
    replace H := H.below hq
    replace I3 := I3.below hq
    replace q0 := btr q0 hq
    clear hq O1 hR'
    obtain ⟨c0, c1, c2, _⟩ := H
    have hT := linat_any A3 R.1 c3 R.2.1 R.2.2.1 R.2.2.2 A1 4 e1 N D w6 (by omega) I3 (by omega) hV
    rcases hat : atB R.1 R.2.1 R.2.2.1 R.2.2.2 4 N D with ⟨p, q⟩
    rw [hat] at hT
    cases q
    · go_wp2_with fail
      refine hT.mono ?_
      rintro e w7 ⟨rfl, hq⟩
      go_wp2
      go_ret
      exact ⟨rfl, btr q0 hq⟩
    · have hp := hfs' p hat
      subst hp
      go_wp2_with fail
      refine hT.mono ?_
      rintro e w7 ⟨rfl, hq⟩
      go_wp2
      go_ret
      exact ⟨rfl, btr q0 hq⟩
  · generalize runE n L = E at *
    have d0 : (E.code != 0) = true := by simpa using h0
    clear h0 hfs
    unfold RunP at hR'
    go_wp2_with fail
    refine hR'.mono ?_
    rintro e w6 ⟨A1, e1, B1, f1, rfl, hq, _, _⟩
    go_wp2
    go_ret
    exact ⟨rfl, btr q0 hq⟩
end Go.Proofs.Ytplocljoanaoeaa

namespace Go.Proofs.Ytplocljoanaoeaa
set_option linter.unusedVariables false
set_option linter.unusedSimpArgs false
open Go.RowKit
/-- the address and the capacity of a drawn list -/
def CapA (a : Option Addr) (n c : Nat) : Prop := (a = none ∧ n = 0 ∧ c = 0) ∨ ∃ g, a = some ⟨g, 0, none⟩ ∧ n ≤ c ∧ c ≤ 9223372036854775807
theorem own_cap {w : World} {base n size : Nat} {e : TypeId} {a : Option Addr} {c : Nat} {xs : List Value} (h : w.ownsRow base e size (.slice a n c) n xs) : CapA a n c := by
  obtain ⟨hl, ⟨h1, h2⟩ | ⟨g, cap, cur, h1, hg, hh, h3, h4, _, _⟩⟩ := h
  · injection h1 with e1 e2 e3
    exact .inl ⟨e1, e2, e3⟩
  · injection h1 with e1 e2 e3
    unfold maxLen at h4
    exact .inr ⟨g, e1, by omega, by omega⟩
def DrwC (w : World) (e : Ending) (w' : World) : Prop :=
  ∃ a n c L, e = .returned (.slice a n c) ∧ n ≤ 30 ∧ CapA a n c ∧ Lins w' a n L ∧ (∀ k, k < n → L.N k ≤ 5) ∧ Below w.heap.size w w'
set_option maxHeartbeats 4000000 in
theorem drawfarrunC_any (B : Nat) (w : World) (a : Option Addr) (len cap : Nat) (hB : B ≤ w.heap.size) (hby : Bytes B w a len) (hlc : len ≤ cap) (hc : cap ≤ 9223372036854775807) :
    Calls Try.prog 25 #[.slice a len cap] w (DrwC w) := by
  have hO := open_any B w a len cap hB hby hlc hc
  go_enter Try.func25, Try.ntmps25
  go_wp2_with fail
  refine hO.mono ?_
  rintro e w1 ⟨g, rfl, hb, hR, hg⟩
  clear hO
  go_wp2_with fail
  refine (l3some_any B w1 g 0 hR (by omega)).mono ?_
  rintro e w2 ⟨v, ds, q, rfl, hd, hn, hg2, _, _⟩
  obtain ⟨a3, c3, rfl⟩ := hd.sl
  have hz := hb.size
  go_wp2
  go_ret
  refine ⟨a3, ds.length, c3, lstD ds, rfl, hn, own_cap hd.1, hd.lins, hd.small, hb.grown hg2 hb.size (fun r hr => ?_)⟩
  have := Option.some.inj hr
  omega
theorem wpList_valP {P : Program} {ops : Array Oper} {rest : List Oper} {o : Oper} {a : Act} {w : World} {Q : Exit → Act → World → Prop} (hgd : o.guard = none) {v : Value} (hr : (execOp a.eval o).run P w = .ok (.value v) w) (h : wpList P ops Q rest (a.put o.dst v) w) : wpList P ops Q (o :: rest) a w := by
  refine wpList_plain hgd fun K hK => ?_
  unfold Oper.wp
  simp only [hr]
  exact hK _ _ h
theorem hi_lins {o : Oper} {x y : Operand} (ho : o.op = .slice 23 x none (some y) none) {a : Act} {A : Option Addr} {n c k : Nat} (hx : a.eval x = .slice A n c) (hy : a.eval y = .int .i64 k) (hA : CapA A n c) (hk : k ≤ n) (w : World) :
    (execOp a.eval o).run Try.prog w = .ok (.value (.slice A k c)) w := by
  rcases hA with ⟨rfl, rfl, rfl⟩ | ⟨g, rfl, h1, h2⟩
  · have hk0 : k = 0 := by omega
    subst hk0
    unfold execOp
    rw [ho]
    simp only [Option.map_some, Option.map_none, hx, hy]
    simp [go_sem]
  · unfold execOp
    rw [ho]
    simp only [Option.map_some, Option.map_none, hx, hy]
    simp [go_sem, Addr.add]
    try omega
theorem Lins.upto {w : World} {A : Option Addr} {n k : Nat} {L : Lst} (h : Lins w A n L) (hk : k ≤ n) : Lins w A k L := by
  rcases h with h | ⟨g, off, ha, hg, hc⟩
  · exact .inl (by omega)
  · exact .inr ⟨g, off, ha, hg, fun j hj => hc j (by omega)⟩
theorem okS_upto {n k : Nat} {L : Lst} (h : okS n L = true) (hk : k ≤ n) : okS k L = true := by
  rw [okS_iff] at *
  exact ⟨by omega, fun j hj => h.2 j (by omega)⟩
theorem allB_upto {n k m : Nat} {L : Lst} {N D : Nat → Int} (h : allB n L m N D = true) (hk : k ≤ n) : allB k L m N D = true := by
  rw [allB_iff] at *
  exact ⟨fun j hj => h.1 j (by omega), okS_upto h.2.1 hk, h.2.2⟩
theorem code_ok {n : Nat} {L : Lst} (h : okS n L = true) : (runE n L).code ≠ 3 := by
  intro e
  have := code_form (n := n) (L := L)
  rw [e, h] at this
  cases this
theorem ok_code {n : Nat} {L : Lst} (h : (runE n L).code ≠ 3) : okS n L = true := by
  cases e : okS n L
  · exfalso
    have := code_form (n := n) (L := L)
    rw [e] at this
    simp at this
    exact h this
  · rfl
/-- one constraint more that is taken no times -/
theorem far_more {n : Nat} {L : Lst} {T : Nat → Int} (h : farOkB (farS n L n T) = true) (hn : n < 20) : farOkB (farS (n + 1) (snocL n L 4 (fun _ => 0) 1 false) (n + 1) (fun k => if k = n then 0 else T k)) = true := by
  have hfree : okL 4 (fun _ => 0) 1 = true := okL_iff.2 ⟨rfl, fun k hk => by simp [inC], by simp [inC]⟩
  unfold farOkB at h
  rw [Bool.and_eq_true] at h
  unfold farS at h
  split at h
  case isFalse => cases h.1
  rename_i e
  obtain ⟨hok, _, hs⟩ := e
  have hpre : ∀ k, k ≤ n → sumS (snocL n L 4 (fun _ => 0) 1 false) (fun k => if k = n then 0 else T k) k = sumS L T k := by
    intro k
    induction k with
    | zero => intro _; rfl
    | succ k ih =>
      intro hk
      have e1 : k ≠ n := by omega
      rw [sumS, sumS, ih (by omega)]
      unfold stepS snocL
      simp only [if_neg e1]
  have hok' : okS (n + 1) (snocL n L 4 (fun _ => 0) 1 false) = true := by
    rw [okS_iff] at *
    refine ⟨by omega, fun k hk => ?_⟩
    unfold snocL
    by_cases e1 : k = n
    · simp only [if_pos e1]; exact hfree
    · simp only [if_neg e1]; exact hok.2 k (by omega)
  have hR0 : okL (sumS L T n).1.1 (sumS L T n).1.2.1 (sumS L T n).1.2.2.1 = true := by
    cases n with
    | zero => exact okL_iff.2 ⟨rfl, fun k hk => by simp [sumS, inC], by simp [sumS, inC]⟩
    | succ q =>
        have hq : (sumS L T q).2 = true := by
          cases e3 : (sumS L T q).2
          · rw [sumS, if_neg (by rw [e3]; simp)] at hs; cases hs
          · rfl
        have h3 := hs
        rw [sumS_succ hq] at h3 ⊢
        exact sum_ok (Prod.ext rfl h3)
  have h4 : (sumS L T n).1.1 = 4 := (okL_iff.1 hR0).1
  have hst : sumS (snocL n L 4 (fun _ => 0) 1 false) (fun k => if k = n then 0 else T k) (n + 1) = ((4, (sumS L T n).1.2.1, (sumS L T n).1.2.2.1, (sumS L T n).1.2.2.2), true) := by
    rw [sumS, hpre n (Nat.le_refl _), if_pos hs]
    unfold stepS snocL
    simp only [if_true]
    unfold sumR
    rw [if_pos ⟨hR0, hfree, by omega, by omega⟩]
    unfold addR2
    have e1 : addZ (sumS L T n).1.2.1 1 (fun _ => 0) 0 = (sumS L T n).1.2.1 := by funext k; simp [addZ]
    rw [e1, Int.mul_one, Int.mul_zero, Int.add_zero]
    rw [if_pos (by rw [← h4]; exact hR0)]
    congr 4
    unfold strB
    simp
  unfold farOkB farS
  rw [if_pos ⟨hok', rfl, by rw [hst]⟩, hst]
  have hb := h.2
  unfold badB at hb ⊢
  simp only [Bool.true_and]
  rw [h4] at hb
  exact hb
end Go.Proofs.Ytplocljoanaoeaa

namespace Go.Proofs.Ytplocljoanaoeaa
set_option linter.unusedVariables false
set_option linter.unusedSimpArgs false
open Go.RowKit
/-- an empty row of a type, made here -/
def EmB (u : World) (e : TypeId) (v : Value) (W : World) : Prop := ∃ b, v = .slice (some ⟨b, 0, none⟩) 0 0 ∧ u.heap.size ≤ b ∧ W.heap[b]? = some (Obj.cells #[] e (0, 0))
/-- one element in a block of its own, made here -/
def OneB (u : World) (xs : Array Value) (e : TypeId) (v : Value) (W : World) : Prop := ∃ h, v = .slice (some ⟨h, 0, none⟩) 1 1 ∧ u.heap.size ≤ h ∧ W.heap[h]? = some (Obj.cells xs e (0, 0))
/-- a list of numbers, made here -/
def RoT (u : World) (n : Nat) (X : Nat → Int) (v : Value) (W : World) : Prop := (∃ a c, v = .slice a n c) ∧ W.ownsRow u.heap.size 3 1 v n (vals n X)
/-- the block that grows is of a type -/
def TypR (W : World) (r : Option Nat) (e : TypeId) : Prop := ∀ g, r = some g → ∃ cs fr, W.heap[g]? = some (Obj.cells cs e fr)
theorem blk_keep {W W' : World} {r : Option Nat} {e e' : TypeId} {b : Nat} {xs : Array Value} {fr : Nat × Nat} (hg : W.grownBy W' r) (ht : TypR W r e') (he : e ≠ e') (hb : W.heap[b]? = some (Obj.cells xs e fr)) : W'.heap[b]? = some (Obj.cells xs e fr) := by
  refine (hg.block b (Array.getElem?_eq_some_iff.1 hb).1 (fun e2 => ?_)).trans hb
  obtain ⟨cs, f2, h⟩ := ht b e2.symm
  rw [hb] at h
  injection h with h
  injection h with _ h _
  exact he h
theorem own_TypR {W : World} {base n size : Nat} {e : TypeId} {v : Value} {xs : List Value} (h : W.ownsRow base e size v n xs) : TypR W v.ownBlock e := by
  intro g hg
  rcases h.2 with ⟨rfl, _⟩ | ⟨g2, cap, cur, rfl, _, hh, _⟩
  · simp [Value.ownBlock] at hg
  · simp only [Value.ownBlock, Option.some.injEq] at hg
    subst hg
    exact ⟨_, _, hh⟩
theorem blk_TypR {W : World} {b : Nat} {xs : Array Value} {e : TypeId} {fr : Nat × Nat} (h : W.heap[b]? = some (Obj.cells xs e fr)) : TypR W (some b) e := by
  intro g hg
  injection hg with hg
  subst hg
  exact ⟨_, _, h⟩
theorem EmB.typ {u W W' : World} {r : Option Nat} {e e' : TypeId} {v : Value} (h : EmB u e v W) (hg : W.grownBy W' r) (ht : TypR W r e') (he : e ≠ e') : EmB u e v W' := by
  obtain ⟨b, h1, h2, h3⟩ := h
  exact ⟨b, h1, h2, blk_keep hg ht he h3⟩
theorem OneB.typ {u W W' : World} {r : Option Nat} {e e' : TypeId} {v : Value} {xs : Array Value} (h : OneB u xs e v W) (hg : W.grownBy W' r) (ht : TypR W r e') (he : e ≠ e') : OneB u xs e v W' := by
  obtain ⟨b, h1, h2, h3⟩ := h
  exact ⟨b, h1, h2, blk_keep hg ht he h3⟩
theorem own_keepT {W W' : World} {r : Option Nat} {e e' : TypeId} {v : Value} {base size n : Nat} {xs : List Value} (h : W.ownsRow base e size v n xs) (hg : W.grownBy W' r) (ht : TypR W r e') (he : e ≠ e') : W'.ownsRow base e size v n xs := by
  rcases h.2 with ⟨rfl, _⟩ | ⟨g2, cap, cur, rfl, _, hh, _⟩
  · exact h.kept hg (.inl rfl)
  · refine h.kept hg (.inr fun e2 => ?_)
    obtain ⟨cs, f2, h⟩ := ht g2 e2.symm
    rw [hh] at h
    injection h with h
    injection h with _ h _
    exact he h
theorem RoL.typ {u W W' : World} {r : Option Nat} {e' : TypeId} {n : Nat} {L : Lst} {v : Value} (h : RoL u n L v W) (hg : W.grownBy W' r) (ht : TypR W r e') (he : 28 ≠ e') : RoL u n L v W' := by
  obtain ⟨a, c, LA, LC, e, h1, h2⟩ := h
  exact ⟨a, c, LA, LC, e, own_keepT h1 hg ht he, h2⟩
theorem RoT.typ {u W W' : World} {r : Option Nat} {e' : TypeId} {n : Nat} {X : Nat → Int} {v : Value} (h : RoT u n X v W) (hg : W.grownBy W' r) (ht : TypR W r e') (he : 3 ≠ e') : RoT u n X v W' :=
  ⟨h.1, own_keepT h.2 hg ht he⟩
theorem EmB.below {u W W' : World} {e : TypeId} {v : Value} (h : EmB u e v W) (hb : Below W.heap.size W W') : EmB u e v W' := by
  obtain ⟨b, e, h1, h2⟩ := h
  exact ⟨b, e, h1, (hb.block b (Array.getElem?_eq_some_iff.1 h2).1).trans h2⟩
theorem OneB.below {u W W' : World} {e : TypeId} {v : Value} {xs : Array Value} (h : OneB u xs e v W) (hb : Below W.heap.size W W') : OneB u xs e v W' := by
  obtain ⟨b, e, h1, h2⟩ := h
  exact ⟨b, e, h1, (hb.block b (Array.getElem?_eq_some_iff.1 h2).1).trans h2⟩
theorem RoT.below {u W W' : World} {n : Nat} {X : Nat → Int} {v : Value} (h : RoT u n X v W) (hb : Below W.heap.size W W') : RoT u n X v W' := ⟨h.1, own_below hb h.2⟩
/-- an append to an empty row leaves an element in a block of its own -/
theorem OneB.grow {u W W' : World} {e e' : TypeId} {v : Value} {x : Value} {xs : List Value} {g : Nat} (h : OneB u ⟨x :: xs⟩ e v W) (hg : W.grownBy W' (some g)) (he : W.heap[g]? = some (Obj.cells #[] e' (0, 0))) : OneB u ⟨x :: xs⟩ e v W' := by
  obtain ⟨b, h1, h2, h3⟩ := h
  refine ⟨b, h1, h2, (hg.block b (Array.getElem?_eq_some_iff.1 h3).1 (fun e2 => ?_)).trans h3⟩
  injection e2 with e2
  subst e2
  rw [h3] at he
  injection he with he
  injection he with he _ _
  have := congrArg Array.size he
  simp at this
theorem OneB.onl {u W : World} {A : Option Addr} {m c : Nat} {b : Int} {s : Bool} {v : Value} (h : OneB u #[.slice A m c, .int .i64 b, .bool s] 28 v W) : OnL u A m c b s v W := by
  obtain ⟨h, e, h1, h2⟩ := h
  refine ⟨h, e, h1, ?_, ?_, ?_⟩ <;> simp [World.cell?, h2]
theorem RoT.ints {u W : World} {n : Nat} {X : Nat → Int} {v : Value} (h : RoT u n X v W) : ∃ a c, v = .slice a n c ∧ Ints W a n X := by
  obtain ⟨⟨a, c, rfl⟩, ho⟩ := h
  refine ⟨a, c, rfl, ?_⟩
  have hc := fun g hg => ho.cells (g := g) hg
  obtain ⟨_, ⟨e, h0⟩ | ⟨g, cap, cur, e, _, hh, _⟩⟩ := ho
  · exact .inl h0
  · injection e with e _ _
    subst e
    refine .inr ⟨g, 0, rfl, (Array.getElem?_eq_some_iff.1 hh).1, fun k hk => ?_⟩
    have := hc g rfl k _ (vals_at hk)
    rwa [add_far] at this
/-- numbers appended to an empty row -/
theorem appT_own (g : Nat) (A : Option Addr) (c n : Nat) (X : Nat → Int) (ty : TypeId) (u w : World) (hn : n ≤ 1000) (hA : Ints u A n X) (hu : Below u.heap.size u w) (hg : w.heap[g]? = some (Obj.cells #[] 3 (0, 0))) (hb : u.heap.size ≤ g) :
    ∃ v w', (Builtin.append_ #[24, 24] ty #[.slice (some ⟨g, 0, none⟩) 0 0, .slice A n c]).run Try.prog w = .ok v w' ∧ w.grownBy w' (some g) ∧ RoT u n X v w' := by
  obtain ⟨i0, hi, hz0, hz1, hz2⟩ := info_parts infoI
  have hown : w.ownsRow u.heap.size 3 1 (.slice (some ⟨g, 0, none⟩) 0 0) 0 [] := ⟨by simp, .inr ⟨g, 0, #[], rfl, hb, hg, Nat.le_refl _, by decide, rfl, rfl⟩⟩
  have hI := hA.below hu
  by_cases h0 : n = 0
  · subst h0
    refine ⟨.slice (some ⟨g, 0, none⟩) 0 0, w, ?_, grow_refl _ _, ⟨_, _, rfl⟩, hown⟩
    cases A with
    | none => simp [Builtin.append_, run_underlying Try.underlying24, sizeOf, typeInfo, hi, Builtin.lenOf, Builtin.firstCells, storeCells]
    | some a =>
      have hf := run_firstCells_some (P := Try.prog) w i0.size 0 a 0 c [] (by simp) (fun j v h => by simp at h)
      simp [Builtin.append_, run_underlying Try.underlying24, sizeOf, typeInfo, hi, Builtin.lenOf, hf, storeCells]
  · rcases hI with h | ⟨g4, off, rfl, hg4, hc⟩
    · exact absurd h h0
    obtain ⟨v', w', hr, h2, h3, _, h5⟩ := run_append_own_at (P := Try.prog) w u.heap.size 24 ty 3 i0 (.int .i64 0) 1 8 Try.underlying24 hi hz0 hz1 hz2 rfl (by decide) (.slice (some ⟨g, 0, none⟩) 0 0) 0 [] hown ⟨g4, off, none⟩ n c (vals n X) (by unfold vals; simp)
      (fun j v h => by
        have hj : j < n := by have := (List.getElem?_eq_some_iff.1 h).1; unfold vals at this; simpa using this
        rw [vals_at hj] at h
        rw [← Option.some.inj h, add_far]
        exact hc j hj) (fun x hx => by
        obtain ⟨j, _, rfl⟩ := List.mem_map.1 hx
        rfl) (by unfold maxLen; omega) (by omega) hu.size
    rw [Nat.zero_add, List.nil_append] at h2
    exact ⟨_, w', hr, h3, own_slice h2, h2⟩
/-- one number appended -/
theorem appT_one (n : Nat) (X : Nat → Int) (ty : TypeId) (u w : World) (v x : Value) (z : Int) (hn : n ≤ 1000) (hu : Below u.heap.size u w) (hv : RoT u n X v w) (hx : OneB u #[.int .i64 z] 3 x w) :
    ∃ v' w', (Builtin.append_ #[24, 24] ty #[v, x]).run Try.prog w = .ok v' w' ∧ w.grownBy w' v.ownBlock ∧ (∀ r, v.ownBlock = some r → u.heap.size ≤ r) ∧ RoT u (n + 1) (fun k => if k = n then z else X k) v' w' := by
  obtain ⟨i0, hi, hz0, hz1, hz2⟩ := info_parts infoI
  obtain ⟨_, hown⟩ := hv
  obtain ⟨h, rfl, _, x0⟩ := hx
  obtain ⟨v', w', hr', h2, h3, _, h5⟩ := run_append_own_at (P := Try.prog) w u.heap.size 24 ty 3 i0 (.int .i64 0) 1 8 Try.underlying24 hi hz0 hz1 hz2 rfl (by decide) _ n _ hown ⟨h, 0, none⟩ 1 1 [.int .i64 z] rfl
    (fun j y hy => by
      rw [add_far, Nat.zero_add]
      match j, hy with
      | 0, hy => simp at hy; subst hy; simp [World.cell?, x0]
      | j + 1, hy => simp at hy) (fun y hy => by
      simp at hy
      rcases hy with rfl
      rfl) (by unfold maxLen; omega) (by omega) hu.size
  refine ⟨_, w', hr', h3, fun r e => (hown.lt r e).1, own_slice h2, ?_⟩
  rw [vals_snoc]
  have e1 : vals n (fun k => if k = n then z else X k) = vals n X := by
    unfold vals
    refine List.map_congr_left fun j hj => ?_
    have := List.mem_range.1 hj
    show Value.int .i64 (if j = n then z else X j) = _
    rw [if_neg (by omega)]
  rw [e1, if_pos rfl]
  exact h2
end Go.Proofs.Ytplocljoanaoeaa

namespace Go.Proofs.Ytplocljoanaoeaa
set_option linter.unusedVariables false
set_option linter.unusedSimpArgs false
open Go.RowKit
theorem RoL.typR {u W : World} {n : Nat} {L : Lst} {v : Value} (h : RoL u n L v W) : TypR W v.ownBlock 28 := by
  obtain ⟨_, _, _, _, _, h1, _⟩ := h
  exact own_TypR h1
theorem zeros_ints (w : World) (x : Obj) : Ints ((w.alloc (.cells #[.int .i64 0, .int .i64 0, .int .i64 0, .int .i64 0] 3)).alloc x) (some ⟨w.heap.size, 0, none⟩) 4 (fun _ => 0) := by
  refine Ints.below (.inr ⟨w.heap.size, 0, rfl, ?_, fun k hk => ?_⟩) (bal (Below.refl _ _) x)
  · rw [World.size_alloc]; omega
  · match k, hk with
    | 0, _ => simp [go_sem]
    | 1, _ => simp [go_sem]
    | 2, _ => simp [go_sem]
    | 3, _ => simp [go_sem]
def PoQ (u : World) (A : Option Addr) (n c : Nat) (L : Lst) (B : Option Addr) (d : Nat) (U : Nat → Int) (A4 : Option Addr) : Nat → Value → World → Prop
  | 0, v, W => EmB u 28 v W
  | 1, v, W => v = .slice A n c
  | 2, v, W => RoL u n L v W
  | 3, v, W => v = .agg #[.slice A4 4 4, .int .i64 1, .bool false]
  | 4, v, W => OneB u #[.slice A4 4 4, .int .i64 1, .bool false] 28 v W
  | 5, v, W => RoL u (n + 1) (snocL n L 4 (fun _ => 0) 1 false) v W
  | 6, v, W => EmB u 3 v W
  | 7, v, W => v = .slice B n d
  | 8, v, W => RoT u n U v W
  | 9, v, W => OneB u #[.int .i64 0] 3 v W
  | 10, v, W => RoT u (n + 1) (fun k => if k = n then 0 else U k) v W
  | 11, v, W => v = .bool true
  | 12, v, W => v = .bool true
  | _, _, _ => True
theorem PoQ_mono {u : World} {A : Option Addr} {n c : Nat} {L : Lst} {B : Option Addr} {d : Nat} {U : Nat → Int} {A4 : Option Addr} : ∀ (j : Nat) (v : Value) (W W' : World), Below W.heap.size W W' → PoQ u A n c L B d U A4 j v W → PoQ u A n c L B d U A4 j v W'
  | 0, v, W, W', hb, h => EmB.below h hb
  | 1, v, W, W', hb, h => h
  | 2, v, W, W', hb, h => RoL.below h hb
  | 3, v, W, W', hb, h => h
  | 4, v, W, W', hb, h => OneB.below h hb
  | 5, v, W, W', hb, h => RoL.below h hb
  | 6, v, W, W', hb, h => EmB.below h hb
  | 7, v, W, W', hb, h => h
  | 8, v, W, W', hb, h => RoT.below h hb
  | 9, v, W, W', hb, h => OneB.below h hb
  | 10, v, W, W', hb, h => RoT.below h hb
  | 11, v, W, W', hb, h => h
  | 12, v, W, W', hb, h => h
  | j + 13, v, W, W', hb, h => trivial
set_option maxRecDepth 100000 in
set_option maxHeartbeats 16000000 in
theorem walk_FarPart (a0 : Option Addr) (len0 cap0 : Nat) (a1 : Option Addr) (len1 cap1 : Nat) (w : World) (hby : Bytes w.heap.size w a0 len0) (hlc : len0 ≤ cap0) (hc0 : cap0 ≤ 9223372036854775807) (hby1 : Bytes w.heap.size w a1 len1) (hlc1 : len1 ≤ cap1) (hc1 : cap1 ≤ 9223372036854775807) :
    Calls Try.prog 6 #[.slice a0 len0 cap0, .slice a1 len1 cap1] w fun e w' => e = .returned (.bool true) ∧ Below w.heap.size w w' := by
  clear hby1
  by_cases hbig : 1048576 < len0
  · go_enter Try.func6, Try.ntmps6
    go_wp2
    go_ret
    exact ⟨rfl, Below.refl _ _⟩
  have hb0 : decide (1048576 < (len0 : Int)) = false := decide_eq_false (by omega)
  by_cases hbig1 : 1048576 < len1
  · go_enter Try.func6, Try.ntmps6
    go_wp2
    go_ret
    exact ⟨rfl, Below.refl _ _⟩
  have hb1 : decide (1048576 < (len1 : Int)) = false := decide_eq_false (by omega)
  go_enter Try.func6, Try.ntmps6
  go_wp2_with fail
  refine (drawfarrunC_any w.heap.size w a0 len0 cap0 (Nat.le_refl _) hby hlc hc0).mono ?_
  rintro e w1 ⟨A, n, c, L, rfl, hn, hcap, hA, hN0, hq⟩
  have hN : ∀ k, k < n → L.N k ≤ 1048576 := fun k hk => by have := hN0 k hk; omega
  have q0 := hq
  clear hq hN0 hby hlc hc0 hbig hlc1 hc1 hb0 hb1
  have hI := fun W h => farrun_any A n c L W (by omega) h hN
  have hP := fun W h => sfarrun_any A n c L W (by omega) h hN
  unfold RunP at hI
  unfold SRunP at hP
  go_wp2_with fail
  refine (hI _ hA).mono ?_
  rintro e w2 ⟨A1, c1, B1, d1, rfl, hq, hV, hT⟩
  replace hA := hA.below hq
  replace q0 := btr q0 hq
  clear hq hI
  go_wp2_with fail
  refine (hP _ hA).mono ?_
  rintro e w3 ⟨A2, c2, B2, d2, rfl, hq, _, _⟩
  have hVT : RatB w1.heap.size w2.heap.size w3 A1 (runE n L).m (runE n L).N (runE n L).D := hV.below hq
  have hT3 : Ints w3 B1 ((runE n L).k n) (runE n L).U := hT.ownB.ints.below hq
  replace hA := hA.below hq
  replace q0 := btr q0 hq
  clear hq hP hV hT
  have hyes := fun N D (e : runE n L = .yes N D) => runE_yA e
  have hno := fun U (e : runE n L = .no U) => runE_nA e
  have hok := @ok_code n L
  have hV3 := hVT.rats
  clear hVT
  generalize hRE : runE n L = R at *
  have dc : (R.code != R.code) = false := by simp
  have dc2 : (R.code == R.code) = true := by simp
  by_cases h3 : R.code = 3
  · have d3 : (R.code == 3) = true := by simpa using h3
    clear h3
    go_wp2
    go_ret
    exact ⟨rfl, q0⟩
  have d3 : (R.code == 3) = false := by simpa using h3
  have HOK := hok h3
  clear hok h3
  obtain ⟨k, hk⟩ : ∃ k : Nat, (len1 : Int) % ((n : Int) + 1) = (k : Int) := ⟨len1 % (n + 1), by push_cast; rfl⟩
  have hkn : k ≤ n := by have h1 := Int.emod_lt_of_pos (len1 : Int) (show (0 : Int) < (n : Int) + 1 by omega); rw [hk] at h1; omega
  have hF := fun W h => farrun_any A k c L W (by omega) h (fun j hj => hN j (by omega))
  unfold RunP at hF
  have hAk := hA.upto hkn
  go_upto_region 9 with fail
  rw [hk]
  refine wp_region_lit ?_
  go_wp2_with (refine wpList_valP rfl (hi_lins rfl rfl rfl hcap hkn _) ?_)
  refine (hF _ hAk).mono ?_
  rintro e w4 ⟨A3, c3, B3, d3, rfl, hq, _, _⟩
  replace hA := hA.below hq
  replace hAk := hAk.below hq
  replace hV3 := hV3.below hq
  replace hT3 := hT3.below hq
  replace q0 := btr q0 hq
  have hok2 := code_ok (okS_upto HOK hkn)
  have hno2 := fun N D (e : R = .yes N D) => run_never (allB_upto (hyes N D e) hkn)
  generalize runE k L = S at *
  generalize S.code = sc at *
  generalize S.m = sm at *
  generalize FarE.k k S = sk at *
  clear hq hF hk HOK dc dc2 hRE
  have s3 : (sc != 3) = true := by simpa using hok2
  clear hok2
  cases R with
  | yes N D =>
      have hall := allB_upto (hyes N D rfl) hkn
      have s1 : (sc != 1) = true := by simpa using hno2 N D rfl
      have hFA := fun W h => farall_any A k c L A1 4 c1 N D W (by omega) h (fun j hj => hN j (by omega)) (by omega)
      clear hyes hno hno2 hT3
      simp only [FarE.m, FarE.k, FarE.N, FarE.D, FarE.U, FarE.code] at hV3 hFA ⊢
      go_upto_region 11 with fail
      refine wp_region_lit ?_
      go_wp2_with (refine wpList_valP rfl (hi_lins rfl rfl rfl hcap hkn _) ?_)
      refine (hFA _ hAk hV3).mono ?_
      rintro e w5 ⟨rfl, hq⟩
      rw [hall]
      go_wp2
      go_ret
      exact ⟨rfl, btr q0 hq⟩
  | no U =>
      have hfo := hno U rfl
      clear hyes hno hno2 hV3
      simp only [FarE.m, FarE.k, FarE.N, FarE.D, FarE.U, FarE.code] at hT3 ⊢
      by_cases h20 : n < 20
      · have d20 : decide ((n : Int) < 20) = true := decide_eq_true (by omega)
        have hfm := far_more hfo h20
        have al1 := bal (Below.refl w4.heap.size w4) (.cells #[.int .i64 0, .int .i64 0, .int .i64 0, .int .i64 0] 3)
        obtain ⟨x0, x1, x2⟩ := new3 (w4.alloc (.cells #[.int .i64 0, .int .i64 0, .int .i64 0, .int .i64 0] 3)) (.slice (some ⟨w4.heap.size, 0, none⟩) 4 4) (.int .i64 1) (.bool false) 28
        have al2 := bal al1 (.cells #[.slice (some ⟨w4.heap.size, 0, none⟩) 4 4, .int .i64 1, .bool false] 28)
        have hZ : Ints ((w4.alloc (.cells #[.int .i64 0, .int .i64 0, .int .i64 0, .int .i64 0] 3)).alloc (.cells #[.slice (some ⟨w4.heap.size, 0, none⟩) 4 4, .int .i64 1, .bool false] 28)) (some ⟨w4.heap.size, 0, none⟩) 4 (fun _ => 0) := zeros_ints w4 _
        rw [World.size_alloc] at x0 x1 x2
        replace hA := hA.below al2
        replace hT3 := hT3.below al2
        replace q0 := btr q0 al2
        have hNs : ∀ k, k < n + 1 → (snocL n L 4 (fun _ => 0) 1 false).N k ≤ 1048576 := fun k hk => by
          unfold snocL
          by_cases e : k = n
          · simp only [if_pos e]; omega
          · simp only [if_neg e]; exact hN k (by omega)
        clear hfo al1 al2 hAk
        go_upto_region 14 with fail
        obtain ⟨wr, hwr⟩ : ∃ wr, wr = ((w4.alloc (.cells #[.int .i64 0, .int .i64 0, .int .i64 0, .int .i64 0] 3)).alloc (.cells #[.slice (some ⟨w4.heap.size, 0, none⟩) 4 4, .int .i64 1, .bool false] 28)) := ⟨_, rfl⟩
        rw [← hwr] at x0 x1 x2 hA hT3 q0 hZ ⊢
        obtain ⟨A4, hA4⟩ : ∃ A4 : Option Addr, A4 = some ⟨w4.heap.size, 0, none⟩ := ⟨_, rfl⟩
        rw [← hA4] at x0 hZ
        clear hwr hA4
        have hDr := (Below.refl wr.heap.size wr).drew
        obtain ⟨u, hu⟩ : ∃ u, u = wr.drew := ⟨_, rfl⟩
        rw [← hu] at hDr
        have x0u := carry hDr x0; have x1u := carry hDr x1; have x2u := carry hDr x2
        have hAu := hA.below hDr; have hZu := hZ.below hDr; have hTu := hT3.below hDr
        refine region_stabL (fun W => Below u.heap.size u W) (PoQ u A n c L B1 d1 U A4) [[], [], [0, 1], [], [3], [2, 4], [], [], [5, 6, 7], [], [8, 9], [5, 10], [11]] [[], [], [0, 1], [], [3], [0, 1, 2, 3, 4], [], [], [0, 1, 2, 3, 4, 5, 6, 7], [], [0, 1, 2, 3, 4, 5, 6, 7, 8, 9], [0, 1, 2, 3, 4, 5, 6, 7, 8, 9, 10], [0, 1, 2, 3, 4, 5, 6, 7, 8, 9, 10, 11]] [[], [], [0], [], [], [0, 2, 4], [], [], [0, 2, 4, 6], [], [0, 2, 4, 6, 8, 9], [], []] 13 rfl (by kernel_rfl) (by decide) (by rw [← hu]; exact Below.refl _ _) (fun i hi => ?_) ?_
        · match i, hi with
          | 0, _ =>
            refine ⟨_, rfl, fun V W hC hP => ?_⟩
            have hal := bal (Below.refl W.heap.size W) (.cells #[] 28)
            simp only [List.getD_cons_zero, List.getD_cons_succ, puts, dstOf, List.getElem?_toArray, List.getElem?_cons_zero, List.getElem?_cons_succ, Option.bind_some]
            exact stl_val (v := .slice (some ⟨W.heap.size, 0, none⟩) 0 0) (w' := W.alloc (.cells #[] 28)) (by simp [execOp, go_sem]) ⟨btr hC hal, ⟨W.heap.size, rfl, hC.size, Deep.blk_alloc_new _ _⟩, fun j x _ _ _ _ hp => PoQ_mono j x _ _ hal hp⟩
          | 1, _ =>
            refine ⟨_, rfl, fun V W hC hP => ?_⟩
            simp only [List.getD_cons_zero, List.getD_cons_succ, puts, dstOf, List.getElem?_toArray, List.getElem?_cons_zero, List.getElem?_cons_succ, Option.bind_some]
            exact stl_val (v := .slice A n c) (by simp [execOp, go_sem]) ⟨hC, rfl, fun j x _ _ _ _ hp => hp⟩
          | 2, _ =>
            refine ⟨_, rfl, fun V W hC hP => ?_⟩
            have h0 : EmB u 28 (V 0) W := hP 0 (by decide)
            have h1 : V 1 = .slice A n c := hP 1 (by decide)
            obtain ⟨b, e0, hb, hh⟩ := h0
            simp only [List.getD_cons_zero, List.getD_cons_succ, puts, dstOf, List.getElem?_toArray, List.getElem?_cons_zero, List.getElem?_cons_succ, Option.bind_some, h1, e0]
            obtain ⟨v5, w5, hr, hg, hown⟩ := appL_own u.heap.size b A c n L 23 u W (by omega) hAu hN hC hh hb
            exact stl_append rfl rfl rfl hr ⟨hC.grown hg hC.size (fun r hr => by cases hr; exact hb), hown, fun j x hj hne hT hK hp => by
                match j, hj with
                | 0, _ => exact absurd (by decide) hK
                | 1, _ => exact hp
                | 2, _ => exact absurd rfl hne
                | 3, _ => exact hp
                | 4, _ => exact OneB.grow hp hg hh
                | 5, _ => exact absurd (by decide) hT
                | 6, _ => exact EmB.typ hp hg (blk_TypR hh) (by decide)
                | 7, _ => exact hp
                | 8, _ => exact absurd (by decide) hT
                | 9, _ => exact OneB.typ hp hg (blk_TypR hh) (by decide)
                | 10, _ => exact absurd (by decide) hT
                | 11, _ => exact absurd (by decide) hT
                | 12, _ => exact absurd (by decide) hT
                | j + 13, h => exact absurd h (by omega)⟩
          | 3, _ =>
            refine ⟨_, rfl, fun V W hC hP => ?_⟩
            simp only [List.getD_cons_zero, List.getD_cons_succ, puts, dstOf, List.getElem?_toArray, List.getElem?_cons_zero, List.getElem?_cons_succ, Option.bind_some]
            exact stl_val (v := .agg #[.slice A4 4 4, .int .i64 1, .bool false]) (run_load3 rfl rfl Try.underlying28 rfl (by kernel_rfl) (carry hC x0u) (carry hC x1u) (carry hC x2u)) ⟨hC, rfl, fun j x _ _ _ _ hp => hp⟩
          | 4, _ =>
            refine ⟨_, rfl, fun V W hC hP => ?_⟩
            have h3 : V 3 = .agg #[.slice A4 4 4, .int .i64 1, .bool false] := hP 3 (by decide)
            have hal := bal (Below.refl W.heap.size W) (.cells #[.slice A4 4 4, .int .i64 1, .bool false] 28)
            simp only [List.getD_cons_zero, List.getD_cons_succ, puts, dstOf, List.getElem?_toArray, List.getElem?_cons_zero, List.getElem?_cons_succ, Option.bind_some, h3]
            exact stl_val (v := .slice (some ⟨W.heap.size, 0, none⟩) 1 1) (w' := W.alloc (.cells #[.slice A4 4 4, .int .i64 1, .bool false] 28)) (by simp [execOp, go_sem]) ⟨btr hC hal, ⟨W.heap.size, rfl, hC.size, Deep.blk_alloc_new _ _⟩, fun j x _ _ _ _ hp => PoQ_mono j x _ _ hal hp⟩
          | 5, _ =>
            refine ⟨_, rfl, fun V W hC hP => ?_⟩
            have h2 : RoL u n L (V 2) W := hP 2 (by decide)
            have h4 : OneB u #[.slice A4 4 4, .int .i64 1, .bool false] 28 (V 4) W := hP 4 (by decide)
            simp only [List.getD_cons_zero, List.getD_cons_succ, puts, dstOf, List.getElem?_toArray, List.getElem?_cons_zero, List.getElem?_cons_succ, Option.bind_some]
            obtain ⟨v6, w6, hr, hg, hlo, hown⟩ := appL_one n L 23 u W (V 2) (V 4) A4 4 4 (fun _ => 0) 1 false (by omega) hC h2 h4.onl (by omega) hZu
            have hty := h2.typR
            exact stl_append rfl rfl rfl hr ⟨hC.grown hg hC.size hlo, hown, fun j x hj hne hT hK hp => by
                match j, hj with
                | 0, _ => exact absurd (by decide) hK
                | 1, _ => exact hp
                | 2, _ => exact absurd (by decide) hK
                | 3, _ => exact hp
                | 4, _ => exact absurd (by decide) hK
                | 5, _ => exact absurd rfl hne
                | 6, _ => exact EmB.typ hp hg hty (by decide)
                | 7, _ => exact hp
                | 8, _ => exact absurd (by decide) hT
                | 9, _ => exact OneB.typ hp hg hty (by decide)
                | 10, _ => exact absurd (by decide) hT
                | 11, _ => exact absurd (by decide) hT
                | 12, _ => exact absurd (by decide) hT
                | j + 13, h => exact absurd h (by omega)⟩
          | 6, _ =>
            refine ⟨_, rfl, fun V W hC hP => ?_⟩
            have hal := bal (Below.refl W.heap.size W) (.cells #[] 3)
            simp only [List.getD_cons_zero, List.getD_cons_succ, puts, dstOf, List.getElem?_toArray, List.getElem?_cons_zero, List.getElem?_cons_succ, Option.bind_some]
            exact stl_val (v := .slice (some ⟨W.heap.size, 0, none⟩) 0 0) (w' := W.alloc (.cells #[] 3)) (by simp [execOp, go_sem]) ⟨btr hC hal, ⟨W.heap.size, rfl, hC.size, Deep.blk_alloc_new _ _⟩, fun j x _ _ _ _ hp => PoQ_mono j x _ _ hal hp⟩
          | 7, _ =>
            refine ⟨_, rfl, fun V W hC hP => ?_⟩
            simp only [List.getD_cons_zero, List.getD_cons_succ, puts, dstOf, List.getElem?_toArray, List.getElem?_cons_zero, List.getElem?_cons_succ, Option.bind_some]
            exact stl_val (v := .slice B1 n d1) (by simp [execOp, go_sem]) ⟨hC, rfl, fun j x _ _ _ _ hp => hp⟩
          | 8, _ =>
            refine ⟨_, rfl, fun V W hC hP => ?_⟩
            have h5 : RoL u (n + 1) (snocL n L 4 (fun _ => 0) 1 false) (V 5) W := hP 5 (by decide)
            have h6 : EmB u 3 (V 6) W := hP 6 (by decide)
            have h7 : V 7 = .slice B1 n d1 := hP 7 (by decide)
            obtain ⟨b, e0, hb, hh⟩ := h6
            simp only [List.getD_cons_zero, List.getD_cons_succ, puts, dstOf, List.getElem?_toArray, List.getElem?_cons_zero, List.getElem?_cons_succ, Option.bind_some, h7, e0]
            obtain ⟨v5, w5, hr, hg, hown⟩ := appT_own b B1 d1 n U 24 u W (by omega) hTu hC hh hb
            exact stl_append rfl rfl rfl hr ⟨hC.grown hg hC.size (fun r hr => by cases hr; exact hb), hown, fun j x hj hne hT hK hp => by
                match j, hj with
                | 0, _ => exact absurd (by decide) hK
                | 1, _ => exact hp
                | 2, _ => exact absurd (by decide) hK
                | 3, _ => exact hp
                | 4, _ => exact absurd (by decide) hK
                | 5, _ => exact RoL.typ hp hg (blk_TypR hh) (by decide)
                | 6, _ => exact absurd (by decide) hK
                | 7, _ => exact hp
                | 8, _ => exact absurd rfl hne
                | 9, _ => exact OneB.grow hp hg hh
                | 10, _ => exact absurd (by decide) hT
                | 11, _ => exact absurd (by decide) hT
                | 12, _ => exact absurd (by decide) hT
                | j + 13, h => exact absurd h (by omega)⟩
          | 9, _ =>
            refine ⟨_, rfl, fun V W hC hP => ?_⟩
            have hal := bal (Below.refl W.heap.size W) (.cells #[.int .i64 0] 3)
            simp only [List.getD_cons_zero, List.getD_cons_succ, puts, dstOf, List.getElem?_toArray, List.getElem?_cons_zero, List.getElem?_cons_succ, Option.bind_some]
            exact stl_val (v := .slice (some ⟨W.heap.size, 0, none⟩) 1 1) (w' := W.alloc (.cells #[.int .i64 0] 3)) (by simp [execOp, go_sem]) ⟨btr hC hal, ⟨W.heap.size, rfl, hC.size, Deep.blk_alloc_new _ _⟩, fun j x _ _ _ _ hp => PoQ_mono j x _ _ hal hp⟩
          | 10, _ =>
            refine ⟨_, rfl, fun V W hC hP => ?_⟩
            have h8 : RoT u n U (V 8) W := hP 8 (by decide)
            have h9 : OneB u #[.int .i64 0] 3 (V 9) W := hP 9 (by decide)
            simp only [List.getD_cons_zero, List.getD_cons_succ, puts, dstOf, List.getElem?_toArray, List.getElem?_cons_zero, List.getElem?_cons_succ, Option.bind_some]
            obtain ⟨v6, w6, hr, hg, hlo, hown⟩ := appT_one n U 24 u W (V 8) (V 9) 0 (by omega) hC h8 h9
            have hty := own_TypR h8.2
            exact stl_append rfl rfl rfl hr ⟨hC.grown hg hC.size hlo, hown, fun j x hj hne hT hK hp => by
                match j, hj with
                | 0, _ => exact absurd (by decide) hK
                | 1, _ => exact hp
                | 2, _ => exact absurd (by decide) hK
                | 3, _ => exact hp
                | 4, _ => exact absurd (by decide) hK
                | 5, _ => exact RoL.typ hp hg hty (by decide)
                | 6, _ => exact absurd (by decide) hK
                | 7, _ => exact hp
                | 8, _ => exact absurd (by decide) hK
                | 9, _ => exact absurd (by decide) hK
                | 10, _ => exact absurd rfl hne
                | 11, _ => exact absurd (by decide) hT
                | 12, _ => exact absurd (by decide) hT
                | j + 13, h => exact absurd h (by omega)⟩
          | 11, _ =>
            refine ⟨_, rfl, fun V W hC hP => ?_⟩
            have h5 : RoL u (n + 1) (snocL n L 4 (fun _ => 0) 1 false) (V 5) W := hP 5 (by decide)
            have h10 : RoT u (n + 1) (fun k => if k = n then 0 else U k) (V 10) W := hP 10 (by decide)
            obtain ⟨a5, c5, e5, hL5⟩ := h5.lins hC
            obtain ⟨a9, c9, e9, hI9⟩ := h10.ints
            simp only [List.getD_cons_zero, List.getD_cons_succ, puts, dstOf, List.getElem?_toArray, List.getElem?_cons_zero, List.getElem?_cons_succ, Option.bind_some, e5, e9]
            refine stl_call (by kernel_rfl) ((farok_any a5 (n + 1) c5 (snocL n L 4 (fun _ => 0) 1 false) a9 (n + 1) c9 (fun k => if k = n then 0 else U k) W (by omega) hL5 (by omega) hI9 hNs).mono ?_)
            rintro e w7 ⟨rfl, hal⟩
            exact ⟨_, rfl, btr hC hal, by rw [hfm]; rfl, fun j x _ _ _ _ hp => PoQ_mono j x _ _ hal hp⟩
          | 12, _ =>
            refine ⟨_, rfl, fun V W hC hP => ?_⟩
            have h11 : V 11 = .bool true := hP 11 (by decide)
            simp only [List.getD_cons_zero, List.getD_cons_succ, puts, dstOf, List.getElem?_toArray, List.getElem?_cons_zero, List.getElem?_cons_succ, Option.bind_some, h11]
            exact stl_val (v := .bool true) (by simp [execOp, go_sem]) ⟨hC, rfl, fun j x _ _ _ _ hp => hp⟩
          | i + 13, h => exact absurd h (by omega)
        intro V W hC hP
        have e12 : V 12 = .bool true := hP 12 (by decide) (by decide)
        clear hP
        rw [show List.range 13 = [0, 1, 2, 3, 4, 5, 6, 7, 8, 9, 10, 11, 12] from rfl]
        simp only [List.getD_cons_zero, List.getD_cons_succ, puts, dstOf, List.getElem?_toArray, List.getElem?_cons_zero, List.getElem?_cons_succ, Option.bind_some, e12, List.drop_succ_cons, List.drop_zero, Act.put, List.setIfInBounds_toArray, List.set_cons_succ, List.set_cons_zero]
        have q1 := btr q0 (btr hDr hC)
        go_wp2
        go_ret
        exact ⟨rfl, q1⟩
      · have d20 : decide ((n : Int) < 20) = false := decide_eq_false (by omega)
        clear hfo
        go_wp2
        go_ret
        exact ⟨rfl, q0⟩
  | much =>
      clear hyes hno hno2 hV3 hT3
      simp only [FarE.m, FarE.k, FarE.N, FarE.D, FarE.U, FarE.code] at ⊢
      go_wp2
      go_ret
      exact ⟨rfl, q0⟩
  | form =>
      simp [FarE.code] at d3
end Go.Proofs.Ytplocljoanaoeaa
