/- Contracts of the program's Row.agrees and of ModelOk. -/
import Derived.Test.YtmeglflbjedndaaMoH
import Derived.Test.YtmeglflbjedndaaFindD
namespace Go.Proofs.Ytmeglflbjedndaa
set_option linter.unusedVariables false
set_option linter.unusedSimpArgs false
open Go.RowKit
/-- a value may be of a sort -/
def fitB (s d : Int) : Bool := decide (s = 1 ∨ d = 1)
theorem fitB_iff {s d : Int} : fitB s d = true ↔ s = 1 ∨ d = 1 := by unfold fitB; exact decide_eq_true_iff
theorem ofsort_at {u v s : Int} {r : Bool} (h : fitB s v = r) (w : World) :
    Calls Try.prog 157 #[.agg #[.int .i64 u, .int .i64 v], .int .i64 s] w fun e w' => e = .returned (.bool r) ∧ Below w.heap.size w w' := by
  subst h
  by_cases h : s = 1
  · have hs : fitB s v = true := fitB_iff.2 (.inl h)
    rw [hs]
    have d : (s == 1) = true := by simpa using h
    clear hs h
    go_enter Try.func157, Try.ntmps157
    go_wp2
    go_ret
    exact ⟨rfl, bal (Below.refl _ _) _⟩
  · have hs : fitB s v = (v == 1) := by unfold fitB; by_cases h1 : v = 1 <;> simp [h, h1]
    rw [hs]
    have d : (s == 1) = false := by simpa using h
    clear hs h
    go_enter Try.func157, Try.ntmps157
    go_wp2
    go_ret
    exact ⟨rfl, bal (Below.refl _ _) _⟩
/-- a row agrees with a vocabulary -/
def Agr (n : Nat) (L : Sy) (nm : ByteArray) (r : Nat) (Q : Nat → Int) (v : Int) : Prop :=
  fnd L.Nm nm n < n ∧ L.N (fnd L.Nm nm n) = r ∧ (∀ j, j < r → fitB (L.Z (fnd L.Nm nm n) j) (Q j) = true) ∧ fitB (L.S (fnd L.Nm nm n)) v = true
set_option maxRecDepth 100000 in
set_option maxHeartbeats 8000000 in
theorem agrees_any (bb : Bool) (n : Nat) (L : Sy) (nm : ByteArray) (m : Nat) (P Q : Nat → Int) (u v : Int) (hbb : bb = true ↔ Agr n L nm m Q v) (hn : n ≤ 1048576) (hs : ascB n L.Nm = true) (A : Option Addr) (c : Nat) (B : Option Addr) (d : Nat) (w : World) (hA : Syms w A n L) (hB : Rats w B m P Q) :
    Calls Try.prog 88 #[.agg #[.string nm, .slice B m d, .int .i64 u, .int .i64 v], .agg #[.slice A n c]] w fun e w' => e = .returned (.bool bb) ∧ Below w.heap.size w w' := by
  have HB := hid hbb; clear hbb
  have q0 := bal (bal (Below.refl w.heap.size w) (.cells #[.string nm, .slice B m d, .int .i64 u, .int .i64 v] 122)) (.cells #[.slice A n c] 39)
  have bn : ((w.alloc (.cells #[.string nm, .slice B m d, .int .i64 u, .int .i64 v] 122)).alloc (.cells #[.slice A n c] 39)).cell? ⟨w.heap.size, 0, none⟩ = some (.string nm) := by simp [go_sem]
  have b1 : ((w.alloc (.cells #[.string nm, .slice B m d, .int .i64 u, .int .i64 v] 122)).alloc (.cells #[.slice A n c] 39)).cell? ⟨w.heap.size, 1, none⟩ = some (.slice B m d) := by simp [go_sem]
  have b2 : ((w.alloc (.cells #[.string nm, .slice B m d, .int .i64 u, .int .i64 v] 122)).alloc (.cells #[.slice A n c] 39)).cell? ⟨w.heap.size, 2, none⟩ = some (.int .i64 u) := by simp [go_sem]
  have b3 : ((w.alloc (.cells #[.string nm, .slice B m d, .int .i64 u, .int .i64 v] 122)).alloc (.cells #[.slice A n c] 39)).cell? ⟨w.heap.size, 3, none⟩ = some (.int .i64 v) := by simp [go_sem]
  have b0 : ((w.alloc (.cells #[.string nm, .slice B m d, .int .i64 u, .int .i64 v] 122)).alloc (.cells #[.slice A n c] 39)).cell? ⟨w.heap.size + 1, 0, none⟩ = some (.slice A n c) := by simp [go_sem]
  have hF0 := fun W (hb : Below w.heap.size w W) => find_any A n c L nm w W hn hA hb hs
  go_enter Try.func88, Try.ntmps88
  go_upto_region 1 with fail
  generalize (w.alloc (.cells #[.string nm, .slice B m d, .int .i64 u, .int .i64 v] 122)).alloc (.cells #[.slice A n c] 39) = W at *
  have lb1 : w.heap.size < W.heap.size := cell_lt b1
  have lb0 : w.heap.size + 1 < W.heap.size := cell_lt b0
  have hF := fun W' (hb : Below W.heap.size W W') => hF0 W' (btr q0 hb)
  clear hF0
  have gc := @gro_cell W
  go_cut [5, 6] (fun sp sb wx => ∃ (p : Nat) (nm1 : ByteArray) (a : Option Addr) (N ca : Nat) (S : Int) (ok : Bool), sp = .pointer (some ⟨p, 0, none⟩) ∧ sb = .bool ok ∧ Below W.heap.size W wx ∧ KcL [(p, 0, .string nm1), (p, 1, .slice a N ca), (p, 2, .int .i64 S)] wx ∧ N ≤ 9223372036854775807 ∧ (ok = true → fnd L.Nm nm n < n ∧ N = L.N (fnd L.Nm nm n) ∧ S = L.S (fnd L.Nm nm n) ∧ Ints w a N (L.Z (fnd L.Nm nm n))) ∧ (ok = false → fnd L.Nm nm n = n))
  case first =>
    refine region_plan (.takes [0, 2, 3] (.fork 1 8 (.fork 4 8 (.takes [5, 6, 7] (.make 8 (.make 9 .fin))) (.make 4 (.takes [5, 6, 7] (.make 9 .fin)))) (.make 1 (.make 4 (.takes [5, 6, 7] (.make 9 .fin)))))) 10 rfl (by kernel_rfl) ?_
    refine plan_takes ?_; simp only [pickOps, List.getElem?_cons_zero, List.getElem?_cons_succ]; (repeat (go_big_quiet_step (fail))); refine wpQuiet_nil ?_
    clear gc
    have hB := (Below.refl W.heap.size W).drew
    refine plan_fork ?_ ?_
    · skip
      refine plan_call rfl rfl 136 #[.agg #[.slice A n c]] (by kernel_rfl) ?_
      refine (byname_any A n c _).mono ?_
      rintro e u1 ⟨rfl, hq⟩
      refine ⟨_, rfl, btr hB hq, ?_⟩
      replace hB := btr hB hq; clear hq
      refine plan_fork ?_ ?_
      · skip
        refine plan_call rfl rfl 156 #[.agg #[.slice A n c, .func (.func 186) #[] #[]], .string nm] (by kernel_rfl) ?_
        refine (hF _ hB).mono ?_
        rintro e u2 hP
        obtain ⟨nm1, a, N, ca, S, ok, rfl, hq, hN, hY, hZ⟩ := hP.uni; clear hP
        refine ⟨_, rfl, btr hB hq, ?_⟩
        replace hB := btr hB hq; clear hq
        refine plan_takes ?_; simp only [pickOps, List.getElem?_cons_zero, List.getElem?_cons_succ]
        refine quiet_do rfl (.tuple #[.agg #[.string nm1, .slice a N ca, .int .i64 S], .bool ok]) (fun _ => by kernel_rfl) ?_
        refine quiet_do rfl (.agg #[.string nm1, .slice a N ca, .int .i64 S]) (fun _ => by kernel_rfl) ?_
        refine quiet_do rfl (.bool ok) (fun _ => by kernel_rfl) ?_
        refine wpQuiet_nil ?_
        have al := bal (Below.refl u2.heap.size u2) (.cells #[.string ⟨#[]⟩, .slice none 0 0, .int .i64 0] 105)
        refine plan_val rfl rfl (.pointer (some ⟨u2.heap.size, 0, none⟩)) (w'' := u2.alloc (.cells #[.string ⟨#[]⟩, .slice none 0 0, .int .i64 0] 105)) (by kernel_rfl) (btr hB al) ?_
        have Zt := there_new u2 (.string ⟨#[]⟩) (.slice none 0 0) (.int .i64 0) 105
        have Zb : u2.heap.size < (u2.alloc (.cells #[.string ⟨#[]⟩, .slice none 0 0, .int .i64 0] 105)).heap.size := by simp
        have Zl := hB.size
        replace hB := btr hB al
        refine plan_store rfl rfl _ _ _ rfl _ (.string nm1) (.slice a N ca) (.int .i64 S) (by kernel_rfl) (by kernel_rfl) Zt (by kernel_rfl) (by simp [Value.oneCell']) hB (by first | exact Zl | omega) ?_
        intro wx hg hBx hK
        refine plan_fin ?_
        simp only [List.drop_succ_cons, List.drop_zero]
        go_wp2_with fail
        go_meet
        exact ⟨_, nm1, a, N, ca, S, ok, rfl, rfl, hBx, hK, hN, hY, hZ⟩
      · skip
        have al := bal (Below.refl u1.heap.size u1) (.cells #[.string ⟨#[]⟩, .slice none 0 0, .int .i64 0] 105)
        refine plan_val rfl rfl (.pointer (some ⟨u1.heap.size, 0, none⟩)) (w'' := u1.alloc (.cells #[.string ⟨#[]⟩, .slice none 0 0, .int .i64 0] 105)) (by kernel_rfl) (btr hB al) ?_
        have Zt := there_new u1 (.string ⟨#[]⟩) (.slice none 0 0) (.int .i64 0) 105
        have Zb : u1.heap.size < (u1.alloc (.cells #[.string ⟨#[]⟩, .slice none 0 0, .int .i64 0] 105)).heap.size := by simp
        have Zl := hB.size
        replace hB := btr hB al
        refine plan_call rfl rfl 156 #[.agg #[.slice A n c, .func (.func 186) #[] #[]], .string nm] (by kernel_rfl) ?_
        refine (hF _ hB).mono ?_
        rintro e u2 hP
        obtain ⟨nm1, a, N, ca, S, ok, rfl, hq, hN, hY, hZ⟩ := hP.uni; clear hP
        refine ⟨_, rfl, btr hB hq, ?_⟩
        replace Zt := there_below hq Zb Zt; replace Zb := Nat.lt_of_lt_of_le Zb hq.size
        replace hB := btr hB hq; clear hq
        refine plan_takes ?_; simp only [pickOps, List.getElem?_cons_zero, List.getElem?_cons_succ]
        refine quiet_do rfl (.tuple #[.agg #[.string nm1, .slice a N ca, .int .i64 S], .bool ok]) (fun _ => by kernel_rfl) ?_
        refine quiet_do rfl (.agg #[.string nm1, .slice a N ca, .int .i64 S]) (fun _ => by kernel_rfl) ?_
        refine quiet_do rfl (.bool ok) (fun _ => by kernel_rfl) ?_
        refine wpQuiet_nil ?_
        refine plan_store rfl rfl _ _ _ rfl _ (.string nm1) (.slice a N ca) (.int .i64 S) (by kernel_rfl) (by kernel_rfl) Zt (by kernel_rfl) (by simp [Value.oneCell']) hB (by first | exact Zl | omega) ?_
        intro wx hg hBx hK
        refine plan_fin ?_
        simp only [List.drop_succ_cons, List.drop_zero]
        go_wp2_with fail
        go_meet
        exact ⟨_, nm1, a, N, ca, S, ok, rfl, rfl, hBx, hK, hN, hY, hZ⟩
    · skip
      have al := bal (Below.refl (W.drew).heap.size (W.drew)) (.cells #[.string ⟨#[]⟩, .slice none 0 0, .int .i64 0] 105)
      refine plan_val rfl rfl (.pointer (some ⟨(W.drew).heap.size, 0, none⟩)) (w'' := (W.drew).alloc (.cells #[.string ⟨#[]⟩, .slice none 0 0, .int .i64 0] 105)) (by kernel_rfl) (btr hB al) ?_
      have Zt := there_new (W.drew) (.string ⟨#[]⟩) (.slice none 0 0) (.int .i64 0) 105
      have Zb : (W.drew).heap.size < ((W.drew).alloc (.cells #[.string ⟨#[]⟩, .slice none 0 0, .int .i64 0] 105)).heap.size := by simp
      have Zl := hB.size
      replace hB := btr hB al
      refine plan_call rfl rfl 136 #[.agg #[.slice A n c]] (by kernel_rfl) ?_
      refine (byname_any A n c _).mono ?_
      rintro e u1 ⟨rfl, hq⟩
      refine ⟨_, rfl, btr hB hq, ?_⟩
      replace Zt := there_below hq Zb Zt; replace Zb := Nat.lt_of_lt_of_le Zb hq.size
      replace hB := btr hB hq; clear hq
      refine plan_call rfl rfl 156 #[.agg #[.slice A n c, .func (.func 186) #[] #[]], .string nm] (by kernel_rfl) ?_
      refine (hF _ hB).mono ?_
      rintro e u2 hP
      obtain ⟨nm1, a, N, ca, S, ok, rfl, hq, hN, hY, hZ⟩ := hP.uni; clear hP
      refine ⟨_, rfl, btr hB hq, ?_⟩
      replace Zt := there_below hq Zb Zt; replace Zb := Nat.lt_of_lt_of_le Zb hq.size
      replace hB := btr hB hq; clear hq
      refine plan_takes ?_; simp only [pickOps, List.getElem?_cons_zero, List.getElem?_cons_succ]
      refine quiet_do rfl (.tuple #[.agg #[.string nm1, .slice a N ca, .int .i64 S], .bool ok]) (fun _ => by kernel_rfl) ?_
      refine quiet_do rfl (.agg #[.string nm1, .slice a N ca, .int .i64 S]) (fun _ => by kernel_rfl) ?_
      refine quiet_do rfl (.bool ok) (fun _ => by kernel_rfl) ?_
      refine wpQuiet_nil ?_
      refine plan_store rfl rfl _ _ _ rfl _ (.string nm1) (.slice a N ca) (.int .i64 S) (by kernel_rfl) (by kernel_rfl) Zt (by kernel_rfl) (by simp [Value.oneCell']) hB (by first | exact Zl | omega) ?_
      intro wx hg hBx hK
      refine plan_fin ?_
      simp only [List.drop_succ_cons, List.drop_zero]
      go_wp2_with fail
      go_meet
      exact ⟨_, nm1, a, N, ca, S, ok, rfl, rfl, hBx, hK, hN, hY, hZ⟩
  obtain ⟨w1, hwc⟩ : ∃ x, x = wc := ⟨_, rfl⟩
  subst hwc
  obtain ⟨p, nm1, a, N, ca, S, ok, rfl, rfl, hq, ⟨n0, n1, n2, _⟩, hN, hY, hZ⟩ := hcut
  clear gc hF
  replace b0 := carry hq b0
  replace b1 := carry hq b1
  replace b2 := carry hq b2
  replace b3 := carry hq b3
  have hq1 := btr q0 hq
  clear hq q0 bn
  cases ok
  · have HF := hid (b_no HB.out (fun h => by have := hZ rfl; have h1 := h.1; omega))
    clear hY hZ hA hB
    go_wp2
    go_ret
    exact ⟨ret_bool HF.out.symm, hq1⟩
  · obtain ⟨h1, h2, h3, hJ⟩ := hY rfl
    clear hY hZ
    generalize hk : fnd L.Nm nm n = k at *
    have HBk : Hid (bb = true ↔ k < n ∧ L.N k = m ∧ (∀ j, j < m → fitB (L.Z k j) (Q j) = true) ∧ fitB (L.S k) v = true) := hid (by rw [← hk]; exact HB.out)
    have H1 := hid h1; have H2 := hid h2; have H3 := hid h3; have HK := hid hk
    clear h1 h2 h3 hk HB
    by_cases hNm : N = m
    · have hmN : m = N := hNm.symm
      clear hNm
      subst hmN
      have d1 : ((m : Int) != (m : Int)) = false := by simp
      have hB2 := hB.below hq1
      have hJ2 := hJ.below hq1
      clear hA hB hJ n0
      go_wp2_with fail
      clear d1
      go_loopw [31] (fun i wr => ∃ j : Nat, j ≤ m ∧ i = .int .i64 j ∧ Below w1.heap.size w1 wr ∧ ∀ i, i < j → fitB (L.Z k i) (Q i) = true) (fun i _ => m - (intOf i).toNat)
      case atStart => exact ⟨0, Nat.zero_le _, rfl, Below.refl _ _, fun j hj => by omega⟩
      case round =>
        obtain ⟨j, hj, rfl, hb, he⟩ := hrel
        have HE := hid he; clear he
        have g1 := carry hb b1
        have g2 := carry hb b2
        have g3 := carry hb b3
        have x1 := carry hb n1
        have x2 := carry hb n2
        clear b1 n1 n2 b2 b3
        have lg1 : w.heap.size < wr.heap.size := cell_lt g1
        have lx1 : p < wr.heap.size := cell_lt x1
        by_cases hlt : j < m
        · rcases hB2 with h0 | ⟨g, off, rfl, hg, hcB⟩
          · omega
          rcases hJ2 with h0 | ⟨gz, oz, rfl, hgz, hcZ⟩
          · omega
          have z0 := carry hb (hcZ j hlt)
          have gg : g < wr.heap.size := Nat.lt_of_lt_of_le hg hb.size
          have ggz : gz < wr.heap.size := Nat.lt_of_lt_of_le hgz hb.size
          have a0 := carry hb (hcB j hlt).1
          have a1 := carry hb (hcB j hlt).2
          clear hcB hcZ
          have al := bal (Below.refl wr.heap.size wr) (.cells #[.int .i64 (P j), .int .i64 (Q j)] 48)
          have y0 : (wr.alloc (.cells #[.int .i64 (P j), .int .i64 (Q j)] 48)).cell? ⟨wr.heap.size, 0, none⟩ = some (.int .i64 (P j)) := by simp [go_sem]
          have y1 : (wr.alloc (.cells #[.int .i64 (P j), .int .i64 (Q j)] 48)).cell? ⟨wr.heap.size, 1, none⟩ = some (.int .i64 (Q j)) := by simp [go_sem]
          have yx := carryA (.cells #[.int .i64 (P j), .int .i64 (Q j)] 48) x1
          have yz := carryA (.cells #[.int .i64 (P j), .int .i64 (Q j)] 48) z0
          have hb2 := btr hb al
          go_upto_region 7 with fail
          clear a0 a1 g1 g2 g3 x1 x2 z0
          generalize wr.alloc (.cells #[.int .i64 (P j), .int .i64 (Q j)] 48) = W1 at *
          have l0 := cell_lt y0
          have l1 := cell_lt yx
          have l2 := cell_lt yz
          have gc := @gro_cell W1
          cases hv : fitB (L.Z k j) (Q j)
          · have hC := fun (X : Gro W1) => ofsort_at (u := P j) hv (gro W1 X)
            have HF := hid (b_no HBk.out (fun h => by have := h.2.2.1 j hlt; rw [hv] at this; cases this))
            clear hv
            refine wp_region_grow_lit (by kernel_rfl) (by kernel_rfl) ?_
            repeat (go_big_quiet_step ((go_at_call 157; exact grow_call _ (hC _))))
            refine wpQuiet_nil ?_
            rintro _ ⟨X, rfl⟩
            clear gc
            go_wp2
            go_ret
            exact ⟨ret_bool HF.out.symm, btr hq1 (btr hb2 X.h)⟩
          · have hC := fun (X : Gro W1) => ofsort_at (u := P j) hv (gro W1 X)
            have HV := hid hv
            clear hv
            refine wp_region_grow_lit (by kernel_rfl) (by kernel_rfl) ?_
            repeat (go_big_quiet_step ((go_at_call 157; exact grow_call _ (hC _))))
            refine wpQuiet_nil ?_
            rintro _ ⟨X, rfl⟩
            clear gc
            go_wp2
            go_roundw
            case rel =>
              refine ⟨j + 1, by omega, by go_num, btr hb2 X.h, fun i hi => ?_⟩
              by_cases e : i = j
              · subst e; exact HV.out
              · exact HE.out i (by omega)
            case measure => simp [intOf]; omega
        · have hje : j = m := by omega
          subst hje
          clear hB2 hJ2
          cases hv : fitB S v
          · have hC := fun W => ofsort_at (u := u) hv W
            have HF := hid (b_no HBk.out (fun h => by have := h.2.2.2; rw [← H3.out, hv] at this; cases this))
            clear hv
            go_wp2_with fail
            refine (hC _).mono ?_
            rintro e w2 ⟨rfl, hq2⟩
            go_wp2
            go_ret
            exact ⟨ret_bool HF.out.symm, btr hq1 (btr hb hq2)⟩
          · have hC := fun W => ofsort_at (u := u) hv W
            have HF := hid (b_yes HBk.out ⟨H1.out, H2.out.symm, HE.out, by rw [← H3.out]; exact hv⟩)
            clear hv
            go_wp2_with fail
            refine (hC _).mono ?_
            rintro e w2 ⟨rfl, hq2⟩
            go_wp2
            go_ret
            exact ⟨ret_bool HF.out.symm, btr hq1 (btr hb hq2)⟩
    · have HF := hid (b_no HBk.out (fun h => hNm (H2.out.trans h.2.1)))
      have d1 : ((N : Int) != (m : Int)) = true := by simp; omega
      clear hA hB hJ
      go_wp2
      go_ret
      exact ⟨ret_bool HF.out.symm, hq1⟩
/-- a model is one of a vocabulary -/
def ModP (n : Nat) (L : Sy) (m : Nat) (M : Mo) : Prop := sigB n L = true ∧ WellM m M ∧ ∀ k, k < m → Agr n L (M.Nm k) (M.N k) (M.Q k) (M.V k)
set_option maxRecDepth 100000 in
set_option maxHeartbeats 8000000 in
theorem modelok_any (b : Bool) (A : Option Addr) (n c : Nat) (L : Sy) (B : Option Addr) (m d : Nat) (M : Mo) (hb : b = true ↔ ModP n L m M) (w : World) (hn : n ≤ 1048576) (hm : m ≤ 1048576) (hA : Syms w A n L) (hB : MRows w B m M) (hL : SmY n L) (hM : SmM m M) :
    Calls Try.prog 23 #[.agg #[.slice A n c], .agg #[.slice B m d]] w fun e w' => e = .returned (.bool b) ∧ Below w.heap.size w w' := by
  have HB := hid hb; have HL := hid hL; have HM := hid hM; clear hb hL hM
  have H : KcL [(w.heap.size, 0, .slice A n c), (w.heap.size + 1, 0, .slice B m d)] ((w.alloc (.cells #[.slice A n c] 39)).alloc (.cells #[.slice B m d] 29)) := by
    refine ⟨?_, ?_, trivial⟩ <;> simp [go_sem]
  have q0 := bal (bal (Below.refl w.heap.size w) (.cells #[.slice A n c] 39)) (.cells #[.slice B m d] 29)
  have hA2 := hA.below q0
  have hB2 := hB.below q0
  have hS := hid (fun W (h : Below w.heap.size w W) => sigok_any A n c L W (by omega) (hA.below h))
  obtain ⟨wb, hwb⟩ := bool_of (WellM m M)
  have hW := hid (fun W (h : Below w.heap.size w W) => wellm_any wb B m d M hwb W hm (hB.below h) HM.out)
  have HWB := hid hwb
  clear hA hB hwb
  cases hs : sigB n L
  · have HF := hid (b_no HB.out (fun h => by have h1 := h.1; rw [hs] at h1; cases h1))
    rw [hs] at hS
    clear hs hA2 hB2 H
    go_enter Try.func23, Try.ntmps23
    go_wp2_with fail
    refine (hS.out _ q0).mono ?_
    rintro e w1 ⟨rfl, hq⟩
    go_wp2
    go_ret
    exact ⟨ret_bool HF.out.symm, btr q0 hq⟩
  rw [hs] at hS
  have HSg := hid hs; clear hs
  go_enter Try.func23, Try.ntmps23
  go_wp2_with fail
  refine (hS.out _ q0).mono ?_
  rintro e w1 ⟨rfl, hq⟩
  replace H := H.below hq
  replace hA2 := hA2.below hq
  replace hB2 := hB2.below hq
  replace q0 := btr q0 hq
  clear hq hS
  have HH_ := H; obtain ⟨c0, c1, _⟩ := HH_
  have l0 := cell_lt c0
  have l1 := cell_lt c1
  cases wb
  · have HF := hid (b_no HB.out (fun h => by have := HWB.out.2 h.2.1; cases this))
    go_wp2_with fail
    refine (hW.out _ q0).mono ?_
    rintro e w2 ⟨rfl, hq⟩
    clear c0 c1 l0 l1
    go_wp2
    go_ret
    exact ⟨ret_bool HF.out.symm, btr q0 hq⟩
  go_wp2_with fail
  refine (hW.out _ q0).mono ?_
  rintro e w2 ⟨rfl, hq⟩
  clear c0 c1 l0 l1
  replace H := H.below hq
  replace hA2 := hA2.below hq
  replace hB2 := hB2.below hq
  replace q0 := btr q0 hq
  clear hq hW
  have HH_ := H; obtain ⟨c0, c1, _⟩ := HH_
  have l0 := cell_lt c0
  have l1 := cell_lt c1
  go_wp2
  clear c0 c1 l0 l1
  go_loopw [18] (fun i wr => ∃ k : Nat, k ≤ m ∧ i = .int .i64 k ∧ Below w2.heap.size w2 wr ∧ ∀ j, j < k → Agr n L (M.Nm j) (M.N j) (M.Q j) (M.V j)) (fun i _ => m - (intOf i).toNat)
  case atStart => exact ⟨0, Nat.zero_le _, rfl, Below.refl _ _, fun j hj => absurd hj (Nat.not_lt_zero _)⟩
  case round =>
    obtain ⟨k, hk, rfl, hb, he⟩ := hrel
    have HE := hid he; clear he
    have H2 := H.below hb
    have HH_ := H2; obtain ⟨c0, c1, _⟩ := HH_
    have l0 := cell_lt c0
    have l1 := cell_lt c1
    by_cases hlt : k < m
    · rcases hB2 with h0 | ⟨g, off, rfl, hg, hcA⟩
      · omega
      obtain ⟨a, ca, a0, a1, a2, a3, hMk, hNk, hI⟩ := hcA k hlt
      have gg : g < wr.heap.size := Nat.lt_of_lt_of_le hg hb.size
      replace a0 := carry hb a0
      replace a1 := carry hb a1
      replace a2 := carry hb a2
      replace a3 := carry hb a3
      have al := bal (Below.refl wr.heap.size wr) (.cells #[.string (M.Nm k), .slice a (M.N k) ca, .int .i64 (M.U k), .int .i64 (M.V k)] 122)
      have hb2 := btr hb al
      obtain ⟨bb, hbb⟩ := bool_of (Agr n L (M.Nm k) (M.N k) (M.Q k) (M.V k))
      have hC := fun W (h : Below w2.heap.size w2 W) => agrees_any bb n L (M.Nm k) (M.N k) (M.P k) (M.Q k) (M.U k) (M.V k) hbb hn (sigB_iff.1 HSg.out).2.2 A c a ca W (hA2.below h) (hI.below h)
      have HBB := hid hbb
      clear hcA hI hbb
      cases bb
      · have HF := hid (b_no HB.out (fun h => by have := HBB.out.2 (h.2.2 k hlt); cases this))
        go_wp2_with (go_at_call 88; refine (hC _ hb2).mono ?_; rintro e w3 ⟨rfl, hq⟩)
        go_ret
        exact ⟨ret_bool HF.out.symm, btr q0 (btr hb2 hq)⟩
      · go_wp2_with (go_at_call 88; refine (hC _ hb2).mono ?_; rintro e w3 ⟨rfl, hq⟩)
        go_roundw
        case rel =>
          refine ⟨k + 1, by omega, by go_num, btr hb2 hq, fun j hj => ?_⟩
          by_cases e : j = k
          · rw [e]; exact HBB.out.1 (by trivial)
          · exact HE.out j (by omega)
        case measure => simp [intOf]; omega
    · have hke : k = m := by omega
      subst hke
      have HF := hid (b_yes HB.out ⟨HSg.out, HWB.out.1 (by trivial), HE.out⟩)
      go_wp2
      go_ret
      exact ⟨ret_bool HF.out.symm, btr q0 hb⟩
end Go.Proofs.Ytmeglflbjedndaa
