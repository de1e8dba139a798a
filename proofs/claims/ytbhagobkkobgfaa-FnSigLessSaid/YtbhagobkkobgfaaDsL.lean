/- The law FnSigLess: the walk. -/
import Derived.Test.YtbhagobkkobgfaaDsK
import Derived.Test.YtbhagobkkobgfaaBS
import Derived.Test.YtbhagobkkobgfaaStabL
namespace Go.Proofs.Ytbhagobkkobgfaa
set_option linter.unusedVariables false
set_option linter.unusedSimpArgs false
open Go.RowKit
def SigO (w : World) (e : Ending) (w' : World) : Prop :=
  ∃ A n c L, e = .returned (.agg #[.slice A n c]) ∧ SyB w.heap.size w' A n L ∧ SmB 3 n L ∧ n ≤ 74 ∧ n ≤ c ∧ c ≤ 9223372036854775807 ∧ Below w.heap.size w w'
set_option maxRecDepth 100000 in
set_option maxHeartbeats 8000000 in
theorem drawsigok_any (w : World) (a : Option Addr) (len cap : Nat) (hby : Bytes w.heap.size w a len) (hlc : len ≤ cap) (hc : cap ≤ 9223372036854775807) :
    Calls Try.prog 4 #[.slice a len cap] w (SigO w) := by
  have hO := open_any w.heap.size (w.alloc (.cells #[.slice none 0 0] 25)) a len cap (by simp) (hby.alloc _) hlc hc
  have r0 := row_one w (.slice none 0 0) 25
  have q0 := bal (Below.refl w.heap.size w) (.cells #[.slice none 0 0] 25)
  go_enter Try.func4, Try.ntmps4
  go_wp2_with fail
  refine hO.mono ?_
  rintro e w1 ⟨g, rfl, hb, hR, hg⟩
  clear hO
  have hgs : w.heap.size + 1 ≤ g := by simpa using hg
  replace r0 := row_below r0 hb
  replace q0 := btr q0 hb
  have glt := hR.lt
  clear hb hg
  go_wp2_with fail
  refine (lsig_any w.heap.size w1 g 0 hR (by omega) (by omega)).mono ?_
  rintro e w2 ⟨A, n, c, L, q, rfl, hS, hM, hn, hc1, hc2, hg2, hR2, hq⟩
  have hz2 := hg2.size
  replace r0 := row_grow r0 hg2 (by omega)
  replace q0 := q0.grown hg2 q0.size (fun r hr => by cases hr; omega)
  clear hg2 hR
  go_wp2_with fail
  refine (lbent_any w.heap.size w1.heap.size 2 w2 g q A n c L hR2 (by omega) (by omega) hS (by omega) hM (by omega) (by omega)).mono ?_
  rintro e w5 ⟨A5, n5, c5, L5, q5, rfl, hS5, hM5, hn5, hc5, hd5, hg5, hR5, hq5⟩
  replace r0 := row_grow r0 hg5 (by omega)
  replace q0 := q0.grown hg5 q0.size (fun r hr => by cases hr; omega)
  have x0 := r0.cell (i := 0) (show 0 < 1 by decide)
  have f0 := r0.frozen 0
  have z0 := (r0.set 0 (.slice A5 n5 c5)).cell (i := 0) (show 0 < 1 by decide)
  simp only [if_true] at z0
  have l5 := r0.lt
  have HS := hid ((hS5.setL (p := w.heap.size) (o := 0) (by omega) (.slice A5 n5 c5)).mono (lo' := w.heap.size) (by omega))
  have Q := hid (bst q0 (p := ⟨w.heap.size, 0, none⟩) (Nat.le_refl _) (.slice A5 n5 c5))
  clear r0 hS hS5 q0 hR5 hR2 hg5 hM
  go_wp2
  refine bodyPost_ret (v := .agg #[.slice A5 n5 c5]) (by simp [results, Try.results4, go_sem, z0]) rfl ?_
  exact ⟨A5, n5, c5, L5, rfl, HS.out, hM5, by omega, hc5, hd5, Q.out⟩
/-- an empty row, made here -/
def EmY (u : World) (v : Value) (W : World) : Prop := ∃ b, v = .slice (some ⟨b, 0, none⟩) 0 0 ∧ u.heap.size ≤ b ∧ W.heap[b]? = some (Obj.cells #[] 31 (0, 0))
/-- a row of symbols, made here -/
def RoY (u : World) (m : Nat) (M : Sy) (v : Value) (W : World) : Prop := ∃ a c xs, v = .slice a m c ∧ W.ownsRow u.heap.size 31 3 v m xs ∧ RdY u xs m M
/-- a box, made here -/
def BoY (u : World) (v : Value) (W : World) : Prop := ∃ p, v = .pointer (some ⟨p, 0, none⟩) ∧ u.heap.size ≤ p ∧ W.rowIs p 25 1 (fun _ => .slice none 0 0)
theorem EmY.below {u W W' : World} {v : Value} (h : EmY u v W) (hb : Below W.heap.size W W') : EmY u v W' := by
  obtain ⟨b, e, h1, h2⟩ := h
  exact ⟨b, e, h1, (hb.block b (Array.getElem?_eq_some_iff.1 h2).1).trans h2⟩
theorem RoY.below {u W W' : World} {m : Nat} {M : Sy} {v : Value} (h : RoY u m M v W) (hb : Below W.heap.size W W') : RoY u m M v W' := by
  obtain ⟨a, c, xs, e, h1, h2⟩ := h
  exact ⟨a, c, xs, e, own_kpD (fun g hg => hb.block g (h1.lt g hg).2) h1, h2⟩
theorem BoY.below {u W W' : World} {v : Value} (h : BoY u v W) (hb : Below W.heap.size W W') : BoY u v W' := by
  obtain ⟨p, e, h1, h2⟩ := h
  exact ⟨p, e, h1, row_below h2 hb⟩
theorem BoY.grow {u W W' : World} {v : Value} {row : Option Nat} (h : BoY u v W) (hg : W.grownBy W' row) (hr : ∀ p cs fr, W.heap[p]? = some (Obj.cells cs 25 fr) → row ≠ some p) : BoY u v W' := by
  obtain ⟨p, e, h1, h2⟩ := h
  obtain ⟨cs, hcs, _⟩ := id h2
  exact ⟨p, e, h1, h2.of_block (hg.block p h2.lt (fun e => hr p cs _ hcs e.symm))⟩
theorem SyB.upto {lo n i : Nat} {w : World} {A : Option Addr} {L : Sy} (h : SyB lo w A n L) (hi : i ≤ n) : SyB lo w A i L := by
  rcases h with h | ⟨g, off, ha, h1, h2, hc⟩
  · exact .inl (by omega)
  · exact .inr ⟨g, off, ha, h1, h2, fun k hk => hc k (by omega)⟩
def PoA (lo : Nat) (u : World) (ps gs off n c k : Nat) (L : Sy) : Nat → Value → World → Prop
  | 0, v, W => EmY u v W
  | 1, v, W => v = .pointer (some ⟨ps, 0, none⟩)
  | 2, v, W => v = .slice (some ⟨gs, off, none⟩) n c
  | 3, v, W => v = .int .i64 k
  | 4, v, W => v = .slice (some ⟨gs, off, none⟩) k c
  | 5, v, W => RoY u k L v W
  | 6, v, W => v = .pointer (some ⟨ps, 0, none⟩)
  | 7, v, W => v = .slice (some ⟨gs, off, none⟩) n c
  | 8, v, W => v = .int .i64 k
  | 9, v, W => v = .int .i64 ((k : Int) + 1)
  | 10, v, W => ∃ o2 c2, v = .slice (some ⟨gs, o2, none⟩) (n - (k + 1)) c2 ∧ CelY lo u gs o2 (n - (k + 1)) (syFrom (k + 1) L)
  | 11, v, W => RoY u (k + (n - (k + 1))) (syCat k L (syFrom (k + 1) L)) v W
  | 12, v, W => ∃ x, v = .agg #[x] ∧ RoY u (k + (n - (k + 1))) (syCat k L (syFrom (k + 1) L)) x W
  | 13, v, W => BoY u v W
  | _, _, _ => True
theorem PoA_mono {lo : Nat} {u : World} {ps gs off n c k : Nat} {L : Sy} : ∀ (j : Nat) (v : Value) (W W' : World), Below W.heap.size W W' → PoA lo u ps gs off n c k L j v W → PoA lo u ps gs off n c k L j v W'
  | 0, v, W, W', hb, h => EmY.below h hb
  | 1, v, W, W', hb, h => h
  | 2, v, W, W', hb, h => h
  | 3, v, W, W', hb, h => h
  | 4, v, W, W', hb, h => h
  | 5, v, W, W', hb, h => RoY.below h hb
  | 6, v, W, W', hb, h => h
  | 7, v, W, W', hb, h => h
  | 8, v, W, W', hb, h => h
  | 9, v, W, W', hb, h => h
  | 10, v, W, W', hb, h => h
  | 11, v, W, W', hb, h => RoY.below h hb
  | 12, v, W, W', hb, h => by obtain ⟨x, e, h⟩ := h; exact ⟨x, e, h.below hb⟩
  | 13, v, W, W', hb, h => BoY.below h hb
  | j + 14, v, W, W', hb, h => trivial
def PoB (lo : Nat) (u : World) (ps gs off n c k : Nat) (L : Sy) : Nat → Value → World → Prop
  | 0, v, W => EmY u v W
  | 1, v, W => v = .pointer (some ⟨ps, 0, none⟩)
  | 2, v, W => v = .slice (some ⟨gs, off, none⟩) n c
  | 3, v, W => v = .int .i64 k
  | 4, v, W => v = .int .i64 ((k : Int) + 1)
  | 5, v, W => v = .slice (some ⟨gs, off, none⟩) (k + 1) c
  | 6, v, W => RoY u (k + 1) L v W
  | 7, v, W => v = .pointer (some ⟨ps, 0, none⟩)
  | 8, v, W => v = .slice (some ⟨gs, off, none⟩) n c
  | 9, v, W => v = .int .i64 k
  | 10, v, W => ∃ o2 c2, v = .slice (some ⟨gs, o2, none⟩) (n - k) c2 ∧ CelY lo u gs o2 (n - k) (syFrom k L)
  | 11, v, W => RoY u (k + 1 + (n - k)) (syCat (k + 1) L (syFrom k L)) v W
  | 12, v, W => ∃ x, v = .agg #[x] ∧ RoY u (k + 1 + (n - k)) (syCat (k + 1) L (syFrom k L)) x W
  | 13, v, W => BoY u v W
  | _, _, _ => True
theorem PoB_mono {lo : Nat} {u : World} {ps gs off n c k : Nat} {L : Sy} : ∀ (j : Nat) (v : Value) (W W' : World), Below W.heap.size W W' → PoB lo u ps gs off n c k L j v W → PoB lo u ps gs off n c k L j v W'
  | 0, v, W, W', hb, h => EmY.below h hb
  | 1, v, W, W', hb, h => h
  | 2, v, W, W', hb, h => h
  | 3, v, W, W', hb, h => h
  | 4, v, W, W', hb, h => h
  | 5, v, W, W', hb, h => h
  | 6, v, W, W', hb, h => RoY.below h hb
  | 7, v, W, W', hb, h => h
  | 8, v, W, W', hb, h => h
  | 9, v, W, W', hb, h => h
  | 10, v, W, W', hb, h => h
  | 11, v, W, W', hb, h => RoY.below h hb
  | 12, v, W, W', hb, h => by obtain ⟨x, e, h⟩ := h; exact ⟨x, e, h.below hb⟩
  | 13, v, W, W', hb, h => BoY.below h hb
  | j + 14, v, W, W', hb, h => trivial
theorem own_row_ne {W : World} {base n : Nat} {v : Value} {xs : List Value} (h : W.ownsRow base 31 3 v n xs) : ∀ p cs fr, W.heap[p]? = some (Obj.cells cs 25 fr) → v.ownBlock ≠ some p := fun p cs fr hp => own_typ h hp (by decide)
theorem hi_slice {o : Oper} {x y : Operand} (ho : o.op = .slice 23 x none (some y) none) {a : Act} {g p n c k : Nat} (hx : a.eval x = .slice (some ⟨g, p, none⟩) n c) (hy : a.eval y = .int .i64 k) (hk : k ≤ c) (w : World) :
    (execOp a.eval o).run Try.prog w = .ok (.value (.slice (some ⟨g, p, none⟩) k c)) w := by
  unfold execOp
  rw [ho]
  simp only [Option.map_some, Option.map_none, hx, hy]
  simp [go_sem, Addr.add]
  try omega
theorem lo_slice {o : Oper} {x y : Operand} (ho : o.op = .slice 23 x (some y) none none) {a : Act} {g p n c k : Nat} (hx : a.eval x = .slice (some ⟨g, p, none⟩) n c) (hy : a.eval y = .int .i64 k) (hk : k ≤ n) (hn : n ≤ c) (w : World) :
    ∃ o2 c2, (execOp a.eval o).run Try.prog w = .ok (.value (.slice (some ⟨g, o2, none⟩) (n - k) c2)) w ∧ (o2 = p + k * 3 ∨ n - k = 0) := by
  by_cases e : c = k
  · refine ⟨p, c - k, ?_, .inr (by omega)⟩
    unfold execOp
    rw [ho]
    simp only [Option.map_some, Option.map_none, hx, hy]
    simp [go_sem, Addr.add, e]
    try omega
  · refine ⟨p + k * 3, c - k, ?_, .inl rfl⟩
    unfold execOp
    rw [ho]
    simp only [Option.map_some, Option.map_none, hx, hy]
    simp [go_sem, Addr.add, e, hk]
    try (intro h0; omega)
theorem CelY.of {lo gs off n : Nat} {w : World} {L : Sy} (h : SyB lo w (some ⟨gs, off, none⟩) n L) : CelY lo w gs off n L := by
  rcases h with h | ⟨g, off', ha, h1, h2, hc⟩
  · exact fun k hk => absurd hk (by omega)
  · injection ha with ha
    injection ha with e1 e2 _
    subst e1 e2
    exact hc
theorem wrap_k {k : Nat} (h : k ≤ 1000) : IntKind.i64.wrap ((k : Int) + 1) = (k : Int) + 1 := by
  simp [IntKind.wrap, IntKind.bits, IntKind.signed]; omega
theorem lo_stl {o : Oper} {x y : Operand} {a : Act} {gs p n c k : Nat} {w : World} {R : Value → World → Prop} (ho : o.op = .slice 23 x (some y) none none) (hx : a.eval x = .slice (some ⟨gs, p, none⟩) n c) (hy : a.eval y = .int .i64 k) (hk : k ≤ n) (hn : n ≤ c)
    (h : ∀ o2 c2, (o2 = p + k * 3 ∨ n - k = 0) → R (.slice (some ⟨gs, o2, none⟩) (n - k) c2) w) : StL Try.prog o a w R := by
  obtain ⟨o2, c2, hr, ho2⟩ := lo_slice ho hx hy hk hn w
  exact stl_val hr (h o2 c2 ho2)
set_option maxRecDepth 100000 in
set_option maxHeartbeats 16000000 in
theorem walk_SigLess (a0 : Option Addr) (len0 cap0 : Nat) (w : World) (hby : Bytes w.heap.size w a0 len0) (hlc : len0 ≤ cap0) (hc0 : cap0 ≤ 9223372036854775807) :
    Calls Try.prog 3 #[.slice a0 len0 cap0] w fun e w' => e = .returned (.bool true) ∧ Below w.heap.size w w' := by
  by_cases hbig : 1048576 < len0
  · go_enter Try.func3, Try.ntmps3
    go_wp2
    go_ret
    exact ⟨rfl, Below.refl _ _⟩
  go_enter Try.func3, Try.ntmps3
  go_wp2_with fail
  refine (drawsigok_any w a0 len0 cap0 hby hlc hc0).mono ?_
  rintro e w1 ⟨A, n, c, L, rfl, hS, hM, hn, hc1, hc2, hq⟩
  have al := bal (Below.refl w1.heap.size w1) (.cells #[.slice A n c] 25)
  have x0 : (w1.alloc (.cells #[.slice A n c] 25)).cell? ⟨w1.heap.size, 0, none⟩ = some (.slice A n c) := by simp [go_sem]
  have q0 := btr hq al
  replace hS := hS.below al
  clear hq al hbig hby
  go_upto_region 4 with fail
  generalize hps : w1.heap.size = ps at *
  generalize w1.alloc (.cells #[.slice A n c] 25) = w2 at *
  have YL := hM.smy (by omega)
  have I1 := hS.syms hM (by omega)
  go_wp2_with fail
  refine (sigok_any A n c L w2 (by omega) I1).mono ?_
  rintro e w3 ⟨rfl, hq⟩
  replace x0 := carry hq x0
  replace q0 := btr q0 hq
  replace hS := hS.below hq
  replace I1 := I1.below hq
  clear hq
  have HV := hid (rfl : sigB n L = sigB n L)
  rcases hv : sigB n L with _ | _
  · have hO := ssigok_any A n c L w3 (by omega) I1 YL
    rw [hv] at hO
    go_wp2_with fail
    refine hO.mono ?_
    rintro e w4 ⟨rfl, hq⟩
    replace x0 := carry hq x0
    replace q0 := btr q0 hq
    have hO := ssigok_any A n c L w4 (by omega) (I1.below hq) YL
    rw [hv] at hO
    clear hq
    go_wp2_with fail
    refine hO.mono ?_
    rintro e w5 ⟨rfl, hq⟩
    go_wp2
    go_ret
    exact ⟨rfl, btr q0 hq⟩
  · have hO := ssigok_any A n c L w3 (by omega) I1 YL
    rw [hv] at hO
    go_wp2_with fail
    refine hO.mono ?_
    rintro e w4 ⟨rfl, hq⟩
    replace x0 := carry hq x0
    replace q0 := btr q0 hq
    replace hS := hS.below hq
    clear hq I1 hO HV
    have HX0 := hid x0
    clear x0
    go_wp2
    go_loopw [5] (fun i wr => ∃ k : Nat, k ≤ n ∧ i = .int .i64 k ∧ Below w4.heap.size w4 wr) (fun i _ => n - (intOf i).toNat)
    case atStart => exact ⟨0, Nat.zero_le _, rfl, Below.refl _ _⟩
    case round =>
      obtain ⟨k, hk, rfl, hb⟩ := hrel
      have x0 := carry hb HX0.out
      have lps := cell_lt x0
      have hSr := hS.below hb
      by_cases hlt : k < n
      · obtain ⟨gs, off, rfl⟩ : ∃ gs off, A = some ⟨gs, off, none⟩ := by
          rcases hSr with h | ⟨g, off, ha, _⟩
          · omega
          · exact ⟨g, off, ha⟩
        go_upto_region 10 with fail
        have hDr := (Below.refl wr.heap.size wr).drew
        obtain ⟨u, hu⟩ : ∃ u, u = wr.drew := ⟨_, rfl⟩
        rw [← hu] at hDr
        have hSu := hSr.below hDr
        have x0u := carry hDr x0
        have hCu := CelY.of hSu
        refine region_stabL (fun W => Below u.heap.size u W) (PoA w.heap.size u ps gs off n c k L) [[], [], [1], [], [2, 3], [0, 4], [], [6], [], [8], [7, 9], [5, 10], [11], []] [[], [], [1], [], [1, 2, 3], [0, 1, 2, 3, 4], [], [6], [], [8], [6, 7, 8, 9], [0, 1, 2, 3, 4, 5, 6, 7, 8, 9, 10], [0, 1, 2, 3, 4, 5, 6, 7, 8, 9, 10, 11], []] [[], [], [], [], [], [0], [], [], [], [], [], [5, 0], [], []] 14 rfl (by kernel_rfl) (by decide) (by rw [← hu]; exact Below.refl _ _) (fun i hi => ?_) ?_
        · match i, hi with
          | 0, _ =>
            refine ⟨_, rfl, fun V W hC hP => ?_⟩
            have hal := bal (Below.refl W.heap.size W) (.cells #[] 31)
            simp only [List.getD_cons_zero, List.getD_cons_succ, puts, dstOf, List.getElem?_toArray, List.getElem?_cons_zero, List.getElem?_cons_succ, Option.bind_some]
            exact stl_val (v := .slice (some ⟨W.heap.size, 0, none⟩) 0 0) (w' := W.alloc (.cells #[] 31)) (by simp [execOp, go_sem]) ⟨btr hC hal, ⟨W.heap.size, rfl, hC.size, heap_newD W #[] 31⟩, fun j x _ _ _ _ hp => PoA_mono j x _ _ hal hp⟩
          | 1, _ =>
            refine ⟨_, rfl, fun V W hC hP => ?_⟩
            simp only [List.getD_cons_zero, List.getD_cons_succ, puts, dstOf, List.getElem?_toArray, List.getElem?_cons_zero, List.getElem?_cons_succ, Option.bind_some]
            exact stl_val (v := .pointer (some ⟨ps, 0, none⟩)) (by simp [execOp, go_sem]) ⟨hC, rfl, fun j x _ _ _ _ hp => hp⟩
          | 2, _ =>
            refine ⟨_, rfl, fun V W hC hP => ?_⟩
            have h1 := hP 1 (by decide)
            replace h1 : V 1 = _ := h1
            simp only [List.getD_cons_zero, List.getD_cons_succ, puts, dstOf, List.getElem?_toArray, List.getElem?_cons_zero, List.getElem?_cons_succ, Option.bind_some, h1]
            have y0 := carry hC x0u
            exact stl_val (v := .slice (some ⟨gs, off, none⟩) n c) (by simp [execOp, go_sem, y0]) ⟨hC, rfl, fun j x _ _ _ _ hp => hp⟩
          | 3, _ =>
            refine ⟨_, rfl, fun V W hC hP => ?_⟩
            simp only [List.getD_cons_zero, List.getD_cons_succ, puts, dstOf, List.getElem?_toArray, List.getElem?_cons_zero, List.getElem?_cons_succ, Option.bind_some]
            exact stl_val (v := .int .i64 k) (by simp [execOp, go_sem]) ⟨hC, rfl, fun j x _ _ _ _ hp => hp⟩
          | 4, _ =>
            refine ⟨_, rfl, fun V W hC hP => ?_⟩
            have h2 := hP 2 (by decide)
            have h3 := hP 3 (by decide)
            replace h2 : V 2 = _ := h2
            replace h3 : V 3 = _ := h3
            simp only [List.getD_cons_zero, List.getD_cons_succ, puts, dstOf, List.getElem?_toArray, List.getElem?_cons_zero, List.getElem?_cons_succ, Option.bind_some, h2, h3]
            exact stl_val (v := .slice (some ⟨gs, off, none⟩) k c) (hi_slice (k := k) rfl rfl rfl (by omega) W) ⟨hC, rfl, fun j x _ _ _ _ hp => hp⟩
          | 5, _ =>
            refine ⟨_, rfl, fun V W hC hP => ?_⟩
            have h0 := hP 0 (by decide)
            have h4 := hP 4 (by decide)
            replace h4 : V 4 = _ := h4
            obtain ⟨b, e0, hb, hh⟩ := h0
            simp only [List.getD_cons_zero, List.getD_cons_succ, puts, dstOf, List.getElem?_toArray, List.getElem?_cons_zero, List.getElem?_cons_succ, Option.bind_some, h4, e0]
            obtain ⟨a5, c5, w5, xs, hr, hg, hown, hx⟩ := appY_own w.heap.size u.heap.size b (some ⟨gs, off, none⟩) c k L 23 u W (by omega) (hSu.upto (by omega)) hC hh hb hC.size
            have hrow : ∀ p cs fr, W.heap[p]? = some (Obj.cells cs 25 fr) → some b ≠ some p := fun p cs fr hp e => by
              cases e; rw [hh] at hp; injection hp with hp; injection hp with _ h _; exact absurd h (by decide)
            exact stl_append rfl rfl rfl hr ⟨hC.grown hg hC.size (fun r hr => by cases hr; exact hb), ⟨a5, c5, xs, rfl, hown, hx⟩, fun j x hj hne hT hK hp => by
                match j, hj with
                | 0, _ => exact absurd (by decide) hK
                | 1, _ => exact hp
                | 2, _ => exact hp
                | 3, _ => exact hp
                | 4, _ => exact hp
                | 5, _ => exact absurd rfl hne
                | 6, _ => exact hp
                | 7, _ => exact hp
                | 8, _ => exact hp
                | 9, _ => exact hp
                | 10, _ => exact hp
                | 11, _ => exact absurd (by decide) hT
                | 12, _ => exact absurd (by decide) hT
                | 13, _ => exact BoY.grow hp hg hrow
                | j + 14, h => exact absurd h (by omega)⟩
          | 6, _ =>
            refine ⟨_, rfl, fun V W hC hP => ?_⟩
            simp only [List.getD_cons_zero, List.getD_cons_succ, puts, dstOf, List.getElem?_toArray, List.getElem?_cons_zero, List.getElem?_cons_succ, Option.bind_some]
            exact stl_val (v := .pointer (some ⟨ps, 0, none⟩)) (by simp [execOp, go_sem]) ⟨hC, rfl, fun j x _ _ _ _ hp => hp⟩
          | 7, _ =>
            refine ⟨_, rfl, fun V W hC hP => ?_⟩
            have h6 := hP 6 (by decide)
            replace h6 : V 6 = _ := h6
            simp only [List.getD_cons_zero, List.getD_cons_succ, puts, dstOf, List.getElem?_toArray, List.getElem?_cons_zero, List.getElem?_cons_succ, Option.bind_some, h6]
            have y0 := carry hC x0u
            exact stl_val (v := .slice (some ⟨gs, off, none⟩) n c) (by simp [execOp, go_sem, y0]) ⟨hC, rfl, fun j x _ _ _ _ hp => hp⟩
          | 8, _ =>
            refine ⟨_, rfl, fun V W hC hP => ?_⟩
            simp only [List.getD_cons_zero, List.getD_cons_succ, puts, dstOf, List.getElem?_toArray, List.getElem?_cons_zero, List.getElem?_cons_succ, Option.bind_some]
            exact stl_val (v := .int .i64 k) (by simp [execOp, go_sem]) ⟨hC, rfl, fun j x _ _ _ _ hp => hp⟩
          | 9, _ =>
            refine ⟨_, rfl, fun V W hC hP => ?_⟩
            have h8 := hP 8 (by decide)
            replace h8 : V 8 = _ := h8
            simp only [List.getD_cons_zero, List.getD_cons_succ, puts, dstOf, List.getElem?_toArray, List.getElem?_cons_zero, List.getElem?_cons_succ, Option.bind_some, h8]
            have hov : IntKind.i64.wrap ((k : Int) + 1) = (k : Int) + 1 := wrap_k (by omega)
            exact stl_val (v := .int .i64 ((k : Int) + 1)) (by simp [execOp, go_sem, hov]) ⟨hC, rfl, fun j x _ _ _ _ hp => hp⟩
          | 10, _ =>
            refine ⟨_, rfl, fun V W hC hP => ?_⟩
            have h7 := hP 7 (by decide)
            have h9 := hP 9 (by decide)
            replace h7 : V 7 = _ := h7
            replace h9 : V 9 = _ := h9
            simp only [List.getD_cons_zero, List.getD_cons_succ, puts, dstOf, List.getElem?_toArray, List.getElem?_cons_zero, List.getElem?_cons_succ, Option.bind_some, h7, h9]
            refine lo_stl (k := (k + 1)) (n := n) (c := c) (gs := gs) (p := off) rfl rfl rfl (by omega) (by omega) (fun o2 c2 ho2 => ⟨hC, ⟨o2, c2, rfl, ?_⟩, fun j x _ _ _ _ hp => hp⟩)
            rcases ho2 with rfl | h0
            · exact hCu.start (by omega)
            · exact fun i hi => absurd hi (by omega)
          | 11, _ =>
            refine ⟨_, rfl, fun V W hC hP => ?_⟩
            have h5 := hP 5 (by decide)
            have h10 := hP 10 (by decide)
            obtain ⟨a5, c5, xs, e5, ho5, hx5⟩ := h5
            obtain ⟨o2, c2, e10, hcel⟩ := h10
            simp only [List.getD_cons_zero, List.getD_cons_succ, puts, dstOf, List.getElem?_toArray, List.getElem?_cons_zero, List.getElem?_cons_succ, Option.bind_some, e5, e10]
            rw [e5] at ho5
            obtain ⟨a6, c6, w6, ys, hr, hg, hown, hx⟩ := appY_at w.heap.size u.heap.size gs o2 c2 (n - (k + 1)) (syFrom (k + 1) L) 23 u W (by omega) hcel hC (by omega) ho5 hx5 hC.size
            have hrow := own_row_ne ho5
            exact stl_append rfl rfl rfl hr ⟨hC.grown hg hC.size (fun r hr => (ho5.lt r hr).1), ⟨a6, c6, ys, rfl, hown, hx⟩, fun j x hj hne hT hK hp => by
                match j, hj with
                | 0, _ => exact absurd (by decide) hK
                | 1, _ => exact hp
                | 2, _ => exact hp
                | 3, _ => exact hp
                | 4, _ => exact hp
                | 5, _ => exact absurd (by decide) hK
                | 6, _ => exact hp
                | 7, _ => exact hp
                | 8, _ => exact hp
                | 9, _ => exact hp
                | 10, _ => exact hp
                | 11, _ => exact absurd rfl hne
                | 12, _ => exact absurd (by decide) hT
                | 13, _ => exact BoY.grow hp hg hrow
                | j + 14, h => exact absurd h (by omega)⟩
          | 12, _ =>
            refine ⟨_, rfl, fun V W hC hP => ?_⟩
            have h11 := hP 11 (by decide)
            obtain ⟨a6, c6, ys, e6, ho6, hx6⟩ := h11
            rw [e6] at ho6
            simp only [List.getD_cons_zero, List.getD_cons_succ, puts, dstOf, List.getElem?_toArray, List.getElem?_cons_zero, List.getElem?_cons_succ, Option.bind_some, e6]
            exact stl_val (v := .agg #[.slice a6 (k + (n - (k + 1))) c6]) (by simp [execOp, go_sem]) ⟨hC, ⟨_, rfl, a6, c6, ys, rfl, ho6, hx6⟩, fun j x _ _ _ _ hp => hp⟩
          | 13, _ =>
            refine ⟨_, rfl, fun V W hC hP => ?_⟩
            have hal := bal (Below.refl W.heap.size W) (.cells #[.slice none 0 0] 25)
            simp only [List.getD_cons_zero, List.getD_cons_succ, puts, dstOf, List.getElem?_toArray, List.getElem?_cons_zero, List.getElem?_cons_succ, Option.bind_some]
            exact stl_val (v := .pointer (some ⟨W.heap.size, 0, none⟩)) (w' := W.alloc (.cells #[.slice none 0 0] 25)) (by simp [execOp, go_sem]) ⟨btr hC hal, ⟨W.heap.size, rfl, hC.size, row_one W (.slice none 0 0) 25⟩, fun j x _ _ _ _ hp => PoA_mono j x _ _ hal hp⟩
          | i + 14, h => exact absurd h (by omega)
        intro V W hC hP
        obtain ⟨x, e12, a6, c6, ys, rfl, ho6, hx6⟩ := hP 12 (by decide) (by decide)
        obtain ⟨p6, e13, hp, hrow⟩ := hP 13 (by decide) (by decide)
        clear hP
        rw [show List.range 14 = [0, 1, 2, 3, 4, 5, 6, 7, 8, 9, 10, 11, 12, 13] from rfl]
        simp only [List.getD_cons_zero, List.getD_cons_succ, puts, dstOf, List.getElem?_toArray, List.getElem?_cons_zero, List.getElem?_cons_succ, Option.bind_some, e12, e13, List.drop_succ_cons, List.drop_zero, Act.put, List.setIfInBounds_toArray, List.set_cons_succ, List.set_cons_zero]
        have IY : SmY (k + (n - (k + 1))) (syCat k L (syFrom (k + 1) L)) := (SmY.cat (fun i hi => YL i (by omega)) (YL.start (by omega)))
        have g6 := hrow.cell (i := 0) (show 0 < 1 by decide)
        have f6 := hrow.frozen 0
        have l6 := hrow.lt
        have y6 := (hrow.set 0 (.slice a6 (k + (n - (k + 1))) c6)).cell (i := 0) (show 0 < 1 by decide)
        simp only [if_true] at y6
        obtain ⟨cs, hcs, _⟩ := id hrow
        have hC2 : Below u.heap.size u (W.setCell ⟨p6, 0, none⟩ (.slice a6 (k + (n - (k + 1))) c6)) := bst hC (p := ⟨p6, 0, none⟩) hp _
        have ho2 := own_kpD (w' := W.setCell ⟨p6, 0, none⟩ (.slice a6 (k + (n - (k + 1))) c6)) (fun g hg => Below.heap_setCell W ⟨p6, 0, none⟩ _ g (fun e => own_row_ne ho6 p6 cs _ hcs (by have e2 : g = p6 := e; rw [← e2]; exact hg))) ho6
        have IX6 := hid (hx6.syms ho2 hC2 IY)
        have hb6 := btr hDr hC2
        replace hSr := hSr.below hb6
        replace x0 := carry hb6 x0
        replace hb := btr hb hb6
        clear hSu x0u hCu ho2 hx6 hrow hcs hC2 IY hDr
        go_upto_region 11 with fail
        generalize W.setCell ⟨p6, 0, none⟩ (.slice a6 (k + (n - (k + 1))) c6) = wr2 at *
        have hDr := (Below.refl wr2.heap.size wr2).drew
        obtain ⟨u, hu⟩ : ∃ u, u = wr2.drew := ⟨_, rfl⟩
        rw [← hu] at hDr
        have hSu := hSr.below hDr
        have x0u := carry hDr x0
        have hCu := CelY.of hSu
        refine region_stabL (fun W => Below u.heap.size u W) (PoB w.heap.size u ps gs off n c k L) [[], [], [1], [], [3], [2, 4], [0, 5], [], [7], [], [8, 9], [6, 10], [11], []] [[], [], [1], [], [3], [1, 2, 3, 4], [0, 1, 2, 3, 4, 5], [], [7], [], [7, 8, 9], [0, 1, 2, 3, 4, 5, 6, 7, 8, 9, 10], [0, 1, 2, 3, 4, 5, 6, 7, 8, 9, 10, 11], []] [[], [], [], [], [], [], [0], [], [], [], [], [6, 0], [], []] 14 rfl (by kernel_rfl) (by decide) (by rw [← hu]; exact Below.refl _ _) (fun i hi => ?_) ?_
        · match i, hi with
          | 0, _ =>
            refine ⟨_, rfl, fun V W hC hP => ?_⟩
            have hal := bal (Below.refl W.heap.size W) (.cells #[] 31)
            simp only [List.getD_cons_zero, List.getD_cons_succ, puts, dstOf, List.getElem?_toArray, List.getElem?_cons_zero, List.getElem?_cons_succ, Option.bind_some]
            exact stl_val (v := .slice (some ⟨W.heap.size, 0, none⟩) 0 0) (w' := W.alloc (.cells #[] 31)) (by simp [execOp, go_sem]) ⟨btr hC hal, ⟨W.heap.size, rfl, hC.size, heap_newD W #[] 31⟩, fun j x _ _ _ _ hp => PoB_mono j x _ _ hal hp⟩
          | 1, _ =>
            refine ⟨_, rfl, fun V W hC hP => ?_⟩
            simp only [List.getD_cons_zero, List.getD_cons_succ, puts, dstOf, List.getElem?_toArray, List.getElem?_cons_zero, List.getElem?_cons_succ, Option.bind_some]
            exact stl_val (v := .pointer (some ⟨ps, 0, none⟩)) (by simp [execOp, go_sem]) ⟨hC, rfl, fun j x _ _ _ _ hp => hp⟩
          | 2, _ =>
            refine ⟨_, rfl, fun V W hC hP => ?_⟩
            have h1 := hP 1 (by decide)
            replace h1 : V 1 = _ := h1
            simp only [List.getD_cons_zero, List.getD_cons_succ, puts, dstOf, List.getElem?_toArray, List.getElem?_cons_zero, List.getElem?_cons_succ, Option.bind_some, h1]
            have y0 := carry hC x0u
            exact stl_val (v := .slice (some ⟨gs, off, none⟩) n c) (by simp [execOp, go_sem, y0]) ⟨hC, rfl, fun j x _ _ _ _ hp => hp⟩
          | 3, _ =>
            refine ⟨_, rfl, fun V W hC hP => ?_⟩
            simp only [List.getD_cons_zero, List.getD_cons_succ, puts, dstOf, List.getElem?_toArray, List.getElem?_cons_zero, List.getElem?_cons_succ, Option.bind_some]
            exact stl_val (v := .int .i64 k) (by simp [execOp, go_sem]) ⟨hC, rfl, fun j x _ _ _ _ hp => hp⟩
          | 4, _ =>
            refine ⟨_, rfl, fun V W hC hP => ?_⟩
            have h3 := hP 3 (by decide)
            replace h3 : V 3 = _ := h3
            simp only [List.getD_cons_zero, List.getD_cons_succ, puts, dstOf, List.getElem?_toArray, List.getElem?_cons_zero, List.getElem?_cons_succ, Option.bind_some, h3]
            have hov : IntKind.i64.wrap ((k : Int) + 1) = (k : Int) + 1 := wrap_k (by omega)
            exact stl_val (v := .int .i64 ((k : Int) + 1)) (by simp [execOp, go_sem, hov]) ⟨hC, rfl, fun j x _ _ _ _ hp => hp⟩
          | 5, _ =>
            refine ⟨_, rfl, fun V W hC hP => ?_⟩
            have h2 := hP 2 (by decide)
            have h4 := hP 4 (by decide)
            replace h2 : V 2 = _ := h2
            replace h4 : V 4 = _ := h4
            simp only [List.getD_cons_zero, List.getD_cons_succ, puts, dstOf, List.getElem?_toArray, List.getElem?_cons_zero, List.getElem?_cons_succ, Option.bind_some, h2, h4]
            exact stl_val (v := .slice (some ⟨gs, off, none⟩) (k + 1) c) (hi_slice (k := (k + 1)) rfl rfl (by simp [go_sem]) (by omega) W) ⟨hC, rfl, fun j x _ _ _ _ hp => hp⟩
          | 6, _ =>
            refine ⟨_, rfl, fun V W hC hP => ?_⟩
            have h0 := hP 0 (by decide)
            have h5 := hP 5 (by decide)
            replace h5 : V 5 = _ := h5
            obtain ⟨b, e0, hb, hh⟩ := h0
            simp only [List.getD_cons_zero, List.getD_cons_succ, puts, dstOf, List.getElem?_toArray, List.getElem?_cons_zero, List.getElem?_cons_succ, Option.bind_some, h5, e0]
            obtain ⟨a5, c5, w5, xs, hr, hg, hown, hx⟩ := appY_own w.heap.size u.heap.size b (some ⟨gs, off, none⟩) c (k + 1) L 23 u W (by omega) (hSu.upto (by omega)) hC hh hb hC.size
            have hrow : ∀ p cs fr, W.heap[p]? = some (Obj.cells cs 25 fr) → some b ≠ some p := fun p cs fr hp e => by
              cases e; rw [hh] at hp; injection hp with hp; injection hp with _ h _; exact absurd h (by decide)
            exact stl_append rfl rfl rfl hr ⟨hC.grown hg hC.size (fun r hr => by cases hr; exact hb), ⟨a5, c5, xs, rfl, hown, hx⟩, fun j x hj hne hT hK hp => by
                match j, hj with
                | 0, _ => exact absurd (by decide) hK
                | 1, _ => exact hp
                | 2, _ => exact hp
                | 3, _ => exact hp
                | 4, _ => exact hp
                | 5, _ => exact hp
                | 6, _ => exact absurd rfl hne
                | 7, _ => exact hp
                | 8, _ => exact hp
                | 9, _ => exact hp
                | 10, _ => exact hp
                | 11, _ => exact absurd (by decide) hT
                | 12, _ => exact absurd (by decide) hT
                | 13, _ => exact BoY.grow hp hg hrow
                | j + 14, h => exact absurd h (by omega)⟩
          | 7, _ =>
            refine ⟨_, rfl, fun V W hC hP => ?_⟩
            simp only [List.getD_cons_zero, List.getD_cons_succ, puts, dstOf, List.getElem?_toArray, List.getElem?_cons_zero, List.getElem?_cons_succ, Option.bind_some]
            exact stl_val (v := .pointer (some ⟨ps, 0, none⟩)) (by simp [execOp, go_sem]) ⟨hC, rfl, fun j x _ _ _ _ hp => hp⟩
          | 8, _ =>
            refine ⟨_, rfl, fun V W hC hP => ?_⟩
            have h7 := hP 7 (by decide)
            replace h7 : V 7 = _ := h7
            simp only [List.getD_cons_zero, List.getD_cons_succ, puts, dstOf, List.getElem?_toArray, List.getElem?_cons_zero, List.getElem?_cons_succ, Option.bind_some, h7]
            have y0 := carry hC x0u
            exact stl_val (v := .slice (some ⟨gs, off, none⟩) n c) (by simp [execOp, go_sem, y0]) ⟨hC, rfl, fun j x _ _ _ _ hp => hp⟩
          | 9, _ =>
            refine ⟨_, rfl, fun V W hC hP => ?_⟩
            simp only [List.getD_cons_zero, List.getD_cons_succ, puts, dstOf, List.getElem?_toArray, List.getElem?_cons_zero, List.getElem?_cons_succ, Option.bind_some]
            exact stl_val (v := .int .i64 k) (by simp [execOp, go_sem]) ⟨hC, rfl, fun j x _ _ _ _ hp => hp⟩
          | 10, _ =>
            refine ⟨_, rfl, fun V W hC hP => ?_⟩
            have h8 := hP 8 (by decide)
            have h9 := hP 9 (by decide)
            replace h8 : V 8 = _ := h8
            replace h9 : V 9 = _ := h9
            simp only [List.getD_cons_zero, List.getD_cons_succ, puts, dstOf, List.getElem?_toArray, List.getElem?_cons_zero, List.getElem?_cons_succ, Option.bind_some, h8, h9]
            refine lo_stl (k := k) (n := n) (c := c) (gs := gs) (p := off) rfl rfl rfl (by omega) (by omega) (fun o2 c2 ho2 => ⟨hC, ⟨o2, c2, rfl, ?_⟩, fun j x _ _ _ _ hp => hp⟩)
            rcases ho2 with rfl | h0
            · exact hCu.start (by omega)
            · exact fun i hi => absurd hi (by omega)
          | 11, _ =>
            refine ⟨_, rfl, fun V W hC hP => ?_⟩
            have h6 := hP 6 (by decide)
            have h10 := hP 10 (by decide)
            obtain ⟨a5, c5, xs, e5, ho5, hx5⟩ := h6
            obtain ⟨o2, c2, e10, hcel⟩ := h10
            simp only [List.getD_cons_zero, List.getD_cons_succ, puts, dstOf, List.getElem?_toArray, List.getElem?_cons_zero, List.getElem?_cons_succ, Option.bind_some, e5, e10]
            rw [e5] at ho5
            obtain ⟨a6, c6, w6, ys, hr, hg, hown, hx⟩ := appY_at w.heap.size u.heap.size gs o2 c2 (n - k) (syFrom k L) 23 u W (by omega) hcel hC (by omega) ho5 hx5 hC.size
            have hrow := own_row_ne ho5
            exact stl_append rfl rfl rfl hr ⟨hC.grown hg hC.size (fun r hr => (ho5.lt r hr).1), ⟨a6, c6, ys, rfl, hown, hx⟩, fun j x hj hne hT hK hp => by
                match j, hj with
                | 0, _ => exact absurd (by decide) hK
                | 1, _ => exact hp
                | 2, _ => exact hp
                | 3, _ => exact hp
                | 4, _ => exact hp
                | 5, _ => exact hp
                | 6, _ => exact absurd (by decide) hK
                | 7, _ => exact hp
                | 8, _ => exact hp
                | 9, _ => exact hp
                | 10, _ => exact hp
                | 11, _ => exact absurd rfl hne
                | 12, _ => exact absurd (by decide) hT
                | 13, _ => exact BoY.grow hp hg hrow
                | j + 14, h => exact absurd h (by omega)⟩
          | 12, _ =>
            refine ⟨_, rfl, fun V W hC hP => ?_⟩
            have h11 := hP 11 (by decide)
            obtain ⟨a6, c6, ys, e6, ho6, hx6⟩ := h11
            rw [e6] at ho6
            simp only [List.getD_cons_zero, List.getD_cons_succ, puts, dstOf, List.getElem?_toArray, List.getElem?_cons_zero, List.getElem?_cons_succ, Option.bind_some, e6]
            exact stl_val (v := .agg #[.slice a6 (k + 1 + (n - k)) c6]) (by simp [execOp, go_sem]) ⟨hC, ⟨_, rfl, a6, c6, ys, rfl, ho6, hx6⟩, fun j x _ _ _ _ hp => hp⟩
          | 13, _ =>
            refine ⟨_, rfl, fun V W hC hP => ?_⟩
            have hal := bal (Below.refl W.heap.size W) (.cells #[.slice none 0 0] 25)
            simp only [List.getD_cons_zero, List.getD_cons_succ, puts, dstOf, List.getElem?_toArray, List.getElem?_cons_zero, List.getElem?_cons_succ, Option.bind_some]
            exact stl_val (v := .pointer (some ⟨W.heap.size, 0, none⟩)) (w' := W.alloc (.cells #[.slice none 0 0] 25)) (by simp [execOp, go_sem]) ⟨btr hC hal, ⟨W.heap.size, rfl, hC.size, row_one W (.slice none 0 0) 25⟩, fun j x _ _ _ _ hp => PoB_mono j x _ _ hal hp⟩
          | i + 14, h => exact absurd h (by omega)
        intro V W hC hP
        obtain ⟨x, e12, a7, c7, ys, rfl, ho6, hx6⟩ := hP 12 (by decide) (by decide)
        obtain ⟨p7, e13, hp, hrow⟩ := hP 13 (by decide) (by decide)
        clear hP
        rw [show List.range 14 = [0, 1, 2, 3, 4, 5, 6, 7, 8, 9, 10, 11, 12, 13] from rfl]
        simp only [List.getD_cons_zero, List.getD_cons_succ, puts, dstOf, List.getElem?_toArray, List.getElem?_cons_zero, List.getElem?_cons_succ, Option.bind_some, e12, e13, List.drop_succ_cons, List.drop_zero, Act.put, List.setIfInBounds_toArray, List.set_cons_succ, List.set_cons_zero]
        have IY : SmY (k + 1 + (n - k)) (syCat (k + 1) L (syFrom k L)) := (SmY.cat (fun i hi => YL i (by omega)) (YL.start (by omega)))
        have g7 := hrow.cell (i := 0) (show 0 < 1 by decide)
        have f7 := hrow.frozen 0
        have l7 := hrow.lt
        have y7 := (hrow.set 0 (.slice a7 (k + 1 + (n - k)) c7)).cell (i := 0) (show 0 < 1 by decide)
        simp only [if_true] at y7
        obtain ⟨cs, hcs, _⟩ := id hrow
        have hC2 : Below u.heap.size u (W.setCell ⟨p7, 0, none⟩ (.slice a7 (k + 1 + (n - k)) c7)) := bst hC (p := ⟨p7, 0, none⟩) hp _
        have ho2 := own_kpD (w' := W.setCell ⟨p7, 0, none⟩ (.slice a7 (k + 1 + (n - k)) c7)) (fun g hg => Below.heap_setCell W ⟨p7, 0, none⟩ _ g (fun e => own_row_ne ho6 p7 cs _ hcs (by have e2 : g = p7 := e; rw [← e2]; exact hg))) ho6
        have IX7 := hid (hx6.syms ho2 hC2 IY)
        have hb7 := btr hDr hC2
        replace hSr := hSr.below hb7
        replace x0 := carry hb7 x0
        replace hb := btr hb hb7
        clear hSu x0u hCu ho2 hx6 hrow hcs hC2 IY hDr
        go_upto_region 12 with fail
        generalize W.setCell ⟨p7, 0, none⟩ (.slice a7 (k + 1 + (n - k)) c7) = wr3 at *
        have y6' := carry hb7 y6
        have IX6' := hid (IX6.out.below hb7)
        clear hb6 hb7 y6 IX6
        have HSL := hid (sig_less hv hlt)
        have HST := hid (sig_twice (L := L) hlt)
        have HNM := hid (sig_name hv hlt)
        obtain ⟨la, lc, cn, _, _, _⟩ := CelY.of hSr k hlt
        have HCN := hid cn
        have HSR := hid hSr
        have HBB := hid hb
        clear hSr hb cn
        have h1 := sigok_any a6 (k + (n - (k + 1))) c6 (syCat k L (syFrom (k + 1) L)) wr3 (by omega) IX6'.out
        rw [HSL.out] at h1
        go_wp2_with fail
        refine h1.mono ?_
        rintro e wr4 ⟨rfl, hq⟩
        have z7 := carry hq y7
        replace x0 := carry hq x0
        have hcn := carry hq HCN.out
        have h2 := sigok_any a7 (k + 1 + (n - k)) c7 (syCat (k + 1) L (syFrom k L)) wr4 (by omega) (IX7.out.below hq)
        rw [HST.out] at h2
        have hB4 := hid (btr HBB.out hq)
        clear hq y7 y6' IX6' h1 IX7
        go_wp2_with fail
        refine h2.mono ?_
        rintro e wr5 ⟨rfl, hq⟩
        replace x0 := carry hq x0
        replace hcn := carry hq hcn
        have hB5 := hid (btr hB4.out hq)
        have hsz := (YL k hlt).2
        clear hq z7 h2
        go_wp2_with fail
        refine (name_at (by omega) HNM.out wr5).mono ?_
        rintro e wr6 ⟨rfl, rfl⟩
        go_wp2
        go_roundw
        case rel => exact ⟨k + 1, by omega, by go_num, hB5.out⟩
        case measure => simp [intOf]; omega
      · have hke : k = n := by omega
        subst hke
        have z0 := x0
        go_wp2
        go_ret
        exact ⟨rfl, btr q0 hb⟩
end Go.Proofs.Ytbhagobkkobgfaa
