/- Contracts of the program's LinOk, LinBad, LinFree, LinNot. -/
import Derived.Test.YtbdmofmoegmigaaLinG
namespace Go.Proofs.Ytbdmofmoegmigaa
set_option linter.unusedVariables false
set_option linter.unusedSimpArgs false
open Go.RowKit
def emptyB (Z : Nat → Int) : Bool := decide (Z 0 = 0 ∧ Z 1 = 0 ∧ Z 2 = 0 ∧ Z 3 = 0)
def badB (n : Nat) (Z : Nat → Int) (b : Int) (s : Bool) : Bool := okL n Z b && (emptyB Z && refB b s)
def freeB (n : Nat) (Z : Nat → Int) (b : Int) (s : Bool) : Bool := okL n Z b && (emptyB Z && !refB b s)
def notR (n : Nat) (Z : Nat → Int) (b : Int) (s : Bool) : LinR := if okL n Z b = true then (4, fun k => -Z k, -b, !s) else zeroL
def NotP (w : World) (r : LinR) (e : Ending) (w' : World) : Prop := ∃ v, e = .returned v ∧ NewL w r v w' ∧ Below w.heap.size w w'
theorem inC_bd {n : Int} (h : inC n = true) : -1000000 ≤ n ∧ n ≤ 1000000 := inC_iff.1 h
theorem okL_bd4 {n : Nat} {Z : Nat → Int} {b : Int} (h : okL n Z b = true) : (-1000000 ≤ Z 0 ∧ Z 0 ≤ 1000000) ∧ (-1000000 ≤ Z 1 ∧ Z 1 ≤ 1000000) ∧ (-1000000 ≤ Z 2 ∧ Z 2 ≤ 1000000) ∧ (-1000000 ≤ Z 3 ∧ Z 3 ≤ 1000000) ∧ (-1000000 ≤ b ∧ b ≤ 1000000) := by
  obtain ⟨rfl, h1, h2⟩ := okL_iff.1 h
  exact ⟨inC_iff.1 (h1 0 (by omega)), inC_iff.1 (h1 1 (by omega)), inC_iff.1 (h1 2 (by omega)), inC_iff.1 (h1 3 (by omega)), inC_iff.1 h2⟩
theorem NewL.congr {W w' : World} {m : Nat} {Y Z : Nat → Int} {b : Int} {s : Bool} {v : Value} (h : NewL W (m, Y, b, s) v w') (e : ∀ k, k < m → Y k = Z k) : NewL W (m, Z, b, s) v w' := by
  obtain ⟨A, c, hv, h1, h2, h3⟩ := h
  refine ⟨A, c, hv, h1, h2, ?_⟩
  rcases h3 with h3 | ⟨g, ha, hg, hg', hc⟩
  · exact .inl h3
  · exact .inr ⟨g, ha, hg, hg', fun k hk => ⟨(hc k hk).1.trans (by show some (Value.int .i64 (Y k)) = _; rw [e k hk]), (hc k hk).2⟩⟩
/-- what was new since an older world -/
theorem OwnI.old {W W1 w' : World} {A : Option Addr} {n : Nat} {Z : Nat → Int} (hb : W.heap.size ≤ W1.heap.size) (h : OwnI W1 w' A n Z) : OwnI W w' A n Z := by
  rcases h with h | ⟨g, ha, hg, hg', hc⟩
  · exact .inl h
  · exact .inr ⟨g, ha, Nat.le_trans hb hg, hg', hc⟩
theorem OwnI.below {W w w' : World} {A : Option Addr} {n : Nat} {Z : Nat → Int} (hb : Below w.heap.size w w') (h : OwnI W w A n Z) : OwnI W w' A n Z := by
  rcases h with h | ⟨g, ha, hg, hg', hc⟩
  · exact .inl h
  · exact .inr ⟨g, ha, hg, Nat.lt_of_lt_of_le hg' hb.size, fun k hk => ⟨(hb.cell (p := ⟨g, k, none⟩) hg').trans (hc k hk).1, (hb.frozen (p := ⟨g, k, none⟩) hg').trans (hc k hk).2⟩⟩
theorem OwnI.set {W w : World} {A : Option Addr} {n : Nat} {Z : Nat → Int} {p o : Nat} (v : Value) (hp : p < W.heap.size) (h : OwnI W w A n Z) : OwnI W (w.setCell ⟨p, o, none⟩ v) A n Z := by
  rcases h with h | ⟨g, ha, hg, hg', hc⟩
  · exact .inl h
  · refine .inr ⟨g, ha, hg, by simpa [World.setCell] using hg', fun k hk => ⟨?_, ?_⟩⟩
    · rw [World.cell?_setCell_other _ _ _ _ (by simp <;> omega)]; exact (hc k hk).1
    · simpa [go_sem] using (hc k hk).2
theorem OwnI.ints {W w' : World} {A : Option Addr} {n : Nat} {Z : Nat → Int} (h : OwnI W w' A n Z) : Ints w' A n Z := by
  rcases h with h | ⟨g, ha, hg, hg', hc⟩
  · exact .inl h
  · exact .inr ⟨g, 0, ha, hg', fun k hk => by rw [Nat.zero_add]; exact (hc k hk).1⟩
theorem NewL.old {W W1 w' : World} {r : LinR} {v : Value} (hb : W.heap.size ≤ W1.heap.size) (h : NewL W1 r v w') : NewL W r v w' := by
  obtain ⟨A, c, hv, h1, h2, h3⟩ := h; exact ⟨A, c, hv, h1, h2, h3.old hb⟩
theorem NewL.below {W w w' : World} {r : LinR} {v : Value} (hb : Below w.heap.size w w') (h : NewL W r v w) : NewL W r v w' := by
  obtain ⟨A, c, hv, h1, h2, h3⟩ := h; exact ⟨A, c, hv, h1, h2, h3.below hb⟩
theorem NewL.set {W w : World} {r : LinR} {v : Value} {p o : Nat} (u : Value) (hp : p < W.heap.size) (h : NewL W r v w) : NewL W r v (w.setCell ⟨p, o, none⟩ u) := by
  obtain ⟨A, c, hv, h1, h2, h3⟩ := h; exact ⟨A, c, hv, h1, h2, h3.set u hp⟩
/-- wide at a world in which the row still reads as it did -/
theorem wide_far {A : Option Addr} {n c : Nat} {Z : Nat → Int} {b : Int} {s : Bool} {w : World} (hn : n ≤ 9223372036854775807) (hA : Ints w A n Z) {v : Bool} {x0 x1 x2 x3 x4 : Int} {u : Bool} (hv : okL n Z b = v) (hx : wideV n Z b s = #[.int .i64 x0, .int .i64 x1, .int .i64 x2, .int .i64 x3, .int .i64 x4, .bool u]) (W : World) (hb : Below w.heap.size w W) :
    Calls Try.prog 84 #[.agg #[.slice A n c, .int .i64 b, .bool s]] W fun e w' => e = .returned (.tuple #[.agg #[.int .i64 x0, .int .i64 x1, .int .i64 x2, .int .i64 x3, .int .i64 x4, .bool u], .bool v]) ∧ Below W.heap.size W w' := by
  have h := wide_at A n c Z b s W hn (hA.below hb)
  rw [hx, hv] at h
  exact h
set_option maxRecDepth 100000 in
set_option maxHeartbeats 1000000 in
theorem linok_any (A : Option Addr) (n c : Nat) (Z : Nat → Int) (b : Int) (s : Bool) (w : World) (hn : n ≤ 9223372036854775807) (hA : Ints w A n Z) :
    Calls Try.prog 30 #[.agg #[.slice A n c, .int .i64 b, .bool s]] w fun e w' => e = .returned (.bool (okL n Z b)) ∧ Below w.heap.size w w' := by
  generalize hv : okL n Z b = v
  obtain ⟨x0, x1, x2, x3, x4, u, hx⟩ := wideV_six n Z b s
  have hW := wide_far (c := c) hn hA hv hx
  clear hv hx hA hn
  go_enter Try.func30, Try.ntmps30
  go_wp2_with (go_at_call 84; refine (hW _ (bal (Below.refl _ _) _)).mono ?_; rintro e w1 ⟨rfl, hq⟩)
  go_ret
  clear hW
  refine ⟨rfl, ?_⟩
  (repeat first | with_reducible exact Below.refl _ _ | with_reducible assumption | with_reducible refine Below.drew ?_ | with_reducible refine bdn ?_ _ | with_reducible refine bal ?_ _ | (with_reducible refine bst ?_ ?_ _; rotate_left; (simp <;> omega)) | (with_reducible refine btr ?_ (by with_reducible assumption)))
set_option maxRecDepth 100000 in
set_option maxHeartbeats 1000000 in
theorem linbad_any (A : Option Addr) (n c : Nat) (Z : Nat → Int) (b : Int) (s : Bool) (w : World) (hn : n ≤ 9223372036854775807) (hA : Ints w A n Z) :
    Calls Try.prog 37 #[.agg #[.slice A n c, .int .i64 b, .bool s]] w fun e w' => e = .returned (.bool (badB n Z b s)) ∧ Below w.heap.size w w' := by
  unfold badB
  cases hv : okL n Z b
  · obtain ⟨x0, x1, x2, x3, x4, u, hx⟩ := wideV_six n Z b s
    have hW := wide_far (c := c) hn hA hv hx
    clear hv hx hA hn
    go_enter Try.func37, Try.ntmps37
    go_wp2_with (go_at_call 84; refine (hW _ (bal (Below.refl _ _) _)).mono ?_; rintro e w1 ⟨rfl, hq⟩)
    go_ret
    clear hW
    refine ⟨rfl, ?_⟩
    (repeat first | with_reducible exact Below.refl _ _ | with_reducible assumption | with_reducible refine Below.drew ?_ | with_reducible refine bdn ?_ _ | with_reducible refine bal ?_ _ | (with_reducible refine bst ?_ ?_ _; rotate_left; (simp <;> omega)) | (with_reducible refine btr ?_ (by with_reducible assumption)))
  · have hW := wide_far (c := c) hn hA hv (wide_v4 (s := s) hv)
    clear hv hA hn
    have hE := fun W => zero_any (Z 0) (Z 1) (Z 2) (Z 3) W
    have hR := fun W => refuses_any (Z 0) (Z 1) (Z 2) (Z 3) b s W
    unfold emptyB
    generalize decide (Z 0 = 0 ∧ Z 1 = 0 ∧ Z 2 = 0 ∧ Z 3 = 0) = ez at hE ⊢
    generalize refB b s = rz at hR ⊢
    cases ez
    · go_enter Try.func37, Try.ntmps37
      go_wp2_with (first | (go_at_call 84; refine (hW _ (bal (Below.refl _ _) _)).mono ?_; rintro e w1 ⟨rfl, hq⟩) | (go_at_call 99; refine (hE _).mono ?_; rintro e w2 ⟨rfl, hq2⟩))
      go_ret
      clear hW hE hR
      refine ⟨rfl, ?_⟩
      (repeat first | with_reducible exact Below.refl _ _ | with_reducible assumption | with_reducible refine Below.drew ?_ | with_reducible refine bdn ?_ _ | with_reducible refine bal ?_ _ | (with_reducible refine bst ?_ ?_ _; rotate_left; (simp <;> omega)) | (with_reducible refine btr ?_ (by with_reducible assumption)))
    · go_enter Try.func37, Try.ntmps37
      go_wp2_with (first | (go_at_call 84; refine (hW _ (bal (Below.refl _ _) _)).mono ?_; rintro e w1 ⟨rfl, hq⟩) | (go_at_call 99; refine (hE _).mono ?_; rintro e w2 ⟨rfl, hq2⟩; obtain ⟨hc, hf⟩ := bcell hq2) | (go_at_call 100; refine (hR _).mono ?_; rintro e w3 ⟨rfl, hq3⟩))
      go_ret
      clear hW hE hR hc hf
      refine ⟨by simp, ?_⟩
      (repeat first | with_reducible exact Below.refl _ _ | with_reducible assumption | with_reducible refine Below.drew ?_ | with_reducible refine bdn ?_ _ | with_reducible refine bal ?_ _ | (with_reducible refine bst ?_ ?_ _; rotate_left; (simp <;> omega)) | (with_reducible refine btr ?_ (by with_reducible assumption)))
set_option maxRecDepth 100000 in
set_option maxHeartbeats 1000000 in
theorem linfree_any (A : Option Addr) (n c : Nat) (Z : Nat → Int) (b : Int) (s : Bool) (w : World) (hn : n ≤ 9223372036854775807) (hA : Ints w A n Z) :
    Calls Try.prog 38 #[.agg #[.slice A n c, .int .i64 b, .bool s]] w fun e w' => e = .returned (.bool (freeB n Z b s)) ∧ Below w.heap.size w w' := by
  unfold freeB
  cases hv : okL n Z b
  · obtain ⟨x0, x1, x2, x3, x4, u, hx⟩ := wideV_six n Z b s
    have hW := wide_far (c := c) hn hA hv hx
    clear hv hx hA hn
    go_enter Try.func38, Try.ntmps38
    go_wp2_with (go_at_call 84; refine (hW _ (bal (Below.refl _ _) _)).mono ?_; rintro e w1 ⟨rfl, hq⟩)
    go_ret
    clear hW
    refine ⟨rfl, ?_⟩
    (repeat first | with_reducible exact Below.refl _ _ | with_reducible assumption | with_reducible refine Below.drew ?_ | with_reducible refine bdn ?_ _ | with_reducible refine bal ?_ _ | (with_reducible refine bst ?_ ?_ _; rotate_left; (simp <;> omega)) | (with_reducible refine btr ?_ (by with_reducible assumption)))
  · have hW := wide_far (c := c) hn hA hv (wide_v4 (s := s) hv)
    clear hv hA hn
    have hE := fun W => zero_any (Z 0) (Z 1) (Z 2) (Z 3) W
    have hR := fun W => refuses_any (Z 0) (Z 1) (Z 2) (Z 3) b s W
    unfold emptyB
    generalize decide (Z 0 = 0 ∧ Z 1 = 0 ∧ Z 2 = 0 ∧ Z 3 = 0) = ez at hE ⊢
    generalize refB b s = rz at hR ⊢
    cases ez
    · go_enter Try.func38, Try.ntmps38
      go_wp2_with (first | (go_at_call 84; refine (hW _ (bal (Below.refl _ _) _)).mono ?_; rintro e w1 ⟨rfl, hq⟩) | (go_at_call 99; refine (hE _).mono ?_; rintro e w2 ⟨rfl, hq2⟩))
      go_ret
      clear hW hE hR
      refine ⟨rfl, ?_⟩
      (repeat first | with_reducible exact Below.refl _ _ | with_reducible assumption | with_reducible refine Below.drew ?_ | with_reducible refine bdn ?_ _ | with_reducible refine bal ?_ _ | (with_reducible refine bst ?_ ?_ _; rotate_left; (simp <;> omega)) | (with_reducible refine btr ?_ (by with_reducible assumption)))
    · go_enter Try.func38, Try.ntmps38
      go_wp2_with (first | (go_at_call 84; refine (hW _ (bal (Below.refl _ _) _)).mono ?_; rintro e w1 ⟨rfl, hq⟩) | (go_at_call 99; refine (hE _).mono ?_; rintro e w2 ⟨rfl, hq2⟩; obtain ⟨hc, hf⟩ := bcell hq2) | (go_at_call 100; refine (hR _).mono ?_; rintro e w3 ⟨rfl, hq3⟩))
      go_ret
      clear hW hE hR hc hf
      refine ⟨ret_bool (by simp), ?_⟩
      (repeat first | with_reducible exact Below.refl _ _ | with_reducible assumption | with_reducible refine Below.drew ?_ | with_reducible refine bdn ?_ _ | with_reducible refine bal ?_ _ | (with_reducible refine bst ?_ ?_ _; rotate_left; (simp <;> omega)) | (with_reducible refine btr ?_ (by with_reducible assumption)))
theorem own3 {W w : World} {A : Option Addr} {n : Nat} {Z : Nat → Int} {p : Nat} (x y z : Value) (o : Obj) (hp : p < W.heap.size) (h : OwnI W w A n Z) :
    OwnI W ((((w.setCell ⟨p, 0, none⟩ x).setCell ⟨p, 1, none⟩ y).setCell ⟨p, 2, none⟩ z).alloc o) A n Z :=
  (((h.set x hp).set y hp).set z hp).below ((Below.refl _ _).alloc (Nat.le_refl _) o)
theorem carryf {w w1 : World} {b o : Nat} {v : Bool} (hq : Below w.heap.size w w1) (h : w.frozen? ⟨b, o, none⟩ = v) (hb : b < w.heap.size) : w1.frozen? ⟨b, o, none⟩ = v :=
  (hq.frozen (p := ⟨b, o, none⟩) hb).trans h
theorem neg_rng {n : Nat} {Z : Nat → Int} {b : Int} (h : okL n Z b = true) : rngB (-Z 0) (-Z 1) (-Z 2) (-Z 3) (-b) = true := by
  obtain ⟨b0, b1, b2, b3, b4⟩ := okL_bd4 h
  unfold rngB
  rw [inC_iff.2 (by omega), inC_iff.2 (by omega), inC_iff.2 (by omega), inC_iff.2 (by omega), inC_iff.2 (by omega)]; rfl
theorem narrow_open {Z : Nat → Int} {b : Int} {s : Bool} (h : rngB (Z 0) (Z 1) (Z 2) (Z 3) b = true) (w : World) :
    Calls Try.prog 86 #[.agg #[.int .i64 (Z 0), .int .i64 (Z 1), .int .i64 (Z 2), .int .i64 (Z 3), .int .i64 b, .bool s]] w fun e w' =>
      ∃ A c, e = .returned (.tuple #[.agg #[.slice A 4 c, .int .i64 b, .bool s], .bool true]) ∧ 4 ≤ c ∧ c ≤ 9223372036854775807 ∧ OwnI w w' A 4 Z ∧ Below w.heap.size w w' := by
  refine (lnarrow_any _ _ _ _ _ _ w).mono ?_
  rintro e w' ⟨v, rfl, hv, hb⟩
  rw [h]
  unfold narR at hv
  rw [h, if_pos rfl] at hv
  replace hv := hv.congr (Z := Z) (fun k hk => by rcases lt4 hk with rfl | rfl | rfl | rfl <;> rfl)
  obtain ⟨A, c, rfl, h1, h2, h3⟩ := hv
  exact ⟨A, c, rfl, h1, h2, h3, hb⟩
theorem not_p {w w' : World} {r : LinR} {v : Value} (h : NewL w r v w') (hb : Below w.heap.size w w') : NotP w r (.returned v) w' := ⟨v, rfl, h, hb⟩
set_option maxRecDepth 100000 in
set_option maxHeartbeats 1000000 in
theorem linnot_any (A : Option Addr) (n c : Nat) (Z : Nat → Int) (b : Int) (s : Bool) (w : World) (hn : n ≤ 9223372036854775807) (hA : Ints w A n Z) :
    Calls Try.prog 27 #[.agg #[.slice A n c, .int .i64 b, .bool s]] w (NotP w (notR n Z b s)) := by
  unfold notR
  cases hv : okL n Z b
  · rw [if_neg (by simp)]
    obtain ⟨x0, x1, x2, x3, x4, u, hx⟩ := wideV_six n Z b s
    have hW := wide_far (c := c) hn hA hv hx
    clear hv hx hA hn
    go_enter Try.func27, Try.ntmps27
    go_wp2_with (go_at_call 84; refine (hW _ (bal (bal (Below.refl _ _) _) _)).mono ?_; rintro e w1 ⟨rfl, hq⟩; obtain ⟨hc, hf⟩ := bcell hq; have hz := hq.size; have hz1 : w.heap.size + 1 < w1.heap.size := (by simp at hz; omega); clear hz; have ca := (fun (x : Obj) (b o : Nat) (h : b < w1.heap.size) => World.cell?_alloc_lt w1 x ⟨b, o, none⟩ h))
    clear ca hW
    have e0 : w1.cell? ⟨w.heap.size + 1, 0, none⟩ = some (.slice none 0 0) := by rw [hc _ _ (by simp <;> omega)]; simp [go_sem]
    have e1 : w1.cell? ⟨w.heap.size + 1, 1, none⟩ = some (.int .i64 0) := by rw [hc _ _ (by simp <;> omega)]; simp [go_sem]
    have e2 : w1.cell? ⟨w.heap.size + 1, 2, none⟩ = some (.bool false) := by rw [hc _ _ (by simp <;> omega)]; simp [go_sem]
    obtain ⟨t0, t1, t2⟩ := set3 e0 e1 e2 (.slice none 0 0) (.int .i64 0) (.bool false)
    clear hc hf
    replace t0 := carryA (.cells #[.int .i64 x0, .int .i64 x1, .int .i64 x2, .int .i64 x3, .int .i64 x4, .bool u] 90) t0
    replace t1 := carryA (.cells #[.int .i64 x0, .int .i64 x1, .int .i64 x2, .int .i64 x3, .int .i64 x4, .bool u] 90) t1
    replace t2 := carryA (.cells #[.int .i64 x0, .int .i64 x1, .int .i64 x2, .int .i64 x3, .int .i64 x4, .bool u] 90) t2
    refine bodyPost_ret (v := .agg #[.slice none 0 0, .int .i64 0, .bool false]) (by simp [results, Try.results27, go_sem, t0, t1, t2]) rfl (not_p (NewL.zero _ _) ?_)
    (repeat first | with_reducible exact Below.refl _ _ | with_reducible assumption | with_reducible refine Below.drew ?_ | with_reducible refine bdn ?_ _ | with_reducible refine bal ?_ _ | (with_reducible refine bst ?_ ?_ _; rotate_left; (simp <;> omega)) | (with_reducible refine btr ?_ (by with_reducible assumption)))
  · rw [if_pos rfl]
    obtain ⟨b0, b1, b2, b3, b4⟩ := okL_bd4 hv
    have hW := wide_far (c := c) hn hA hv (wide_v4 (s := s) hv)
    have hG := fun W => negated_any (Z 0) (Z 1) (Z 2) (Z 3) b s W b0 b1 b2 b3 b4
    have hN := fun W => narrow_open (Z := fun k => -Z k) (s := !s) (neg_rng hv) W
    clear hv hA hn b0 b1 b2 b3 b4
    go_enter Try.func27, Try.ntmps27
    go_wp2_with (first | (go_at_call 84; refine (hW _ (bal (bal (Below.refl _ _) _) _)).mono ?_; rintro e w1 ⟨rfl, hq⟩; obtain ⟨hc, hf⟩ := bcell hq; have hz := hq.size; have hz1 : w.heap.size + 1 < w1.heap.size := (by simp at hz; omega); clear hz; have ca := (fun (x : Obj) (b o : Nat) (h : b < w1.heap.size) => World.cell?_alloc_lt w1 x ⟨b, o, none⟩ h)) | (go_at_call 85; refine (hG _).mono ?_; rintro e w2 ⟨rfl, hq2⟩))
    refine (hN _).mono ?_
    rintro e w3 ⟨A', c', rfl, hk1, hk2, hO, hq3⟩
    clear hW hG hN ca
    have e0 : w1.cell? ⟨w.heap.size + 1, 0, none⟩ = some (.slice none 0 0) := by rw [hc _ _ (by simp <;> omega)]; simp [go_sem]
    have e1 : w1.cell? ⟨w.heap.size + 1, 1, none⟩ = some (.int .i64 0) := by rw [hc _ _ (by simp <;> omega)]; simp [go_sem]
    have e2 : w1.cell? ⟨w.heap.size + 1, 2, none⟩ = some (.bool false) := by rw [hc _ _ (by simp <;> omega)]; simp [go_sem]
    have f0 : w1.frozen? ⟨w.heap.size + 1, 0, none⟩ = false := by rw [hf _ _ (by simp <;> omega)]; simp [go_sem]
    have f1 : w1.frozen? ⟨w.heap.size + 1, 1, none⟩ = false := by rw [hf _ _ (by simp <;> omega)]; simp [go_sem]
    have f2 : w1.frozen? ⟨w.heap.size + 1, 2, none⟩ = false := by rw [hf _ _ (by simp <;> omega)]; simp [go_sem]
    clear hc hf
    have q := btr (btr (bal (Below.refl w1.heap.size w1) _) hq2) hq3
    replace f0 := carryf q f0 (cell_lt e0)
    replace f1 := carryf q f1 (cell_lt e1)
    replace f2 := carryf q f2 (cell_lt e2)
    replace e0 := carry q e0
    replace e1 := carry q e1
    replace e2 := carry q e2
    have hz3 : w.heap.size + 1 < w3.heap.size := cell_lt e0
    have ca := (fun (x : Obj) (b o : Nat) (h : b < w3.heap.size) => World.cell?_alloc_lt w3 x ⟨b, o, none⟩ h)
    go_wp2_with fail
    clear ca
    obtain ⟨t0, t1, t2⟩ := set3 e0 e1 e2 (.slice A' 4 c') (.int .i64 (-b)) (.bool (!s))
    replace t0 := carryA (.cells #[.slice A' 4 c', .int .i64 (-b), .bool (!s)] 25) t0
    replace t1 := carryA (.cells #[.slice A' 4 c', .int .i64 (-b), .bool (!s)] 25) t1
    replace t2 := carryA (.cells #[.slice A' 4 c', .int .i64 (-b), .bool (!s)] 25) t2
    have hO2 := own3 (p := w.heap.size + 1) (.slice A' 4 c') (.int .i64 (-b)) (.bool (!s)) (.cells #[.slice A' 4 c', .int .i64 (-b), .bool (!s)] 25) (Nat.lt_of_lt_of_le hz1 (btr (bal (Below.refl w1.heap.size w1) _) hq2).size) hO
    refine bodyPost_ret (v := .agg #[.slice A' 4 c', .int .i64 (-b), .bool (!s)]) (by simp [results, Try.results27, go_sem, t0, t1, t2]) rfl (not_p ⟨A', c', rfl, hk1, hk2, hO2.old ?_⟩ ?_)
    · have := hq2.size; simp at this; omega
    clear f0 f1 f2 e0 e1 e2 t0 t1 t2 hO hO2
    have q0 := btr (bal (bal (Below.refl w.heap.size w) _) _) hq
    replace q0 := btr q0 q
    clear q hq hq2 hq3
    (repeat first | with_reducible exact Below.refl _ _ | with_reducible assumption | with_reducible refine Below.drew ?_ | with_reducible refine bdn ?_ _ | with_reducible refine bal ?_ _ | (with_reducible refine bst ?_ ?_ _; rotate_left; (simp <;> omega)) | (with_reducible refine btr ?_ (by with_reducible assumption)))
end Go.Proofs.Ytbdmofmoegmigaa
