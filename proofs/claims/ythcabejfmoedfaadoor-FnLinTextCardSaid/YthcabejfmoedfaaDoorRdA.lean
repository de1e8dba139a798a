/- Contract of the model's RatRead. -/
import Derived.Test.YthcabejfmoedfaaDoorRdN
import Derived.Test.YthcabejfmoedfaaDoorSay
import Derived.Test.YthcabejfmoedfaaDoorLinW
namespace Go.Proofs.YthcabejfmoedfaaDoor
set_option linter.unusedVariables false
set_option linter.unusedSimpArgs false
open Go.Shelf Go.RowKit Go.Joins
theorem split_len (c : UInt8) : ∀ (l : List UInt8) (p : List UInt8), p ∈ splitL c l → p.length ≤ l.length
  | [], p, h => by simp [splitL] at h; simp [h]
  | x :: l, p, h => by
    have ih := split_len c l
    unfold splitL at h
    split at h
    · rcases List.mem_cons.1 h with rfl | h
      · simp
      · have := ih p h; simp; omega
    · rcases List.mem_cons.1 h with rfl | h
      · have hne := split_ne c l
        cases hs : splitL c l with
        | nil => exact absurd hs hne
        | cons a b => have := ih a (by rw [hs]; simp); simp; omega
      · have := ih p (List.mem_of_mem_tail h); simp; omega
/-- the pieces of a text cut at a sign -/
def wsOf (s : ByteArray) (c : UInt8) : List ByteArray := (splitL c s.data.toList).map fun l => ⟨l.toArray⟩
theorem ws_len {s : ByteArray} {c : UInt8} {t : ByteArray} (h : t ∈ wsOf s c) : t.size ≤ s.size := by
  obtain ⟨l, hl, rfl⟩ := List.mem_map.1 h
  have := split_len c _ _ hl
  show l.length ≤ _
  have h2 : s.data.toList.length = s.size := by simp
  omega
theorem ws_rd {s : ByteArray} {n d : Int} (h : RdOk s n d) : (d = 1 ∧ wsOf s 47 = [⟨(Lib.itoa n).toArray⟩]) ∨ (wsOf s 47 = [⟨(Lib.itoa n).toArray⟩, ⟨(Lib.itoa d).toArray⟩]) := by
  unfold wsOf
  rcases rd_split h with ⟨h1, h2⟩ | ⟨h1, h2⟩
  · left; refine ⟨h1, ?_⟩; rw [h2, split_no (no47 n)]; rfl
  · right; rw [h2, split_at _ (no47 n), split_no (no47 d)]; rfl
theorem cut_at (s : ByteArray) (c : UInt8) (w : World) (hs : s.size ≤ 1048576) :
    Calls Tryd.prog 44 #[.string s, .int .u8 c.toNat] w (NewWs w (wsOf s c)) := by
  have := cut_any s c.toNat w hs
  rw [cut_texts] at this
  exact this
/-- an owned row of texts, cell for cell -/
theorem ws_cells {w w' : World} {ws : List ByteArray} {t0 : ByteArray} {e : Ending} (h : NewWs w (t0 :: ws) e w') : ∃ g cap, e = .returned (.slice (some ⟨g, 0, none⟩) (ws.length + 1) cap) ∧ w.heap.size ≤ g ∧ g < w'.heap.size ∧ (∀ j t, (t0 :: ws)[j]? = some t → w'.cell? ⟨g, j, none⟩ = some (.string t)) ∧ Below w.heap.size w w' := by
  obtain ⟨v, rfl, hO, hb⟩ := h
  have h0 := hO
  obtain ⟨hl, h | ⟨g, cap, cur, rfl, hg, hh, h1, h2, h3, h4⟩⟩ := hO
  · simp at h
  · have hc : ∀ j t, (t0 :: ws)[j]? = some t → w'.cell? ⟨g, j, none⟩ = some (.string t) := fun j t hj => by
      have hlt : j < (t0 :: ws).length := (List.getElem?_eq_some_iff.1 hj).1
      have hx := h0.cellAt j (by simpa using hlt)
      refine hx.trans ?_
      rw [List.getElem?_map, hj]; rfl
    exact ⟨g, cap, rfl, hg, cell_lt (hc 0 t0 rfl), hc, hb⟩
theorem strs_eq (a b : ByteArray) : (a.toList == b.toList) = decide (a = b) := by
  rw [Bool.eq_iff_iff]
  simp only [beq_iff_eq, decide_eq_true_eq]
  constructor
  · intro h; rw [ByteArray.toList_eq, ByteArray.toList_eq] at h; exact ba_ext h
  · rintro rfl; rfl
theorem rdp_of {s : ByteArray} {n d : Int} {e : Ending} (hF : ∀ n' d', RdOk s n' d' → n = n' ∧ d = d')
    (h : (RdOk s n d → e = .returned (.tuple #[.agg #[.int .i64 n, .int .i64 d], .bool true])) ∧ (¬ RdOk s n d → e = .returned (.tuple #[.agg #[.int .i64 0, .int .i64 0], .bool false]))) : RdP s e := by
  by_cases hk : RdOk s n d
  · exact .inl ⟨n, d, hk, h.1 hk⟩
  · refine .inr ⟨fun n' d' h' => ?_, h.2 hk⟩
    obtain ⟨rfl, rfl⟩ := hF n' d' h'
    exact hk h'
set_option maxRecDepth 100000 in
set_option maxHeartbeats 4000000 in
theorem sread_any (s : ByteArray) (w : World) (hs : s.size ≤ 1048576) :
    Calls Tryd.prog 10 #[.string s] w fun e w' => RdP s e ∧ Below w.heap.size w w' := by
  have hF := fun n d (h : RdOk s n d) => ws_rd h
  have hne : wsOf s 47 ≠ [] := by unfold wsOf; simp [split_ne]
  have hZ := fun t (h : t ∈ wsOf s 47) => ws_len h
  have hC := fun W => cut_at s 47 W hs
  generalize wsOf s 47 = ws at hF hne hZ hC
  match ws, hne with
  | t0 :: ws, _ =>
  have z0 := hZ t0 (by simp)
  obtain ⟨v0, b0, hv0, C0⟩ := lnum_val t0 (by omega)
  obtain ⟨p0, p1⟩ := pair_new w (.int .i64 0) (.int .i64 0) 23
  have r0 : (w.alloc (.cells #[.int .i64 0, .int .i64 0] 23)).frozen? ⟨w.heap.size, 0, none⟩ = false := by simp [go_sem]
  have r1 : (w.alloc (.cells #[.int .i64 0, .int .i64 0] 23)).frozen? ⟨w.heap.size, 1, none⟩ = false := by simp [go_sem]
  have q0 := bal (Below.refl w.heap.size w) (.cells #[.int .i64 0, .int .i64 0] 23)
  go_enter Tryd.func10, Tryd.ntmps10
  go_wp2_with fail
  refine (hC _).mono ?_
  intro e w1 hN
  obtain ⟨g, cap, rfl, hg, hgl, hcell, hb⟩ := ws_cells hN
  replace r0 := carryf hb r0 (cell_lt p0)
  replace r1 := carryf hb r1 (cell_lt p1)
  replace p0 := carry hb p0
  replace p1 := carry hb p1
  replace q0 := btr q0 hb
  have hx0 := hcell 0 t0 rfl
  have hszA : w.heap.size < w1.heap.size := cell_lt p0
  clear hN hb hC
  obtain ⟨a0, a1⟩ := pair_new w1 (.int .i64 0) (.int .i64 1) 23
  go_wp2_with fail
  refine (C0 _).mono ?_
  rintro e w2 ⟨rfl, hq⟩
  replace a0 := carry hq a0
  replace a1 := carry hq a1
  have f0 : w2.frozen? ⟨w1.heap.size, 0, none⟩ = false := (hq.frozen (p := ⟨w1.heap.size, 0, none⟩) (by simp)).trans (by simp [go_sem])
  have f1 : w2.frozen? ⟨w1.heap.size, 1, none⟩ = false := (hq.frozen (p := ⟨w1.heap.size, 1, none⟩) (by simp)).trans (by simp [go_sem])
  have q1 := btr (bal (Below.refl w1.heap.size w1) (.cells #[.int .i64 0, .int .i64 1] 23)) hq
  go_upto_region 4 with fail
  have e0 := World.cell?_setCell_same w2 ⟨w1.heap.size, 0, none⟩ (.int .i64 v0) a0
  have e1 := (World.cell?_setCell_other w2 ⟨w1.heap.size, 0, none⟩ ⟨w1.heap.size, 1, none⟩ (.int .i64 v0) (by simp)).trans a1
  have g1 : (w2.setCell ⟨w1.heap.size, 0, none⟩ (.int .i64 v0)).frozen? ⟨w1.heap.size, 1, none⟩ = false := by simpa [go_sem] using f1
  replace q1 := bst q1 (p := ⟨w1.heap.size, 0, none⟩) (Nat.le_refl _) (.int .i64 v0)
  clear a0 a1 f0 f1 hq hx0
  generalize w2.setCell ⟨w1.heap.size, 0, none⟩ (.int .i64 v0) = w3 at *
  replace r0 := carryf q1 r0 (cell_lt p0)
  replace r1 := carryf q1 r1 (cell_lt p1)
  replace p0 := carry q1 p0
  replace p1 := carry q1 p1
  replace q0 := btr q0 q1
  have hsz := cell_lt p0
  have hsA := cell_lt e0
  match ws with
  | [] =>
    replace hF : ∀ n' d', RdOk s n' d' → v0 = n' ∧ 1 = d' := fun n' d' h => by
      have hb := ok_b h.1
      rcases hF n' d' h with ⟨h1, h2⟩ | h2
      · injection h2 with h3 _
        exact ⟨hv0 n' ⟨hb.1, hb.2.1⟩ (by rw [h3, bytes_list]), h1.symm⟩
      · injection h2 with _ h3; cases h3
    clear hcell hZ C0 hv0 g1
    go_upto_region 6 with fail
    cases hv : okB v0 1
    · go_wp2_with fail
      refine (sok_at v0 1 _ hv).mono ?_
      rintro e w9 ⟨rfl, hq⟩
      replace r0 := carryf hq r0 (cell_lt p0)
      replace r1 := carryf hq r1 (cell_lt p1)
      replace p0 := carry hq p0
      replace p1 := carry hq p1
      replace q0 := btr q0 hq
      obtain ⟨t0_, t1_⟩ := set2 p0 p1 (.int .i64 0) (.int .i64 0)
      go_wp2
      refine bodyPost_ret (v := .tuple #[.agg #[.int .i64 0, .int .i64 0], .bool false]) (by simp [results, Tryd.results10, go_sem, t0_, t1_]) rfl ?_
      refine ⟨rdp_of hF ⟨fun h => ?_, fun _ => rfl⟩, ?_⟩
      · exact absurd (h.1.symm.trans hv) (by simp)
      · exact bst (bst q0 (Nat.le_refl _) _) (Nat.le_refl _) _
    · go_wp2_with fail
      refine (sok_at v0 1 _ hv).mono ?_
      rintro e w9 ⟨rfl, hq⟩
      replace r0 := carryf hq r0 (cell_lt p0)
      replace r1 := carryf hq r1 (cell_lt p1)
      replace p0 := carry hq p0
      replace p1 := carry hq p1
      replace q0 := btr q0 hq
      replace e0 := carry hq e0
      replace e1 := carry hq e1
      have hsz9 := cell_lt p0
      have hsA9 := cell_lt e0
      clear hq
      go_wp2_with fail
      refine (say_any v0 1 _).mono ?_
      rintro e w10 ⟨rfl, hq⟩
      replace r0 := carryf hq r0 (cell_lt p0)
      replace r1 := carryf hq r1 (cell_lt p1)
      replace p0 := carry hq p0
      replace p1 := carry hq p1
      replace q0 := btr q0 hq
      replace e0 := carry hq e0
      replace e1 := carry hq e1
      have hszX := cell_lt p0
      have hsAX := cell_lt e0
      clear hq
      have hR : RdOk s v0 1 ↔ s = ⟨(ratTxt v0 1).toArray⟩ := ⟨fun h => h.2, fun h => ⟨hv, h⟩⟩
      generalize (⟨(ratTxt v0 1).toArray⟩ : ByteArray) = X at hR ⊢
      have hX := strs_eq X s
      by_cases hk : s = X
      · have hk5 : decide (X = s) = true := by simp [hk]
        obtain ⟨t0_, t1_⟩ := set2 p0 p1 (.int .i64 v0) (.int .i64 1)
        go_wp2
        refine bodyPost_ret (v := .tuple #[.agg #[.int .i64 v0, .int .i64 1], .bool true]) (by simp [results, Tryd.results10, go_sem, t0_, t1_]) rfl ?_
        refine ⟨rdp_of hF ⟨fun h => rfl, fun h => absurd (hR.2 hk) h⟩, ?_⟩
        exact bst (bst q0 (Nat.le_refl _) _) (Nat.le_refl _) _
      · have hk5 : decide (X = s) = false := by simp; exact fun h => hk h.symm
        obtain ⟨t0_, t1_⟩ := set2 p0 p1 (.int .i64 0) (.int .i64 0)
        go_wp2
        refine bodyPost_ret (v := .tuple #[.agg #[.int .i64 0, .int .i64 0], .bool false]) (by simp [results, Tryd.results10, go_sem, t0_, t1_]) rfl ?_
        refine ⟨rdp_of hF ⟨fun h => absurd (hR.1 h) hk, fun h => rfl⟩, ?_⟩
        exact bst (bst q0 (Nat.le_refl _) _) (Nat.le_refl _) _
  | t1 :: ws =>
    have z1 := hZ t1 (by simp)
    obtain ⟨v1, b1, hv1, C1⟩ := lnum_val t1 (by omega)
    replace hF : ∀ n' d', RdOk s n' d' → v0 = n' ∧ v1 = d' := fun n' d' h => by
      have hb := ok_b h.1
      rcases hF n' d' h with ⟨_, h2⟩ | h2
      · injection h2 with _ h3; cases h3
      · injection h2 with h3 h4
        injection h4 with h4 _
        exact ⟨hv0 n' ⟨hb.1, hb.2.1⟩ (by rw [h3, bytes_list]), hv1 d' (by omega) (by rw [h4, bytes_list])⟩
    have hx1 := carry q1 (hcell 1 t1 rfl)
    have hgl3 : g < w3.heap.size := cell_lt hx1
    have dl : decide ((1 : Int) < (((t1 :: ws).length + 1 : Nat) : Int)) = true := by simp; omega
    have hl1 : (1 : Nat) < (t1 :: ws).length + 1 := by simp
    clear hcell hZ C0 hv0 hv1
    generalize (t1 :: ws).length + 1 = L at dl hl1 ⊢
    go_wp2_with fail
    refine (C1 _).mono ?_
    rintro e w4 ⟨rfl, hq⟩
    replace r0 := carryf hq r0 (cell_lt p0)
    replace r1 := carryf hq r1 (cell_lt p1)
    replace p0 := carry hq p0
    replace p1 := carry hq p1
    replace q0 := btr q0 hq
    replace e0 := carry hq e0
    replace e1 := carry hq e1
    have f1 : w4.frozen? ⟨w1.heap.size, 1, none⟩ = false := (hq.frozen (p := ⟨w1.heap.size, 1, none⟩) hsA).trans g1
    have hszY := cell_lt p0
    clear hq hx1
    go_upto_region 6 with fail
    have e0' := (World.cell?_setCell_other w4 ⟨w1.heap.size, 1, none⟩ ⟨w1.heap.size, 0, none⟩ (.int .i64 v1) (by simp)).trans e0
    have e1' := World.cell?_setCell_same w4 ⟨w1.heap.size, 1, none⟩ (.int .i64 v1) e1
    have p0' := (World.cell?_setCell_other w4 ⟨w1.heap.size, 1, none⟩ ⟨w.heap.size, 0, none⟩ (.int .i64 v1) (by simp)).trans p0
    have p1' := (World.cell?_setCell_other w4 ⟨w1.heap.size, 1, none⟩ ⟨w.heap.size, 1, none⟩ (.int .i64 v1) (by simp <;> omega)).trans p1
    replace q0 := bst q0 (p := ⟨w1.heap.size, 1, none⟩) (Nat.le_of_lt hszA) (.int .i64 v1)
    have r0' : (w4.setCell ⟨w1.heap.size, 1, none⟩ (.int .i64 v1)).frozen? ⟨w.heap.size, 0, none⟩ = false := by simpa [go_sem] using r0
    have r1' : (w4.setCell ⟨w1.heap.size, 1, none⟩ (.int .i64 v1)).frozen? ⟨w.heap.size, 1, none⟩ = false := by simpa [go_sem] using r1
    clear e0 e1 p0 p1 f1 C1 g1 q1 dl r0 r1
    have r0 := r0'; have r1 := r1'
    clear r0' r1'
    have e0 := e0'; have e1 := e1'; have p0 := p0'; have p1 := p1'
    clear e0' e1' p0' p1'
    generalize w4.setCell ⟨w1.heap.size, 1, none⟩ (.int .i64 v1) = w5 at *
    have hsz5 := cell_lt p0
    have hsA5 := cell_lt e0
    cases hv : okB v0 v1
    · go_wp2_with fail
      refine (sok_at v0 v1 _ hv).mono ?_
      rintro e w9 ⟨rfl, hq⟩
      replace r0 := carryf hq r0 (cell_lt p0)
      replace r1 := carryf hq r1 (cell_lt p1)
      replace p0 := carry hq p0
      replace p1 := carry hq p1
      replace q0 := btr q0 hq
      obtain ⟨t0_, t1_⟩ := set2 p0 p1 (.int .i64 0) (.int .i64 0)
      go_wp2
      refine bodyPost_ret (v := .tuple #[.agg #[.int .i64 0, .int .i64 0], .bool false]) (by simp [results, Tryd.results10, go_sem, t0_, t1_]) rfl ?_
      refine ⟨rdp_of hF ⟨fun h => ?_, fun _ => rfl⟩, ?_⟩
      · exact absurd (h.1.symm.trans hv) (by simp)
      · exact bst (bst q0 (Nat.le_refl _) _) (Nat.le_refl _) _
    · go_wp2_with fail
      refine (sok_at v0 v1 _ hv).mono ?_
      rintro e w9 ⟨rfl, hq⟩
      replace r0 := carryf hq r0 (cell_lt p0)
      replace r1 := carryf hq r1 (cell_lt p1)
      replace p0 := carry hq p0
      replace p1 := carry hq p1
      replace q0 := btr q0 hq
      replace e0 := carry hq e0
      replace e1 := carry hq e1
      have hsz9 := cell_lt p0
      have hsA9 := cell_lt e0
      clear hq
      go_wp2_with fail
      refine (say_any v0 v1 _).mono ?_
      rintro e w10 ⟨rfl, hq⟩
      replace r0 := carryf hq r0 (cell_lt p0)
      replace r1 := carryf hq r1 (cell_lt p1)
      replace p0 := carry hq p0
      replace p1 := carry hq p1
      replace q0 := btr q0 hq
      replace e0 := carry hq e0
      replace e1 := carry hq e1
      have hszX := cell_lt p0
      have hsAX := cell_lt e0
      clear hq
      have hR : RdOk s v0 v1 ↔ s = ⟨(ratTxt v0 v1).toArray⟩ := ⟨fun h => h.2, fun h => ⟨hv, h⟩⟩
      generalize (⟨(ratTxt v0 v1).toArray⟩ : ByteArray) = X at hR ⊢
      have hX := strs_eq X s
      by_cases hk : s = X
      · have hk5 : decide (X = s) = true := by simp [hk]
        obtain ⟨t0_, t1_⟩ := set2 p0 p1 (.int .i64 v0) (.int .i64 v1)
        go_wp2
        refine bodyPost_ret (v := .tuple #[.agg #[.int .i64 v0, .int .i64 v1], .bool true]) (by simp [results, Tryd.results10, go_sem, t0_, t1_]) rfl ?_
        refine ⟨rdp_of hF ⟨fun h => rfl, fun h => absurd (hR.2 hk) h⟩, ?_⟩
        exact bst (bst q0 (Nat.le_refl _) _) (Nat.le_refl _) _
      · have hk5 : decide (X = s) = false := by simp; exact fun h => hk h.symm
        obtain ⟨t0_, t1_⟩ := set2 p0 p1 (.int .i64 0) (.int .i64 0)
        go_wp2
        refine bodyPost_ret (v := .tuple #[.agg #[.int .i64 0, .int .i64 0], .bool false]) (by simp [results, Tryd.results10, go_sem, t0_, t1_]) rfl ?_
        refine ⟨rdp_of hF ⟨fun h => absurd (hR.1 h) hk, fun h => rfl⟩, ?_⟩
        exact bst (bst q0 (Nat.le_refl _) _) (Nat.le_refl _) _
end Go.Proofs.YthcabejfmoedfaaDoor
