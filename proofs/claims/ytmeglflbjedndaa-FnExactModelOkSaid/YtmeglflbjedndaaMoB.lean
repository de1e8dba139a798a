/- Contracts of the laws' helpers over lists of rows and models: the size, the comparison, the copy. -/
import Derived.Test.YtmeglflbjedndaaMoA
namespace Go.Proofs.Ytmeglflbjedndaa
set_option linter.unusedVariables false
set_option linter.unusedSimpArgs false
open Go.RowKit
/-- what the size of a list of symbols answers -/
def SzMos (w : World) (n : Nat) (L : Mo) (l : Int) (e : Ending) (w' : World) : Prop :=
  ∃ r : Int, e = .returned (.int .i64 r) ∧ (r < 0 ∨ (0 ≤ r ∧ r ≤ l ∧ (n : Int) ≤ l ∧ ∀ k, k < n → (L.N k : Int) ≤ l ∧ ((L.Nm k).size : Int) ≤ l)) ∧ Below w.heap.size w w'
set_option maxRecDepth 100000 in
set_option maxHeartbeats 1000000 in
theorem szmrows_any (A : Option Addr) (n c : Nat) (L : Mo) (l : Int) (w : World) (hn : n ≤ 9223372036854775807) (hl : 0 ≤ l ∧ l ≤ 1048576) (hA : MRows w A n L) :
    Calls Try.prog 76 #[.slice A n c, .int .i64 l] w (SzMos w n L l) := by
  obtain ⟨l1, l2⟩ := hl
  by_cases h : l < n
  · go_enter Try.func76, Try.ntmps76
    go_wp2
    go_ret
    exact ⟨-1, rfl, .inl (by omega), Below.refl _ _⟩
  · have hsub : 0 ≤ l - (n : Int) := by omega
    have H := hid h; clear h
    go_enter Try.func76, Try.ntmps76
    go_wp2
    go_loopw [1, 5] (fun q i wr => ∃ (k : Nat) (r : Int), k ≤ n ∧ i = .int .i64 k ∧ q = .int .i64 r ∧ 0 ≤ r ∧ r ≤ l ∧ Below w.heap.size w wr ∧ ∀ j, j < k → (L.N j : Int) ≤ l ∧ ((L.Nm j).size : Int) ≤ l) (fun _ i _ => n - (intOf i).toNat)
    case atStart => exact ⟨0, l - n, Nat.zero_le _, rfl, rfl, by omega, by omega, Below.refl _ _, fun j hj => by omega⟩
    case round =>
      obtain ⟨k, r, hk, rfl, rfl, r1, r2, hb, hN⟩ := hrel
      have HN := hid hN; clear hN
      by_cases hlt : k < n
      · rcases hA with h0 | ⟨g, off, rfl, hg, hcA⟩
        · omega
        obtain ⟨a, cc, a0, a1, a2, a3, hMk, hNk, hI⟩ := hcA k hlt
        have gg : g < wr.heap.size := Nat.lt_of_lt_of_le hg hb.size
        replace a0 := carry hb a0
        replace a1 := carry hb a1
        replace a2 := carry hb a2
        replace a3 := carry hb a3
        clear hcA hI
        have hS := fun W => szrow_any (L.Nm k) a (L.N k) cc (L.U k) (L.V k) r W hMk hNk ⟨r1, by omega⟩
        go_wp2_with fail
        refine (hS _).mono ?_
        rintro e w1 ⟨r', rfl, hr', hq⟩
        clear hS
        rcases hr' with hr' | ⟨p1, p2, p3, p4⟩
        · go_wp2
          go_ret
          exact ⟨-1, rfl, .inl (by omega), btr hb hq⟩
        · go_wp2
          go_roundw
          case rel =>
            refine ⟨k + 1, r', by omega, by go_num, rfl, p1, by omega, btr hb hq, fun j hj => ?_⟩
            by_cases e : j = k
            · subst e; exact ⟨by omega, by omega⟩
            · exact HN.out j (by omega)
          case measure => simp [intOf]; omega
      · have hke : k = n := by omega
        subst hke
        go_wp2
        go_ret
        exact ⟨r, rfl, .inr ⟨r1, r2, by have := H.out; omega, HN.out⟩, hb⟩
set_option maxHeartbeats 1000000 in
theorem eqmrows_same (A B : Option Addr) (n c d : Nat) (L : Mo) (w : World) (hn : n ≤ 9223372036854775807) (hA : MRows w A n L) (hB : MRows w B n L) :
    Calls Try.prog 81 #[.slice A n c, .slice B n d] w fun e w' => e = .returned (.bool true) ∧ Below w.heap.size w w' := by
  go_enter Try.func81, Try.ntmps81
  go_wp2
  go_loopw [5] (fun i wr => ∃ k : Nat, k ≤ n ∧ i = .int .i64 k ∧ Below w.heap.size w wr) (fun i _ => n - (intOf i).toNat)
  case atStart => exact ⟨0, Nat.zero_le _, rfl, Below.refl _ _⟩
  case round =>
    obtain ⟨k, hk, rfl, hb⟩ := hrel
    by_cases hlt : k < n
    · rcases hA with h0 | ⟨g, off, rfl, hg, hcA⟩
      · omega
      rcases hB with h0 | ⟨g2, off2, rfl, hg2, hcB⟩
      · omega
      obtain ⟨a, ca, a0, a1, a2, a3, _, hNk, hI⟩ := hcA k hlt
      obtain ⟨b, cb, b0, b1, b2, b3, _, _, hJ⟩ := hcB k hlt
      have gg : g < wr.heap.size := Nat.lt_of_lt_of_le hg hb.size
      have gg2 : g2 < wr.heap.size := Nat.lt_of_lt_of_le hg2 hb.size
      replace a0 := carry hb a0
      replace a1 := carry hb a1
      replace a2 := carry hb a2
      replace a3 := carry hb a3
      replace b0 := carry hb b0
      replace b1 := carry hb b1
      replace b2 := carry hb b2
      replace b3 := carry hb b3
      have hE := fun X : Gro wr => eqrow_same (nm := L.Nm k) (c := ca) (d := cb) (u := L.U k) (v := L.V k) (w := gro wr X) hNk ((hI.below hb).below X.h) ((hJ.below hb).below X.h)
      clear hcA hcB hI hJ
      have gc := @gro_cell wr
      go_upto_region 6 with fail
      refine wp_region_grow_lit (by kernel_rfl) (by kernel_rfl) ?_
      repeat (go_big_quiet_step ((go_at_call 148; exact grow_call _ (hE _))))
      refine wpQuiet_nil ?_
      rintro _ ⟨X, rfl⟩
      clear gc
      go_wp2
      go_roundw
      case rel => exact ⟨k + 1, by omega, by go_num, btr hb X.h⟩
      case measure => simp [intOf]; omega
    · have hke : k = n := by omega
      subst hke
      go_wp2
      go_ret
      exact ⟨rfl, hb⟩
/-- a list of n symbols of new memory, handed back -/
def NewMos (w : World) (n : Nat) (L : Mo) (e : Ending) (w' : World) : Prop :=
  ∃ A, e = .returned (.slice A n n) ∧ OwnM2 w w' A n L ∧ Below w.heap.size w w'
set_option maxRecDepth 100000 in
set_option maxHeartbeats 4000000 in
theorem tomrows_any (A : Option Addr) (n c : Nat) (L : Mo) (w : World) (hn : n ≤ 1048576) (hA : MRows w A n L) (hN : SmM n L) :
    Calls Try.prog 78 #[.slice A n c] w (NewMos w n L) := by
  have hmk := run_make_mrows n hn
  have hrow := rowIs_madeMo w (n * 4) 122
  have hb0 : Below w.heap.size w (w.alloc (.cells (madeCells #[.string ⟨#[]⟩, .slice none 0 0, .int .i64 0, .int .i64 0] (n * 4)) 122)) := bal (Below.refl _ _) _
  have HNN := hid hN; clear hN
  go_enter Try.func78, Try.ntmps78
  go_wp2
  clear hmk
  go_loopw [4] (fun i wr => ∃ (k : Nat) (LA : Nat → Option Addr) (LC : Nat → Nat), k ≤ n ∧ i = .int .i64 k ∧ Below w.heap.size w wr ∧ wr.rowIs w.heap.size 122 (n * 4) (fun j => if j < k * 4 then moV LA LC L j else zeroMo j) ∧ ∀ i, i < k → L.N i ≤ LC i ∧ LC i ≤ 9223372036854775807 ∧ OwnR (w.alloc (.cells #[] 122)) wr (LA i) (L.N i) (L.P i) (L.Q i)) (fun i _ => n - (intOf i).toNat)
  case atStart => exact ⟨0, fun _ => none, fun _ => 0, Nat.zero_le _, rfl, hb0, hrow.congr fun i hi => by simp, fun i hi => by omega⟩
  case round =>
    obtain ⟨k, LA, LC, hk, rfl, hb, hr, ho⟩ := hrel
    have HO := hid ho; clear ho
    clear hrow hb0
    by_cases hlt : k < n
    · rcases hA with h0 | ⟨g, off, rfl, hg, hcA⟩
      · omega
      obtain ⟨a, ca, a0, a1, a2, a3, _, _, hI⟩ := hcA k hlt
      have hNk := (HNN.out k hlt).1
      have gg : g < wr.heap.size := Nat.lt_of_lt_of_le hg hb.size
      replace a0 := carry hb a0
      replace a1 := carry hb a1
      replace a2 := carry hb a2
      replace a3 := carry hb a3
      replace hI := hI.below hb
      have hS : w.heap.size < wr.heap.size := hr.lt
      clear hcA
      go_wp2_with (go_at_call 146; refine (torow_any (L.Nm k) a (L.N k) ca (L.P k) (L.Q k) (L.U k) (L.V k) _ hNk hI).mono ?_; rintro e w1 ⟨v, rfl, ⟨A3, c3, rfl, hc3, hc4, O3⟩, hq⟩; have hr1 := row_below hr hq; have d0 : w1.cell? ⟨w.heap.size, k * 4, none⟩ = some (.string ⟨#[]⟩) := ((hr1.cell (by omega)).trans (by rw [if_neg (by omega)]; unfold zeroMo; rw [if_pos (by omega)])); have d1 : w1.cell? ⟨w.heap.size, k * 4 + 1, none⟩ = some (.slice none 0 0) := ((hr1.cell (by omega)).trans (by rw [if_neg (by omega)]; unfold zeroMo; rw [if_neg (by omega), if_pos (by omega)])); have d2 : w1.cell? ⟨w.heap.size, k * 4 + 2, none⟩ = some (.int .i64 0) := ((hr1.cell (by omega)).trans (by rw [if_neg (by omega)]; unfold zeroMo; rw [if_neg (by omega), if_neg (by omega)])); have d3 : w1.cell? ⟨w.heap.size, k * 4 + 3, none⟩ = some (.int .i64 0) := ((hr1.cell (by omega)).trans (by rw [if_neg (by omega)]; unfold zeroMo; rw [if_neg (by omega), if_neg (by omega)])); have e0 : w1.frozen? ⟨w.heap.size, k * 4, none⟩ = false := hr1.frozen _; have e1 : w1.frozen? ⟨w.heap.size, k * 4 + 1, none⟩ = false := hr1.frozen _; have e2 : w1.frozen? ⟨w.heap.size, k * 4 + 2, none⟩ = false := hr1.frozen _; have e3 : w1.frozen? ⟨w.heap.size, k * 4 + 3, none⟩ = false := hr1.frozen _)
      go_roundw
      case rel =>
        refine ⟨k + 1, fun i => if i = k then A3 else LA i, fun i => if i = k then c3 else LC i, by omega, by go_num, bst (bst (bst (bst (btr hb hq) (Nat.le_refl _) _) (Nat.le_refl _) _) (Nat.le_refl _) _) (Nat.le_refl _) _, ((((hr1.set (k * 4) _).set (k * 4 + 1) _).set (k * 4 + 2) _).set (k * 4 + 3) _).congr fun j hj => ?_, fun i hi => ?_⟩
        · by_cases ed : j = k * 4 + 3
          · subst ed; rw [if_pos rfl, if_pos (by omega), moV_3]
          · rw [if_neg ed]
            by_cases ec : j = k * 4 + 2
            · subst ec; rw [if_pos rfl, if_pos (by omega), moV_2]
            · rw [if_neg ec]
              by_cases eb : j = k * 4 + 1
              · subst eb; rw [if_pos rfl, if_pos (by omega), moV_1]; simp
              · rw [if_neg eb]
                by_cases ea : j = k * 4
                · subst ea; rw [if_pos rfl, if_pos (by omega), moV_0]
                · rw [if_neg ea]
                  by_cases e2 : j < k * 4
                  · rw [if_pos e2, if_pos (by omega), moV_old (by omega)]
                  · rw [if_neg e2, if_neg (by omega)]
        · by_cases e : i = k
          · subst e
            simp only [if_true]
            exact ⟨hc3, hc4, ((((O3.old (by simp; omega)).set _ (by simp)).set _ (by simp)).set _ (by simp)).set _ (by simp)⟩
          · simp only [if_neg e]
            obtain ⟨h1, h2, h3⟩ := HO.out i (by omega)
            exact ⟨h1, h2, ((((h3.below hq).set _ (by simp)).set _ (by simp)).set _ (by simp)).set _ (by simp)⟩
      case measure => simp [intOf]; omega
    · have hke : k = n := by omega
      subst hke
      go_wp2
      go_ret
      exact ⟨_, rfl, ⟨w.heap.size, LA, LC, rfl, Nat.le_refl _, hr.congr (fun j hj => by rw [if_pos hj]), fun i hi => ⟨(HO.out i hi).1, (HO.out i hi).2.1, (HO.out i hi).2.2.old (by simp)⟩⟩, hb⟩
theorem szmodel_any (A : Option Addr) (n c : Nat) (L : Mo) (l : Int) (w : World) (hn : n ≤ 9223372036854775807) (hl : 0 ≤ l ∧ l ≤ 1048576) (hA : MRows w A n L) :
    Calls Try.prog 15 #[.agg #[.slice A n c], .int .i64 l] w (SzMos w n L l) := by
  have hS := fun W (hb : Below w.heap.size w W) => szmrows_any A n c L l W hn hl (hA.below hb)
  go_enter Try.func15, Try.ntmps15
  go_wp2_with fail
  refine (hS _ (bal (Below.refl _ _) _)).mono ?_
  rintro e w1 ⟨r, rfl, hr, hq⟩
  rcases hr with hr | ⟨p1, p2, p3, p4⟩
  · go_wp2
    go_ret
    exact ⟨-1, rfl, .inl (by omega), btr (bal (Below.refl _ _) _) hq⟩
  · have H := hid p4; clear p4
    go_wp2
    go_ret
    exact ⟨_, rfl, .inr ⟨p1, p2, p3, H.out⟩, btr (bal (Below.refl _ _) _) hq⟩
/-- a vocabulary of new memory, handed back -/
def NewMd (w : World) (n : Nat) (L : Mo) (e : Ending) (w' : World) : Prop :=
  ∃ A, e = .returned (.agg #[.slice A n n]) ∧ OwnM2 w w' A n L ∧ Below w.heap.size w w'
theorem OwnM2.old {W W1 w : World} {A : Option Addr} {n : Nat} {L : Mo} (hb : W.heap.size ≤ W1.heap.size) (h : OwnM2 W1 w A n L) : OwnM2 W w A n L := by
  obtain ⟨g, LA, LC, ha, hg, hr, hc⟩ := h
  exact ⟨g, LA, LC, ha, Nat.le_trans hb hg, hr, fun k hk => ⟨(hc k hk).1, (hc k hk).2.1, (hc k hk).2.2.old hb⟩⟩
theorem OwnM2.set {W w : World} {A : Option Addr} {n : Nat} {L : Mo} {p o : Nat} (v : Value) (hp : p < W.heap.size) (h : OwnM2 W w A n L) : OwnM2 W (w.setCell ⟨p, o, none⟩ v) A n L := by
  obtain ⟨g, LA, LC, ha, hg, hr, hc⟩ := h
  exact ⟨g, LA, LC, ha, hg, hr.setOther (by simp; omega) _, fun k hk => ⟨(hc k hk).1, (hc k hk).2.1, (hc k hk).2.2.set v hp⟩⟩
set_option maxHeartbeats 1000000 in
theorem tomodel_any (A : Option Addr) (n c : Nat) (L : Mo) (w : World) (hn : n ≤ 1048576) (hA : MRows w A n L) (hN : SmM n L) :
    Calls Try.prog 17 #[.agg #[.slice A n c]] w (NewMd w n L) := by
  have hT := fun W (hb : Below w.heap.size w W) => tomrows_any A n c L W hn (hA.below hb) hN
  clear hA hN
  go_enter Try.func17, Try.ntmps17
  go_wp2_with fail
  refine (hT _ (bal (bal (bal (Below.refl _ _) _) _) _)).mono ?_
  rintro e w1 ⟨A', rfl, hO, hq⟩
  obtain ⟨hc, hf⟩ := bcell hq
  clear hT
  go_wp2
  have e0 : w1.cell? ⟨w.heap.size + 1, 0, none⟩ = some (.slice none 0 0) := by rw [hc _ _ (by simp <;> omega)]; simp [go_sem]
  have t0 : ((w1.setCell ⟨w.heap.size + 1 + 1, 0, none⟩ (.slice A' n n)).setCell ⟨w.heap.size + 1, 0, none⟩ (.slice A' n n)).cell? ⟨w.heap.size + 1, 0, none⟩ = some (.slice A' n n) :=
    World.cell?_setCell_same _ _ _ (by rw [World.cell?_setCell_other _ _ _ _ (by simp)]; exact e0)
  clear hc hf
  have l2 : w.heap.size + 1 + 1 < (((w.alloc (.cells #[.slice A n c] 24)).alloc (.cells #[.slice none 0 0] 29)).alloc (.cells #[.slice none 0 0] 29)).heap.size := by simp
  have l1 : w.heap.size + 1 < (((w.alloc (.cells #[.slice A n c] 24)).alloc (.cells #[.slice none 0 0] 29)).alloc (.cells #[.slice none 0 0] 29)).heap.size := by simp
  have hO2 := (hO.set (o := 0) (.slice A' n n) l2).set (o := 0) (.slice A' n n) l1
  refine bodyPost_ret (v := .agg #[.slice A' n n]) (by simp [results, Try.results17, go_sem, t0]) rfl ⟨A', rfl, hO2.old (by simp <;> omega), ?_⟩
  clear t0 e0 hO hO2 l1 l2
  (repeat first | with_reducible exact Below.refl _ _ | with_reducible assumption | with_reducible refine Below.drew ?_ | with_reducible refine bdn ?_ _ | with_reducible refine bal ?_ _ | (with_reducible refine bst ?_ ?_ _; rotate_left; (simp <;> omega)) | (with_reducible refine btr ?_ (by with_reducible assumption)))
theorem eqmodel_same {A B : Option Addr} {n c d : Nat} {L : Mo} {w : World} (hn : n ≤ 9223372036854775807) (hA : MRows w A n L) (hB : MRows w B n L) :
    Calls Try.prog 19 #[.agg #[.slice A n c], .agg #[.slice B n d]] w fun e w' => e = .returned (.bool true) ∧ Below w.heap.size w w' := by
  have hS := fun W (hb : Below w.heap.size w W) => eqmrows_same A B n c d L W hn (hA.below hb) (hB.below hb)
  clear hA hB hn
  go_enter Try.func19, Try.ntmps19
  go_wp2_with fail
  refine (hS _ (bal (bal (Below.refl _ _) _) _)).mono ?_
  rintro e w1 ⟨rfl, hq⟩
  go_wp2
  go_ret
  exact ⟨rfl, btr (bal (bal (Below.refl _ _) _) _) hq⟩
end Go.Proofs.Ytmeglflbjedndaa
