/- Lists of rows of integers and formulas in conjunctive normal form that are read; the laws' helpers over them. -/
import Derived.Test.YtjnngijilkdhbaaCbA
import Derived.Test.YtjnngijilkdhbaaCaW
import Derived.Test.YtjnngijilkdhbaaBL
namespace Go.Proofs.Ytjnngijilkdhbaa
set_option linter.unusedVariables false
set_option linter.unusedSimpArgs false
open Go.RowKit
/-- what a list of rows says -/
structure Lls where
  N : Nat → Nat
  Z : Nat → Nat → Int
/-- the slice of n rows at A reads as L -/
def IntSS (w : World) (A : Option Addr) (n : Nat) (L : Lls) : Prop :=
  n = 0 ∨ ∃ g off, A = some ⟨g, off, none⟩ ∧ g < w.heap.size ∧ ∀ k, k < n → ∃ a c, w.cell? ⟨g, off + k, none⟩ = some (.slice a (L.N k) c) ∧ L.N k ≤ 9223372036854775807 ∧ Ints w a (L.N k) (L.Z k)
theorem IntSS.below {w w1 : World} {A : Option Addr} {n : Nat} {L : Lls} (h : IntSS w A n L) (hb : Below w.heap.size w w1) : IntSS w1 A n L := by
  rcases h with h | ⟨g, off, ha, hg, hc⟩
  · exact .inl h
  · refine .inr ⟨g, off, ha, Nat.lt_of_lt_of_le hg hb.size, fun k hk => ?_⟩
    obtain ⟨a, c, h0, h3, h4⟩ := hc k hk
    exact ⟨a, c, carry hb h0, h3, h4.below hb⟩
set_option maxHeartbeats 1000000 in
theorem szintss_any (A : Option Addr) (n c : Nat) (L : Lls) (l : Int) (w : World) (hn : n ≤ 9223372036854775807) (hl : 0 ≤ l ∧ l ≤ 1048576) (hA : IntSS w A n L) :
    Calls Try.prog 8 #[.slice A n c, .int .i64 l] w fun e w' => (∃ r : Int, e = .returned (.int .i64 r) ∧ (r < 0 ∨ (0 ≤ r ∧ r ≤ l ∧ (n : Int) ≤ l ∧ ∀ k, k < n → (L.N k : Int) ≤ l))) ∧ w = w' := by
  obtain ⟨l1, l2⟩ := hl
  by_cases h : l < n
  · go_enter Try.func8, Try.ntmps8
    go_wp2
    go_ret
    exact ⟨⟨-1, rfl, .inl (by omega)⟩, rfl⟩
  · have hsub : 0 ≤ l - (n : Int) := by omega
    have H := hid h; clear h
    go_enter Try.func8, Try.ntmps8
    go_wp2
    go_loop [1, 5] (fun q i => ∃ (k : Nat) (r : Int), k ≤ n ∧ i = .int .i64 k ∧ q = .int .i64 r ∧ 0 ≤ r ∧ r ≤ l ∧ ∀ j, j < k → (L.N j : Int) ≤ l) (fun _ i => n - (intOf i).toNat)
    case atStart => exact ⟨0, l - n, Nat.zero_le _, rfl, rfl, by omega, by omega, fun j hj => by omega⟩
    case round =>
      obtain ⟨k, r, hk, rfl, rfl, r1, r2, hN⟩ := hrel
      have HN := hid hN; clear hN
      by_cases hlt : k < n
      · rcases hA with h0 | ⟨g, off, rfl, hg, hcA⟩
        · omega
        obtain ⟨a, cc, a0, hNk, hI⟩ := hcA k hlt
        clear hcA hI
        have hS := fun W => szints_any a (L.N k) cc r W (by omega) ⟨r1, by omega⟩
        by_cases hb2 : r < (L.N k : Int)
        · rw [if_pos hb2] at hS
          clear hb2
          go_wp2_with (go_at_call 31; refine (hS _).mono ?_; rintro e w1 ⟨rfl, rfl⟩)
          go_ret
          exact ⟨⟨-1, rfl, .inl (by omega)⟩, rfl⟩
        · rw [if_neg hb2] at hS
          have h3 : 0 ≤ r - (L.N k : Int) := by omega
          have H2 := hid hb2; clear hb2
          go_wp2_with (go_at_call 31; refine (hS _).mono ?_; rintro e w1 ⟨rfl, rfl⟩)
          go_round
          case rel =>
            refine ⟨k + 1, r - L.N k, by omega, by go_num, rfl, h3, by omega, fun j hj => ?_⟩
            by_cases e : j = k
            · subst e; have := H2.out; omega
            · exact HN.out j (by omega)
          case measure => simp [intOf]; omega
      · have hke : k = n := by omega
        subst hke
        go_wp2
        go_ret
        exact ⟨⟨r, rfl, .inr ⟨r1, r2, by have := H.out; omega, HN.out⟩⟩, rfl⟩
set_option maxHeartbeats 1000000 in
theorem eqintss_same (A B : Option Addr) (n c d : Nat) (L : Lls) (w : World) (hn : n ≤ 9223372036854775807) (hA : IntSS w A n L) (hB : IntSS w B n L) :
    Calls Try.prog 12 #[.slice A n c, .slice B n d] w fun e w' => e = .returned (.bool true) ∧ Below w.heap.size w w' := by
  go_enter Try.func12, Try.ntmps12
  go_wp2
  go_loopw [5] (fun i wr => ∃ k : Nat, k ≤ n ∧ i = .int .i64 k ∧ Below w.heap.size w wr) (fun i _ => n - (intOf i).toNat)
  case atStart => exact ⟨0, Nat.zero_le _, rfl, Below.refl _ _⟩
  case round =>
    obtain ⟨k, hk, rfl, hb⟩ := hrel
    by_cases hlt : k < n
    · rcases hA with h0 | ⟨g, off, rfl, hg, hcA⟩
      · omega
      rcases hB with h0 | ⟨g2, off2, rfl, hg2, hcB⟩
      · omega
      obtain ⟨a, ca, a0, hNk, hI⟩ := hcA k hlt
      obtain ⟨b, cb, b0, _, hJ⟩ := hcB k hlt
      have gg : g < wr.heap.size := Nat.lt_of_lt_of_le hg hb.size
      have gg2 : g2 < wr.heap.size := Nat.lt_of_lt_of_le hg2 hb.size
      replace a0 := carry hb a0
      replace b0 := carry hb b0
      have hE := fun X : Gro wr => eqints_same (c := ca) (d := cb) (w := gro wr X) (by omega) ((hI.below hb).below X.h) ((hJ.below hb).below X.h)
      clear hcA hcB hI hJ
      have gc := @gro_cell wr
      go_upto_region 6 with fail
      refine wp_region_grow_lit (by kernel_rfl) (by kernel_rfl) ?_
      repeat (go_big_quiet_step ((go_at_call 26; exact grow_call _ (hE _))))
      refine wpQuiet_nil ?_
      rintro _ ⟨X, rfl⟩
      clear gc
      go_wp2
      go_roundw
      case rel => exact ⟨k + 1, by omega, by go_num, btr hb X.h⟩
      case measure => simp [intOf]; omega
    · have hke : k = n := by omega
      subst hke
      go_wp2
      go_ret
      exact ⟨rfl, hb⟩
theorem infoIS : (Try.prog.info? 38).map (fun i => (i.zero, i.size, i.bytes)) = some (some (.slice none 0 0), 1, 24) := by kernel_rfl
theorem own_rowC {W w1 : World} {g n : Nat} {t : TypeId} {Z : Nat → Int} (hg : W.heap.size ≤ g) (hr : w1.rowIs g t n (fun k => .int .i64 (Z k))) : OwnI W w1 (some ⟨g, 0, none⟩) n Z :=
  .inr ⟨g, rfl, hg, hr.lt, fun k hk => ⟨hr.cell hk, hr.frozen k⟩⟩
theorem OwnI.ints' {W w : World} {A : Option Addr} {n : Nat} {Z : Nat → Int} (h : OwnI W w A n Z) : Ints w A n Z := by
  rcases h with h | ⟨g, ha, _, hg, hc⟩
  · exact .inl h
  · exact .inr ⟨g, 0, ha, hg, fun k hk => by rw [Nat.zero_add]; exact (hc k hk).1⟩
/-- a list of n rows, all of memory new since W -/
def OwnSS (W w : World) (A : Option Addr) (n : Nat) (L : Lls) : Prop :=
  ∃ (g : Nat) (LA : Nat → Option Addr) (LC : Nat → Nat), A = some ⟨g, 0, none⟩ ∧ W.heap.size ≤ g ∧ w.rowIs g 38 n (fun j => .slice (LA j) (L.N j) (LC j)) ∧ ∀ k, k < n → OwnI W w (LA k) (L.N k) (L.Z k)
theorem OwnSS.intss {W w : World} {A : Option Addr} {n : Nat} {L : Lls} (h : OwnSS W w A n L) (hN : ∀ k, k < n → L.N k ≤ 1048576) : IntSS w A n L := by
  obtain ⟨g, LA, LC, ha, hg, hr, hc⟩ := h
  exact .inr ⟨g, 0, ha, hr.lt, fun k hk => ⟨LA k, LC k, by rw [Nat.zero_add]; exact hr.cell hk, by have := hN k hk; omega, (hc k hk).ints'⟩⟩
theorem OwnSS.below {W w w' : World} {A : Option Addr} {n : Nat} {L : Lls} (hb : Below w.heap.size w w') (h : OwnSS W w A n L) : OwnSS W w' A n L := by
  obtain ⟨g, LA, LC, ha, hg, hr, hc⟩ := h
  exact ⟨g, LA, LC, ha, hg, row_below hr hb, fun k hk => (hc k hk).below hb⟩
theorem OwnSS.set {W w : World} {A : Option Addr} {n : Nat} {L : Lls} {p o : Nat} (v : Value) (hp : p < W.heap.size) (h : OwnSS W w A n L) : OwnSS W (w.setCell ⟨p, o, none⟩ v) A n L := by
  obtain ⟨g, LA, LC, ha, hg, hr, hc⟩ := h
  exact ⟨g, LA, LC, ha, hg, hr.setOther (by simp <;> omega) _, fun k hk => (hc k hk).set v hp⟩
theorem OwnSS.old {W W1 w : World} {A : Option Addr} {n : Nat} {L : Lls} (hb : W.heap.size ≤ W1.heap.size) (h : OwnSS W1 w A n L) : OwnSS W w A n L := by
  obtain ⟨g, LA, LC, ha, hg, hr, hc⟩ := h
  exact ⟨g, LA, LC, ha, Nat.le_trans hb hg, hr, fun k hk => (hc k hk).old hb⟩
def NewSS (w : World) (n : Nat) (L : Lls) (e : Ending) (w' : World) : Prop :=
  ∃ A, e = .returned (.slice A n n) ∧ OwnSS w w' A n L ∧ Below w.heap.size w w'
set_option maxRecDepth 100000 in
set_option maxHeartbeats 4000000 in
theorem tointss_any (A : Option Addr) (n c : Nat) (L : Lls) (w : World) (hn : n ≤ 1048576) (hA : IntSS w A n L) (hN : ∀ k, k < n → L.N k ≤ 1048576) :
    Calls Try.prog 10 #[.slice A n c] w (NewSS w n L) := by
  have hmk := run_make_row' (P := Try.prog) 22 38 (.slice none 0 0) 24 Try.underlying22 infoIS rfl .i64 .i64 n (by omega) (by omega)
  have hrow := World.rowIs_made w (.slice none 0 0) n 38
  have hb0 : Below w.heap.size w (w.alloc (.cells (madeCells #[.slice none 0 0] n) 38)) := bal (Below.refl _ _) _
  have HNN := hid hN; clear hN
  go_enter Try.func10, Try.ntmps10
  go_wp2
  clear hmk
  go_loopw [4] (fun i wr => ∃ (k : Nat) (LA : Nat → Option Addr) (LC : Nat → Nat), k ≤ n ∧ i = .int .i64 k ∧ Below w.heap.size w wr ∧ wr.rowIs w.heap.size 38 n (fun j => if j < k then .slice (LA j) (L.N j) (LC j) else .slice none 0 0) ∧ ∀ i, i < k → OwnI (w.alloc (.cells #[] 38)) wr (LA i) (L.N i) (L.Z i)) (fun i _ => n - (intOf i).toNat)
  case atStart => exact ⟨0, fun _ => none, fun _ => 0, Nat.zero_le _, rfl, hb0, hrow.congr fun i hi => by simp, fun i hi => by omega⟩
  case round =>
    obtain ⟨k, LA, LC, hk, rfl, hb, hr, ho⟩ := hrel
    have HO := hid ho; clear ho
    clear hrow hb0
    by_cases hlt : k < n
    · rcases hA with h0 | ⟨g, off, rfl, hg, hcA⟩
      · omega
      obtain ⟨a, ca, a0, _, hI⟩ := hcA k hlt
      have hNk := HNN.out k hlt
      have gg : g < wr.heap.size := Nat.lt_of_lt_of_le hg hb.size
      replace a0 := carry hb a0
      replace hI := hI.below hb
      have hS : w.heap.size < wr.heap.size := hr.lt
      clear hcA
      go_wp2_with (go_at_call 24; refine (toints_any a (L.N k) ca (L.Z k) _ hNk hI).mono ?_; rintro e w1 ⟨g3, rfl, hg3, r3, hq⟩; have hr1 := row_below hr hq; have d0 : w1.cell? ⟨w.heap.size, k, none⟩ = some (.slice none 0 0) := ((hr1.cell (by omega)).trans (by rw [if_neg (by omega)])); have e0 : w1.frozen? ⟨w.heap.size, k, none⟩ = false := hr1.frozen _)
      go_roundw
      case rel =>
        refine ⟨k + 1, fun i => if i = k then some ⟨g3, 0, none⟩ else LA i, fun i => if i = k then L.N k else LC i, by omega, by go_num, bst (btr hb hq) (Nat.le_refl _) _, (hr1.set k _).congr fun j hj => ?_, fun i hi => ?_⟩
        · by_cases e : j = k
          · subst e; simp
          · simp only [if_neg e]
            by_cases e2 : j < k
            · rw [if_pos e2, if_pos (by omega)]
            · rw [if_neg e2, if_neg (by omega)]
        · by_cases e : i = k
          · subst e
            simp only [if_true]
            exact (own_rowC (W := w.alloc (.cells #[] 38)) (by simp; omega) r3).set _ (by simp)
          · simp only [if_neg e]
            exact ((HO.out i (by omega)).below hq).set _ (by simp)
      case measure => simp [intOf]; omega
    · have hke : k = n := by omega
      subst hke
      go_wp2
      go_ret
      exact ⟨_, rfl, ⟨w.heap.size, LA, LC, rfl, Nat.le_refl _, hr.congr (fun j hj => by rw [if_pos hj]), fun i hi => (HO.out i hi).old (by simp)⟩, hb⟩
theorem set2c {w1 : World} {b : Nat} {u0 u1 : Value} (h0 : w1.cell? ⟨b, 0, none⟩ = some u0) (h1 : w1.cell? ⟨b, 1, none⟩ = some u1) (x0 x1 : Value) :
    ((w1.setCell ⟨b, 0, none⟩ x0).setCell ⟨b, 1, none⟩ x1).cell? ⟨b, 0, none⟩ = some x0 ∧ ((w1.setCell ⟨b, 0, none⟩ x0).setCell ⟨b, 1, none⟩ x1).cell? ⟨b, 1, none⟩ = some x1 := by
  refine ⟨?_, ?_⟩
  · rw [World.cell?_setCell_other _ _ _ _ (by simp)]; exact World.cell?_setCell_same _ _ _ h0
  · exact World.cell?_setCell_same _ _ _ (by rw [World.cell?_setCell_other _ _ _ _ (by simp)]; exact h1)
set_option maxHeartbeats 1000000 in
theorem szcnf_any (A : Option Addr) (n c : Nat) (L : Lls) (m l : Int) (w : World) (hn : n ≤ 9223372036854775807) (hl : 0 ≤ l ∧ l ≤ 1048576) (hA : IntSS w A n L) :
    Calls Try.prog 13 #[.agg #[.int .i64 m, .slice A n c], .int .i64 l] w fun e w' => (∃ r : Int, e = .returned (.int .i64 r) ∧ (r < 0 ∨ (0 ≤ r ∧ r ≤ l ∧ (n : Int) ≤ l ∧ ∀ k, k < n → (L.N k : Int) ≤ l))) ∧ Below w.heap.size w w' := by
  have hS := fun W (hb : Below w.heap.size w W) => szintss_any A n c L l W hn hl (hA.below hb)
  have q0 := bal (Below.refl w.heap.size w) (.cells #[.int .i64 m, .slice A n c] 28)
  clear hA
  go_enter Try.func13, Try.ntmps13
  go_wp2_with fail
  refine (hS _ q0).mono ?_
  rintro e w1 ⟨⟨r, rfl, hr⟩, rfl⟩
  by_cases h : r < 0
  · have d1 : decide (r < 0) = true := by simpa using h
    go_wp2
    go_ret
    exact ⟨⟨-1, rfl, .inl (by omega)⟩, q0⟩
  · have d1 : decide (r < 0) = false := by simpa using h
    have hr' := hid (hr.resolve_left h)
    clear hr h
    go_wp2
    go_ret
    exact ⟨⟨r, rfl, .inr hr'.out⟩, q0⟩
set_option maxHeartbeats 1000000 in
theorem eqcnf_same (A B : Option Addr) (n c d : Nat) (L : Lls) (m : Int) (w : World) (hn : n ≤ 9223372036854775807) (hA : IntSS w A n L) (hB : IntSS w B n L) :
    Calls Try.prog 17 #[.agg #[.int .i64 m, .slice A n c], .agg #[.int .i64 m, .slice B n d]] w fun e w' => e = .returned (.bool true) ∧ Below w.heap.size w w' := by
  have hE := fun W (hb : Below w.heap.size w W) => eqintss_same A B n c d L W hn (hA.below hb) (hB.below hb)
  clear hA hB
  have d1 : (m != m) = false := by simp
  go_enter Try.func17, Try.ntmps17
  go_wp2_with fail
  refine (hE _ (bal (bal (Below.refl _ _) _) _)).mono ?_
  rintro e w1 ⟨rfl, hq⟩
  go_wp2_with fail
  go_ret
  exact ⟨rfl, btr (bal (bal (Below.refl _ _) _) _) hq⟩
/-- a copy of a formula, of new memory -/
def NewCnf (w : World) (m : Int) (n : Nat) (L : Lls) (e : Ending) (w' : World) : Prop :=
  ∃ A, e = .returned (.agg #[.int .i64 m, .slice A n n]) ∧ OwnSS w w' A n L ∧ Below w.heap.size w w'
set_option maxHeartbeats 1000000 in
theorem tocnf_any (A : Option Addr) (n c : Nat) (L : Lls) (m : Int) (w : World) (hn : n ≤ 1048576) (hA : IntSS w A n L) (hN : ∀ k, k < n → L.N k ≤ 1048576) :
    Calls Try.prog 15 #[.agg #[.int .i64 m, .slice A n c]] w (NewCnf w m n L) := by
  have hT := fun W (hb : Below w.heap.size w W) => tointss_any A n c L W hn (hA.below hb) hN
  clear hA hN
  go_enter Try.func15, Try.ntmps15
  go_wp2_with fail
  refine (hT _ (by (repeat first | with_reducible exact Below.refl _ _ | with_reducible assumption | with_reducible refine Below.drew ?_ | with_reducible refine bdn ?_ _ | with_reducible refine bal ?_ _ | (with_reducible refine bst ?_ ?_ _; rotate_left; (simp <;> omega)) | (with_reducible refine btr ?_ (by with_reducible assumption))))).mono ?_
  rintro e w1 ⟨A1, rfl, hO, hq⟩
  obtain ⟨hc, hf⟩ := bcell hq
  clear hT
  go_wp2
  have e0 : w1.cell? ⟨w.heap.size + 1, 0, none⟩ = some (.int .i64 0) := by rw [hc _ _ (by simp <;> omega)]; simp [go_sem]
  have e1 : w1.cell? ⟨w.heap.size + 1, 1, none⟩ = some (.slice none 0 0) := by rw [hc _ _ (by simp <;> omega)]; simp [go_sem]
  have hne : w.heap.size + 1 + 1 ≠ w.heap.size + 1 := by omega
  replace e0 : (w1.setCell ⟨w.heap.size + 1 + 1, 1, none⟩ (.slice A1 n n)).cell? ⟨w.heap.size + 1, 0, none⟩ = some (.int .i64 0) := by rw [World.cell?_setCell_other _ _ _ _ (by simp <;> omega)]; exact e0
  replace e1 : (w1.setCell ⟨w.heap.size + 1 + 1, 1, none⟩ (.slice A1 n n)).cell? ⟨w.heap.size + 1, 1, none⟩ = some (.slice none 0 0) := by rw [World.cell?_setCell_other _ _ _ _ (by simp <;> omega)]; exact e1
  obtain ⟨t0, t1⟩ := set2c e0 e1 (.int .i64 m) (.slice A1 n n)
  clear hc hf
  have l2 : w.heap.size + 1 + 1 < (((w.alloc (.cells #[.int .i64 m, .slice A n c] 28)).alloc (.cells #[.int .i64 0, .slice none 0 0] 31)).alloc (.cells #[.int .i64 m, .slice none 0 0] 31)).heap.size := by simp
  have l1 : w.heap.size + 1 < (((w.alloc (.cells #[.int .i64 m, .slice A n c] 28)).alloc (.cells #[.int .i64 0, .slice none 0 0] 31)).alloc (.cells #[.int .i64 m, .slice none 0 0] 31)).heap.size := by simp
  have hO2 := ((hO.set (o := 1) (.slice A1 n n) l2).set (o := 0) (.int .i64 m) l1).set (o := 1) (.slice A1 n n) l1
  refine bodyPost_ret (v := .agg #[.int .i64 m, .slice A1 n n]) (by simp [results, Try.results15, go_sem, t0, t1]) rfl ⟨A1, rfl, hO2.old (by simp <;> omega), ?_⟩
  clear t0 t1 e0 e1 hO hO2 l1 l2
  (repeat first | with_reducible exact Below.refl _ _ | with_reducible assumption | with_reducible refine Below.drew ?_ | with_reducible refine bdn ?_ _ | with_reducible refine bal ?_ _ | (with_reducible refine bst ?_ ?_ _; rotate_left; (simp <;> omega)) | (with_reducible refine btr ?_ (by with_reducible assumption)))
end Go.Proofs.Ytjnngijilkdhbaa
