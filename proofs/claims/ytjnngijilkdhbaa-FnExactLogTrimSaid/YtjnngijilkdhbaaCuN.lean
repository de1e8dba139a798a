/- Copies of lists of rows, each in a block of its own; marks in them. -/
import Derived.Test.YtjnngijilkdhbaaCcA
import Derived.Test.YtjnngijilkdhbaaFarO
namespace Go.Proofs.Ytjnngijilkdhbaa
set_option linter.unusedVariables false
set_option linter.unusedSimpArgs false
open Go.RowKit
/-- the first k rows lie in blocks apart -/
def DisA (k : Nat) (LA : Nat → Option Addr) (w : World) : Prop := (∀ i, i < k → ∃ g, LA i = some ⟨g, 0, none⟩ ∧ g < w.heap.size) ∧ ∀ i j, i < k → j < k → i ≠ j → LA i ≠ LA j
theorem DisA.zero (LA : Nat → Option Addr) (w : World) : DisA 0 LA w := ⟨fun i hi => absurd hi (by omega), fun i j hi => absurd hi (by omega)⟩
theorem DisA.push {k g : Nat} {LA : Nat → Option Addr} {w w1 : World} (h : DisA k LA w) (hg : w.heap.size ≤ g) (hg1 : g < w1.heap.size) : DisA (k + 1) (fun i => if i = k then some ⟨g, 0, none⟩ else LA i) w1 := by
  refine ⟨fun i hi => ?_, fun i j hi hj hne => ?_⟩
  · by_cases e : i = k
    · exact ⟨g, by simp only [if_pos e], hg1⟩
    · obtain ⟨g2, e2, h2⟩ := h.1 i (by omega)
      exact ⟨g2, by simp only [if_neg e]; exact e2, by omega⟩
  · have key : ∀ i, i < k → LA i ≠ some ⟨g, 0, none⟩ := fun i hi e => by
      obtain ⟨g2, e2, h2⟩ := h.1 i hi
      rw [e] at e2
      injection e2 with e2
      injection e2 with e2 _ _
      omega
    simp only
    by_cases e : i = k
    · rw [if_pos e, if_neg (by omega)]
      exact fun e2 => key j (by omega) e2.symm
    · rw [if_neg e]
      by_cases e3 : j = k
      · rw [if_pos e3]; exact key i (by omega)
      · rw [if_neg e3]; exact h.2 i j (by omega) (by omega) hne
theorem DisA.set {k : Nat} {LA : Nat → Option Addr} {w : World} (h : DisA k LA w) (a : Addr) (v : Value) : DisA k LA (w.setCell a v) := ⟨fun i hi => by
  obtain ⟨g, e, h2⟩ := h.1 i hi
  exact ⟨g, e, by simpa using h2⟩, h.2⟩
/-- a list of n rows, all of memory new since W, the rows apart -/
def OwnSD (W w : World) (A : Option Addr) (n : Nat) (L : Lls) : Prop :=
  ∃ (g : Nat) (LA : Nat → Option Addr) (LC : Nat → Nat), A = some ⟨g, 0, none⟩ ∧ W.heap.size ≤ g ∧ w.rowIs g 38 n (fun j => .slice (LA j) (L.N j) (LC j)) ∧ (∀ k, k < n → OwnI W w (LA k) (L.N k) (L.Z k)) ∧ ∀ i j, i < n → j < n → i ≠ j → LA i ≠ LA j
theorem OwnSD.ss {W w : World} {A : Option Addr} {n : Nat} {L : Lls} (h : OwnSD W w A n L) : OwnSS W w A n L := by
  obtain ⟨g, LA, LC, a, b, c, d, _⟩ := h
  exact ⟨g, LA, LC, a, b, c, d⟩
theorem OwnSD.set {W w : World} {A : Option Addr} {n : Nat} {L : Lls} {p o : Nat} (v : Value) (hp : p < W.heap.size) (h : OwnSD W w A n L) : OwnSD W (w.setCell ⟨p, o, none⟩ v) A n L := by
  obtain ⟨g, LA, LC, ha, hg, hr, hc, hd⟩ := h
  exact ⟨g, LA, LC, ha, hg, hr.setOther (by simp <;> omega) _, fun k hk => (hc k hk).set v hp, hd⟩
theorem OwnSD.old {W W1 w : World} {A : Option Addr} {n : Nat} {L : Lls} (hb : W.heap.size ≤ W1.heap.size) (h : OwnSD W1 w A n L) : OwnSD W w A n L := by
  obtain ⟨g, LA, LC, ha, hg, hr, hc, hd⟩ := h
  exact ⟨g, LA, LC, ha, Nat.le_trans hb hg, hr, fun k hk => (hc k hk).old hb, hd⟩
def NewSD (w : World) (n : Nat) (L : Lls) (e : Ending) (w' : World) : Prop :=
  ∃ A, e = .returned (.slice A n n) ∧ OwnSD w w' A n L ∧ Below w.heap.size w w'
set_option maxRecDepth 100000 in
set_option maxHeartbeats 4000000 in
theorem tointssD_any (A : Option Addr) (n c : Nat) (L : Lls) (w : World) (hn : n ≤ 1048576) (hA : IntSS w A n L) (hN : ∀ k, k < n → L.N k ≤ 1048576) :
    Calls Try.prog 10 #[.slice A n c] w (NewSD w n L) := by
  have hmk := run_make_row' (P := Try.prog) 22 38 (.slice none 0 0) 24 Try.underlying22 infoIS rfl .i64 .i64 n (by omega) (by omega)
  have hrow := World.rowIs_made w (.slice none 0 0) n 38
  have hb0 : Below w.heap.size w (w.alloc (.cells (madeCells #[.slice none 0 0] n) 38)) := bal (Below.refl _ _) _
  have HNN := hid hN; clear hN
  go_enter Try.func10, Try.ntmps10
  go_wp2
  clear hmk
  go_loopw [4] (fun i wr => ∃ (k : Nat) (LA : Nat → Option Addr) (LC : Nat → Nat), k ≤ n ∧ i = .int .i64 k ∧ Below w.heap.size w wr ∧ wr.rowIs w.heap.size 38 n (fun j => if j < k then .slice (LA j) (L.N j) (LC j) else .slice none 0 0) ∧ (∀ i, i < k → OwnI (w.alloc (.cells #[] 38)) wr (LA i) (L.N i) (L.Z i)) ∧ DisA k LA wr) (fun i _ => n - (intOf i).toNat)
  case atStart => exact ⟨0, fun _ => none, fun _ => 0, Nat.zero_le _, rfl, hb0, hrow.congr fun i hi => by simp, fun i hi => by omega, DisA.zero _ _⟩
  case round =>
    obtain ⟨k, LA, LC, hk, rfl, hb, hr, ho, hdis⟩ := hrel
    have HDI := hid hdis; clear hdis
    have HO := hid ho; clear ho
    clear hrow hb0
    by_cases hlt : k < n
    · rcases hA with h0 | ⟨g, off, rfl, hg, hcA⟩
      · omega
      obtain ⟨a, ca, a0, _, hI⟩ := hcA k hlt
      have hNk := HNN.out k hlt
      have gg : g < wr.heap.size := Nat.lt_of_lt_of_le hg hb.size
      replace a0 := carry hb a0
      replace hI := hI.below hb
      have hS : w.heap.size < wr.heap.size := hr.lt
      clear hcA
      go_wp2_with (go_at_call 24; refine (toints_any a (L.N k) ca (L.Z k) _ hNk hI).mono ?_; rintro e w1 ⟨g3, rfl, hg3, r3, hq⟩; have hr1 := row_below hr hq; have d0 : w1.cell? ⟨w.heap.size, k, none⟩ = some (.slice none 0 0) := ((hr1.cell (by omega)).trans (by rw [if_neg (by omega)])); have e0 : w1.frozen? ⟨w.heap.size, k, none⟩ = false := hr1.frozen _)
      go_roundw
      case rel =>
        refine ⟨k + 1, fun i => if i = k then some ⟨g3, 0, none⟩ else LA i, fun i => if i = k then L.N k else LC i, by omega, by go_num, bst (btr hb hq) (Nat.le_refl _) _, (hr1.set k _).congr fun j hj => ?_, fun i hi => ?_, (HDI.out.push hg3 r3.lt).set _ _⟩
        · by_cases e : j = k
          · subst e; simp
          · simp only [if_neg e]
            by_cases e2 : j < k
            · rw [if_pos e2, if_pos (by omega)]
            · rw [if_neg e2, if_neg (by omega)]
        · by_cases e : i = k
          · subst e
            simp only [if_true]
            exact (own_rowC (W := w.alloc (.cells #[] 38)) (by simp; omega) r3).set _ (by simp)
          · simp only [if_neg e]
            exact ((HO.out i (by omega)).below hq).set _ (by simp)
      case measure => simp [intOf]; omega
    · have hke : k = n := by omega
      subst hke
      go_wp2
      go_ret
      exact ⟨_, rfl, ⟨w.heap.size, LA, LC, rfl, Nat.le_refl _, hr.congr (fun j hj => by rw [if_pos hj]), fun i hi => (HO.out i hi).old (by simp), fun i j hi hj hne => HDI.out.2 i j hi hj hne⟩, hb⟩
/-- a copy of a formula, of new memory -/
def NewCnfD (w : World) (m : Int) (n : Nat) (L : Lls) (e : Ending) (w' : World) : Prop :=
  ∃ A, e = .returned (.agg #[.int .i64 m, .slice A n n]) ∧ OwnSD w w' A n L ∧ Below w.heap.size w w'
set_option maxHeartbeats 1000000 in
theorem tocnfD_any (A : Option Addr) (n c : Nat) (L : Lls) (m : Int) (w : World) (hn : n ≤ 1048576) (hA : IntSS w A n L) (hN : ∀ k, k < n → L.N k ≤ 1048576) :
    Calls Try.prog 15 #[.agg #[.int .i64 m, .slice A n c]] w (NewCnfD w m n L) := by
  have hT := fun W (hb : Below w.heap.size w W) => tointssD_any A n c L W hn (hA.below hb) hN
  clear hA hN
  go_enter Try.func15, Try.ntmps15
  go_wp2_with fail
  refine (hT _ (by (repeat first | with_reducible exact Below.refl _ _ | with_reducible assumption | with_reducible refine Below.drew ?_ | with_reducible refine bdn ?_ _ | with_reducible refine bal ?_ _ | (with_reducible refine bst ?_ ?_ _; rotate_left; (simp <;> omega)) | (with_reducible refine btr ?_ (by with_reducible assumption))))).mono ?_
  rintro e w1 ⟨A1, rfl, hO, hq⟩
  obtain ⟨hc, hf⟩ := bcell hq
  clear hT
  go_wp2
  have e0 : w1.cell? ⟨w.heap.size + 1, 0, none⟩ = some (.int .i64 0) := by rw [hc _ _ (by simp <;> omega)]; simp [go_sem]
  have e1 : w1.cell? ⟨w.heap.size + 1, 1, none⟩ = some (.slice none 0 0) := by rw [hc _ _ (by simp <;> omega)]; simp [go_sem]
  have hne : w.heap.size + 1 + 1 ≠ w.heap.size + 1 := by omega
  replace e0 : (w1.setCell ⟨w.heap.size + 1 + 1, 1, none⟩ (.slice A1 n n)).cell? ⟨w.heap.size + 1, 0, none⟩ = some (.int .i64 0) := by rw [World.cell?_setCell_other _ _ _ _ (by simp <;> omega)]; exact e0
  replace e1 : (w1.setCell ⟨w.heap.size + 1 + 1, 1, none⟩ (.slice A1 n n)).cell? ⟨w.heap.size + 1, 1, none⟩ = some (.slice none 0 0) := by rw [World.cell?_setCell_other _ _ _ _ (by simp <;> omega)]; exact e1
  obtain ⟨t0, t1⟩ := set2c e0 e1 (.int .i64 m) (.slice A1 n n)
  clear hc hf
  have l2 : w.heap.size + 1 + 1 < (((w.alloc (.cells #[.int .i64 m, .slice A n c] 28)).alloc (.cells #[.int .i64 0, .slice none 0 0] 31)).alloc (.cells #[.int .i64 m, .slice none 0 0] 31)).heap.size := by simp
  have l1 : w.heap.size + 1 < (((w.alloc (.cells #[.int .i64 m, .slice A n c] 28)).alloc (.cells #[.int .i64 0, .slice none 0 0] 31)).alloc (.cells #[.int .i64 m, .slice none 0 0] 31)).heap.size := by simp
  have hO2 := ((hO.set (o := 1) (.slice A1 n n) l2).set (o := 0) (.int .i64 m) l1).set (o := 1) (.slice A1 n n) l1
  refine bodyPost_ret (v := .agg #[.int .i64 m, .slice A1 n n]) (by simp [results, Try.results15, go_sem, t0, t1]) rfl ⟨A1, rfl, hO2.old (by simp <;> omega), ?_⟩
  clear t0 t1 e0 e1 hO hO2 l1 l2
  (repeat first | with_reducible exact Below.refl _ _ | with_reducible assumption | with_reducible refine Below.drew ?_ | with_reducible refine bdn ?_ _ | with_reducible refine bal ?_ _ | (with_reducible refine bst ?_ ?_ _; rotate_left; (simp <;> omega)) | (with_reducible refine btr ?_ (by with_reducible assumption)))

/-- a list of n rows in blocks of [lo, hi), the rows apart -/
def SSB (lo hi : Nat) (w : World) (A : Option Addr) (n : Nat) (L : Lls) : Prop :=
  ∃ (g : Nat) (LA : Nat → Option Addr) (LC : Nat → Nat), A = some ⟨g, 0, none⟩ ∧ lo ≤ g ∧ g < hi ∧ w.rowIs g 38 n (fun j => .slice (LA j) (L.N j) (LC j)) ∧ (∀ k, k < n → OwnB lo hi w (LA k) (L.N k) (L.Z k)) ∧ ∀ i j, i < n → j < n → i ≠ j → LA i ≠ LA j
theorem OwnSD.ssb {W w : World} {A : Option Addr} {n : Nat} {L : Lls} (h : OwnSD W w A n L) : SSB W.heap.size w.heap.size w A n L := by
  obtain ⟨g, LA, LC, a, b, c, d, e⟩ := h
  exact ⟨g, LA, LC, a, b, c.lt, c, fun k hk => (d k hk).ownB, e⟩
theorem SSB.below {lo hi : Nat} {w w' : World} {A : Option Addr} {n : Nat} {L : Lls} (hb : Below w.heap.size w w') (h : SSB lo hi w A n L) : SSB lo hi w' A n L := by
  obtain ⟨g, LA, LC, a, b, b2, c, d, e⟩ := h
  exact ⟨g, LA, LC, a, b, b2, row_below c hb, fun k hk => OwnB.below hb (d k hk), e⟩
theorem SSB.wrt {lo hi lo' hi' : Nat} {w w' : World} {A : Option Addr} {n : Nat} {L : Lls} (h : SSB lo hi w A n L) (hg : Wrt lo' hi' w w') (hd : hi ≤ lo' ∨ hi' ≤ lo) : SSB lo hi w' A n L := by
  obtain ⟨g, LA, LC, a, b, b2, c, d, e⟩ := h
  exact ⟨g, LA, LC, a, b, b2, c.of_block (hg.block g c.lt (by omega)), fun k hk => (d k hk).wrt hg hd, e⟩
theorem SSB.intss {lo hi : Nat} {w : World} {A : Option Addr} {n : Nat} {L : Lls} (h : SSB lo hi w A n L) (hN : ∀ k, k < n → L.N k ≤ 1048576) : IntSS w A n L := by
  obtain ⟨g, LA, LC, ha, _, _, hr, hc, _⟩ := h
  exact .inr ⟨g, 0, ha, hr.lt, fun k hk => ⟨LA k, LC k, by rw [Nat.zero_add]; exact hr.cell hk, by have := hN k hk; omega, (hc k hk).ints⟩⟩
theorem OwnB.congrU {lo hi : Nat} {w : World} {A : Option Addr} {n : Nat} {Z Y : Nat → Int} (h : OwnB lo hi w A n Z) (e : ∀ k, k < n → Z k = Y k) : OwnB lo hi w A n Y := by
  rcases h with h | ⟨g, ha, h1, h2, hg, hc⟩
  · exact .inl h
  · exact .inr ⟨g, ha, h1, h2, hg, fun k hk => by rw [← e k hk]; exact hc k hk⟩
def mkI (k0 : Int) (L : Lls) : Nat → Int
  | 0 => k0
  | i + 1 => mkI k0 L i + L.N i
theorem mkI_bd (k0 : Int) (L : Lls) (n : Nat) (hN : ∀ k, k < n → L.N k ≤ 1048576) (hk : 0 ≤ k0) : ∀ i, i ≤ n → k0 ≤ mkI k0 L i ∧ mkI k0 L i ≤ k0 + i * 1048576
  | 0, _ => by simp [mkI]
  | i + 1, hi => by
    have h1 := mkI_bd k0 L n hN hk i (by omega)
    have h2 := hN i (by omega)
    unfold mkI
    rw [Int.natCast_add, Int.add_mul]
    omega
/-- the list with the marks from k0 on in its first i rows -/
def mixI (k0 : Int) (L : Lls) (i : Nat) : Lls := ⟨L.N, fun k j => if k < i then mkI k0 L k + j else L.Z k j⟩
set_option maxRecDepth 100000 in
set_option maxHeartbeats 4000000 in
theorem markintss_any (lo hi : Nat) (A : Option Addr) (n c : Nat) (L : Lls) (k0 : Int) (w : World) (hn : n ≤ 1048576) (hN : ∀ k, k < n → L.N k ≤ 1048576) (hk : 0 ≤ k0 ∧ k0 ≤ 1000000000000) (h : SSB lo hi w A n L) :
    Calls Try.prog 21 #[.slice A n c, .int .i64 k0] w fun e w' => e = .returned (.int .i64 (mkI k0 L n)) ∧ SSB lo hi w' A n (mixI k0 L n) ∧ Wrt lo hi w w' := by
  obtain ⟨g, LA, LC, rfl, g1, g2, hr, hc, hD⟩ := h
  have HC := hid hc; clear hc
  have HD := hid hD; clear hD
  have HNN := hid hN
  have HB := hid (mkI_bd k0 L n hN hk.1); clear hN
  obtain ⟨k1, k2⟩ := hk
  go_enter Try.func21, Try.ntmps21
  go_wp2
  go_loopw [1, 5] (fun q i wr => ∃ j : Nat, j ≤ n ∧ i = .int .i64 j ∧ q = .int .i64 (mkI k0 L j) ∧ Wrt lo hi w wr ∧ wr.rowIs g 38 n (fun j => .slice (LA j) (L.N j) (LC j)) ∧ ∀ i, i < n → OwnB lo hi wr (LA i) (L.N i) ((mixI k0 L j).Z i)) (fun _ i _ => n - (intOf i).toNat)
  case atStart => exact ⟨0, Nat.zero_le _, rfl, rfl, Wrt.refl _ _ _, hr, fun i hi => (HC.out i hi).congrU fun t ht => by unfold mixI; simp⟩
  case round =>
    obtain ⟨j, hj, rfl, rfl, hg, hr', ho⟩ := hrel
    have HO := hid ho; clear ho
    by_cases hlt : j < n
    · obtain ⟨b1, b2⟩ := HB.out j hj
      have hNj := HNN.out j hlt
      have hM := fun W (h : OwnB lo hi W (LA j) (L.N j) ((mixI k0 L j).Z j)) => markrow_any lo hi (LA j) (L.N j) (LC j) ((mixI k0 L j).Z j) (mkI k0 L j) W hNj (by omega) h
      have gg := hr'.lt
      have a0 : wr.cell? ⟨g, j, none⟩ = some (.slice (LA j) (L.N j) (LC j)) := hr'.cell hlt
      have HS := hid (show mkI k0 L (j + 1) = mkI k0 L j + L.N j from rfl)
      generalize hq : mkI k0 L j = q at hM b1 b2
      have HQ := hid hq; clear hq
      go_wp2_with fail
      refine (hM _ (HO.out j hlt)).mono ?_
      rintro e w1 ⟨rfl, hO, row, hgr, hrow⟩
      have hr1 : w1.rowIs g 38 n (fun j => .slice (LA j) (L.N j) (LC j)) := hr'.of_block (hgr.block g gg (fun e => by
        obtain ⟨_, h0, ha⟩ := hrow g e.symm
        rcases HO.out j hlt with h | ⟨g', ha', _, _, _, hc'⟩
        · exact h0 h
        · rw [ha] at ha'
          injection ha' with ha'
          injection ha' with ha' _ _
          subst ha'
          have h1 := (hc' 0 (by omega)).1
          have h2 := hr'.cell (i := 0) (by omega)
          rw [h1] at h2
          cases h2))
      clear hM
      go_wp2_with fail
      go_roundw
      case rel =>
        refine ⟨j + 1, by omega, by go_num, by rw [HS.out, HQ.out], hg.trans (Wrt.of_grown hgr (fun g e => (hrow g e).1)), hr1, fun i hi => ?_⟩
        by_cases e : i = j
        · subst e
          refine hO.congrU fun t ht => ?_
          unfold mixI
          simp only
          rw [if_pos (by omega), HQ.out]
        · have h3 := (HO.out i hi).apart hgr (fun g' e' => .inr fun e2 => HD.out i j hi hlt e (e2.trans (hrow g' e').2.2.symm))
          refine h3.congrU fun t ht => ?_
          unfold mixI
          simp only
          by_cases e3 : i < j
          · rw [if_pos e3, if_pos (by omega)]
          · rw [if_neg e3, if_neg (by omega)]
      case measure => simp [intOf]; omega
    · have hke : j = n := by omega
      subst hke
      go_wp2
      go_ret
      exact ⟨rfl, ⟨g, LA, LC, rfl, g1, g2, hr', HO.out, HD.out⟩, hg⟩
theorem markcnf_any (lo hi : Nat) (A : Option Addr) (n c : Nat) (L : Lls) (m k0 : Int) (w : World) (hh : hi ≤ w.heap.size) (hn : n ≤ 1048576) (hN : ∀ k, k < n → L.N k ≤ 1048576) (hk : 0 ≤ k0 ∧ k0 ≤ 1000000000000) (h : SSB lo hi w A n L) :
    Calls Try.prog 20 #[.agg #[.int .i64 m, .slice A n c], .int .i64 k0] w fun e w' => e = .returned (.int .i64 (mkI k0 L n)) ∧ Wrt lo hi w w' := by
  have q0 := bal (Below.refl w.heap.size w) (.cells #[.int .i64 m, .slice A n c] 31)
  obtain ⟨c0, c1⟩ := pair_new w (.int .i64 m) (.slice A n c) 31
  have hM := markintss_any lo hi A n c L k0 (w.alloc (.cells #[.int .i64 m, .slice A n c] 31)) hn hN hk (h.below q0)
  have hW : Wrt lo hi w (w.alloc (.cells #[.int .i64 m, .slice A n c] 31)) := Wrt.of_grown (World.grownBy_alloc w _ none) (fun g e => by cases e)
  clear h q0
  go_enter Try.func20, Try.ntmps20
  go_wp2_with fail
  refine hM.mono ?_
  rintro e w1 ⟨rfl, _, hg⟩
  go_wp2_with fail
  go_ret
  exact ⟨rfl, hW.trans hg⟩
end Go.Proofs.Ytjnngijilkdhbaa
