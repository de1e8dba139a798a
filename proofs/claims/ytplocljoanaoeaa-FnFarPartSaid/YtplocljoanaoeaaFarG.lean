/- Contract of the program's givenRows: a row for each constraint of a system. -/
import Derived.Test.YtplocljoanaoeaaFarE
import Derived.Test.YtplocljoanaoeaaBL
namespace Go.Proofs.Ytplocljoanaoeaa
set_option linter.unusedVariables false
set_option linter.unusedSimpArgs false
open Go.RowKit
/-- the cells of the row of the k-th given constraint -/
def frowV (Z : Nat → Int) (b : Int) (s : Bool) (k i : Nat) : Value :=
  if i < 4 then .int .i64 (Z i) else if i = 4 then .int .i64 b else if i = 5 then .bool s else .int .i64 (if i = 6 + k then 1 else 0)
def farZ (x0 x1 x2 x3 x4 x5 : Value) : Array Value := #[x0, x1, x2, x3, x4, x5, .int .i64 0, .int .i64 0, .int .i64 0, .int .i64 0, .int .i64 0, .int .i64 0, .int .i64 0, .int .i64 0, .int .i64 0, .int .i64 0, .int .i64 0, .int .i64 0, .int .i64 0, .int .i64 0, .int .i64 0, .int .i64 0, .int .i64 0, .int .i64 0, .int .i64 0, .int .i64 0]
theorem build_far (x0 x1 x2 x3 x4 x5 : Value) (w : World) : (Instr.build 84 #[(0, .agg #[x0, x1, x2, x3, x4, x5])]).run Try.prog w = .ok (.agg (farZ x0 x1 x2 x3 x4 x5)) w := by kernel_rfl
theorem infoFR : (Try.prog.info? 61).map (fun i => (i.zero, i.size, i.bytes)) = some (some (.pointer none), 1, 8) := by kernel_rfl
def frowZ (Z : Nat → Int) (b : Int) (s : Bool) (i : Nat) : Value :=
  if i < 4 then .int .i64 (Z i) else if i = 4 then .int .i64 b else if i = 5 then .bool s else .int .i64 0
theorem far_cells (Z : Nat → Int) (b : Int) (s : Bool) : ∀ i, i < 26 → (farZ (.int .i64 (Z 0)) (.int .i64 (Z 1)) (.int .i64 (Z 2)) (.int .i64 (Z 3)) (.int .i64 b) (.bool s))[i]? = some (frowZ Z b s i)
  | 0, _ => rfl
  | 1, _ => rfl
  | 2, _ => rfl
  | 3, _ => rfl
  | 4, _ => rfl
  | 5, _ => rfl
  | 6, _ => rfl
  | 7, _ => rfl
  | 8, _ => rfl
  | 9, _ => rfl
  | 10, _ => rfl
  | 11, _ => rfl
  | 12, _ => rfl
  | 13, _ => rfl
  | 14, _ => rfl
  | 15, _ => rfl
  | 16, _ => rfl
  | 17, _ => rfl
  | 18, _ => rfl
  | 19, _ => rfl
  | 20, _ => rfl
  | 21, _ => rfl
  | 22, _ => rfl
  | 23, _ => rfl
  | 24, _ => rfl
  | 25, _ => rfl
  | n + 26, h => absurd h (by omega)
theorem far_new (w : World) (Z : Nat → Int) (b : Int) (s : Bool) : (w.alloc (.cells #[.int .i64 (Z 0), .int .i64 (Z 1), .int .i64 (Z 2), .int .i64 (Z 3), .int .i64 b, .bool s, .int .i64 0, .int .i64 0, .int .i64 0, .int .i64 0, .int .i64 0, .int .i64 0, .int .i64 0, .int .i64 0, .int .i64 0, .int .i64 0, .int .i64 0, .int .i64 0, .int .i64 0, .int .i64 0, .int .i64 0, .int .i64 0, .int .i64 0, .int .i64 0, .int .i64 0, .int .i64 0] 84)).rowIs w.heap.size 84 26 (frowZ Z b s) :=
  World.rowIs_alloc w _ _ _ (far_cells Z b s)
/-- the rows of a system, in memory new since W -/
def FRows (W w : World) (v : Value) (n : Nat) (L : Lst) : Prop :=
  ∃ g, ∃ G : Nat → Nat, v = .slice (some ⟨g, 0, none⟩) n n ∧ W.heap.size ≤ g ∧ w.rowIs g 61 n (fun j => .pointer (some ⟨G j, 0, none⟩)) ∧ ∀ k, k < n → W.heap.size ≤ G k ∧ w.rowIs (G k) 84 26 (frowV (L.Z k) (L.B k) (L.S k) k)
def GivenP (w : World) (n : Nat) (L : Lst) (e : Ending) (w' : World) : Prop :=
  ∃ v, e = .returned (.tuple #[v, .bool (okS n L)]) ∧ Below w.heap.size w w' ∧ (okS n L = true → FRows w w' v n L) ∧ (okS n L = false → v = .slice none 0 0)
theorem GivenP.no {w w' : World} {n : Nat} {L : Lst} (h : okS n L = false) (hb : Below w.heap.size w w') : GivenP w n L (.returned (.tuple #[.slice none 0 0, .bool false])) w' :=
  ⟨_, by rw [h], hb, fun e => (by rw [h] at e; cases e), fun _ => rfl⟩
theorem GivenP.yes {w w' : World} {n : Nat} {L : Lst} {v : Value} (h : okS n L = true) (hb : Below w.heap.size w w') (F : FRows w w' v n L) : GivenP w n L (.returned (.tuple #[v, .bool true])) w' :=
  ⟨_, by rw [h], hb, fun _ => F, fun e => (by rw [h] at e; cases e)⟩
set_option maxRecDepth 100000 in
set_option maxHeartbeats 4000000 in
theorem given_any (A : Option Addr) (n c : Nat) (L : Lst) (w : World) (hn : n ≤ 9223372036854775806) (hA : Lins w A n L) (hN : ∀ k, k < n → L.N k ≤ 1048576) :
    Calls Try.prog 35 #[.slice A n c] w (GivenP w n L) := by
  have HNN := hid hN; clear hN
  by_cases h20 : 20 < n
  · have hno := hid (okS_len (L := L) h20)
    go_enter Try.func35, Try.ntmps35
    go_wp2
    go_ret2
    exact GivenP.no hno.out (Below.refl _ _)
  · have h20' : n ≤ 20 := by omega
    clear h20
    have hmk := run_make_row' (P := Try.prog) 58 61 (.pointer none) 8 Try.underlying58 infoFR rfl .i64 .i64 n (by omega) (by omega)
    have hrow := World.rowIs_made w (.pointer none) n 61
    have hb0 : Below w.heap.size w (w.alloc (.cells (madeCells #[.pointer none] n) 61)) := bal (Below.refl _ _) _
    have hbd := build_far
    go_enter Try.func35, Try.ntmps35
    go_wp2
    clear hmk
    go_loopw [17] (fun i wr => ∃ (k : Nat) (G : Nat → Nat), k ≤ n ∧ i = .int .i64 k ∧ Below w.heap.size w wr ∧ wr.rowIs w.heap.size 61 n (fun j => if j < k then .pointer (some ⟨G j, 0, none⟩) else .pointer none) ∧ ∀ j, j < k → okL (L.N j) (L.Z j) (L.B j) = true ∧ w.heap.size < G j ∧ wr.rowIs (G j) 84 26 (frowV (L.Z j) (L.B j) (L.S j) j)) (fun i _ => n - (intOf i).toNat)
    case atStart => exact ⟨0, fun _ => 0, Nat.zero_le _, rfl, hb0, hrow.congr fun i hi => by simp, fun i hi => by omega⟩
    case round =>
      obtain ⟨k, G, hk, rfl, hb, hr, he⟩ := hrel
      have HE := hid he; clear he
      clear hrow hb0
      by_cases hlt : k < n
      · rcases hA with h0 | ⟨g, off, rfl, hg, hcA⟩
        · omega
        obtain ⟨a, ca, a0, a1, a2, _, hI⟩ := hcA k hlt
        have hNk : L.N k ≤ 9223372036854775806 := Nat.le_trans (HNN.out k hlt) (by omega)
        have gg : g < wr.heap.size := Nat.lt_of_lt_of_le hg hb.size
        have gw : w.heap.size < wr.heap.size := hr.lt
        replace a0 := carry hb a0
        replace a1 := carry hb a1
        replace a2 := carry hb a2
        replace hI := hI.below hb
        clear hcA
        have p0 : wr.cell? ⟨w.heap.size, k, none⟩ = some (.pointer none) := (hr.cell hlt).trans (by simp)
        have p1 : wr.frozen? ⟨w.heap.size, k, none⟩ = false := hr.frozen k
        cases hv : okL (L.N k) (L.Z k) (L.B k)
        · have hO := fun W (h : Below wr.heap.size wr W) => wide_at a (L.N k) ca (L.Z k) (L.B k) (L.S k) W (by omega) (hI.below h)
          rw [hv] at hO
          obtain ⟨x0, x1, x2, x3, x4, u, hx⟩ := wideV_six (L.N k) (L.Z k) (L.B k) (L.S k)
          rw [hx] at hO; clear hx
          have HF := hid (okS_at (n := n) hlt hv); clear hv
          go_wp2_with (go_at_call 46; refine (hO _ (bal (Below.refl _ _) _)).mono ?_; rintro e w1 ⟨rfl, hq⟩)
          go_ret2
          exact GivenP.no HF.out (bal (btr (bal hb _) hq) _)
        · have hO := fun W (h : Below wr.heap.size wr W) => wide_at a (L.N k) ca (L.Z k) (L.B k) (L.S k) W (by omega) (hI.below h)
          rw [hv, wide_v4 hv] at hO
          have HV := hid hv; clear hv
          go_upto_region 11 with (go_at_call 46; refine (hO _ (bal (Below.refl _ _) _)).mono ?_; rintro e w1 ⟨rfl, hq⟩; replace hq := btr (bal (Below.refl _ _) _) hq; replace p1 := (hq.frozen (p := ⟨w.heap.size, k, none⟩) gw).trans p1; replace p0 := carry hq p0; have lw1 := cell_lt p0)
          have f1 := far_new ((w1.setCell ⟨w.heap.size, k, none⟩ (.pointer (some ⟨w1.heap.size + 1, 0, none⟩))).alloc (.cells #[.int .i64 (L.Z k 0), .int .i64 (L.Z k 1), .int .i64 (L.Z k 2), .int .i64 (L.Z k 3), .int .i64 (L.B k), .bool (L.S k)] 74)) (L.Z k) (L.B k) (L.S k)
          have f2 := carryA (.cells #[.int .i64 (L.Z k 0), .int .i64 (L.Z k 1), .int .i64 (L.Z k 2), .int .i64 (L.Z k 3), .int .i64 (L.B k), .bool (L.S k), .int .i64 0, .int .i64 0, .int .i64 0, .int .i64 0, .int .i64 0, .int .i64 0, .int .i64 0, .int .i64 0, .int .i64 0, .int .i64 0, .int .i64 0, .int .i64 0, .int .i64 0, .int .i64 0, .int .i64 0, .int .i64 0, .int .i64 0, .int .i64 0, .int .i64 0, .int .i64 0] 84) (carryA (.cells #[.int .i64 (L.Z k 0), .int .i64 (L.Z k 1), .int .i64 (L.Z k 2), .int .i64 (L.Z k 3), .int .i64 (L.B k), .bool (L.S k)] 74) (World.cell?_setCell_same w1 ⟨w.heap.size, k, none⟩ (.pointer (some ⟨w1.heap.size + 1, 0, none⟩)) p0))
          have f3 := ((((row_below hr hq).set k (.pointer (some ⟨w1.heap.size + 1, 0, none⟩))).alloc (.cells #[.int .i64 (L.Z k 0), .int .i64 (L.Z k 1), .int .i64 (L.Z k 2), .int .i64 (L.Z k 3), .int .i64 (L.B k), .bool (L.S k)] 74)).alloc (.cells #[.int .i64 (L.Z k 0), .int .i64 (L.Z k 1), .int .i64 (L.Z k 2), .int .i64 (L.Z k 3), .int .i64 (L.B k), .bool (L.S k), .int .i64 0, .int .i64 0, .int .i64 0, .int .i64 0, .int .i64 0, .int .i64 0, .int .i64 0, .int .i64 0, .int .i64 0, .int .i64 0, .int .i64 0, .int .i64 0, .int .i64 0, .int .i64 0, .int .i64 0, .int .i64 0, .int .i64 0, .int .i64 0, .int .i64 0, .int .i64 0] 84))
          have f4 : ∀ j, j < k → okL (L.N j) (L.Z j) (L.B j) = true ∧ w.heap.size < G j ∧ G j < w1.heap.size ∧ (((w1.setCell ⟨w.heap.size, k, none⟩ (.pointer (some ⟨w1.heap.size + 1, 0, none⟩))).alloc (.cells #[.int .i64 (L.Z k 0), .int .i64 (L.Z k 1), .int .i64 (L.Z k 2), .int .i64 (L.Z k 3), .int .i64 (L.B k), .bool (L.S k)] 74)).alloc (.cells #[.int .i64 (L.Z k 0), .int .i64 (L.Z k 1), .int .i64 (L.Z k 2), .int .i64 (L.Z k 3), .int .i64 (L.B k), .bool (L.S k), .int .i64 0, .int .i64 0, .int .i64 0, .int .i64 0, .int .i64 0, .int .i64 0, .int .i64 0, .int .i64 0, .int .i64 0, .int .i64 0, .int .i64 0, .int .i64 0, .int .i64 0, .int .i64 0, .int .i64 0, .int .i64 0, .int .i64 0, .int .i64 0, .int .i64 0, .int .i64 0] 84)).rowIs (G j) 84 26 (frowV (L.Z j) (L.B j) (L.S j) j) := fun j hj => by
            obtain ⟨h1, h2, h3⟩ := HE.out j hj
            exact ⟨h1, h2, (row_below h3 hq).lt, (((row_below h3 hq).setOther (by simp; omega) _).alloc _).alloc _⟩
          have f5 : Below w.heap.size w (((w1.setCell ⟨w.heap.size, k, none⟩ (.pointer (some ⟨w1.heap.size + 1, 0, none⟩))).alloc (.cells #[.int .i64 (L.Z k 0), .int .i64 (L.Z k 1), .int .i64 (L.Z k 2), .int .i64 (L.Z k 3), .int .i64 (L.B k), .bool (L.S k)] 74)).alloc (.cells #[.int .i64 (L.Z k 0), .int .i64 (L.Z k 1), .int .i64 (L.Z k 2), .int .i64 (L.Z k 3), .int .i64 (L.B k), .bool (L.S k), .int .i64 0, .int .i64 0, .int .i64 0, .int .i64 0, .int .i64 0, .int .i64 0, .int .i64 0, .int .i64 0, .int .i64 0, .int .i64 0, .int .i64 0, .int .i64 0, .int .i64 0, .int .i64 0, .int .i64 0, .int .i64 0, .int .i64 0, .int .i64 0, .int .i64 0, .int .i64 0] 84)) := bal (bal (bst (btr hb hq) (Nat.le_refl _) _) _) _
          have hs : ((w1.setCell ⟨w.heap.size, k, none⟩ (.pointer (some ⟨w1.heap.size + 1, 0, none⟩))).alloc (.cells #[.int .i64 (L.Z k 0), .int .i64 (L.Z k 1), .int .i64 (L.Z k 2), .int .i64 (L.Z k 3), .int .i64 (L.B k), .bool (L.S k)] 74)).heap.size = w1.heap.size + 1 := by simp
          rw [hs] at f1
          have F4 := hid f4; clear f4 hs
          generalize ((w1.setCell ⟨w.heap.size, k, none⟩ (.pointer (some ⟨w1.heap.size + 1, 0, none⟩))).alloc (.cells #[.int .i64 (L.Z k 0), .int .i64 (L.Z k 1), .int .i64 (L.Z k 2), .int .i64 (L.Z k 3), .int .i64 (L.B k), .bool (L.S k)] 74)).alloc (.cells #[.int .i64 (L.Z k 0), .int .i64 (L.Z k 1), .int .i64 (L.Z k 2), .int .i64 (L.Z k 3), .int .i64 (L.B k), .bool (L.S k), .int .i64 0, .int .i64 0, .int .i64 0, .int .i64 0, .int .i64 0, .int .i64 0, .int .i64 0, .int .i64 0, .int .i64 0, .int .i64 0, .int .i64 0, .int .i64 0, .int .i64 0, .int .i64 0, .int .i64 0, .int .i64 0, .int .i64 0, .int .i64 0, .int .i64 0, .int .i64 0] 84) = W3 at f1 f2 f3 F4 f5 ⊢
          have g0 : W3.cell? ⟨w1.heap.size + 1, 6 + k, none⟩ = some (.int .i64 0) := (f1.cell (by omega)).trans (by unfold frowZ; rw [if_neg (by omega), if_neg (by omega), if_neg (by omega)])
          have g1 : W3.frozen? ⟨w1.heap.size + 1, 6 + k, none⟩ = false := f1.frozen _
          have k20 : decide ((k : Int) < 20) = true := by simp; omega
          go_wp2
          go_roundw
          case rel =>
            refine ⟨k + 1, fun j => if j = k then w1.heap.size + 1 else G j, by omega, by go_num, bst f5 (by simp; omega) _, (f3.setOther (by simp; omega) _).congr fun j hj => ?_, fun j hj => ?_⟩
            · by_cases e : j = k
              · subst e; simp
              · by_cases e2 : j < k
                · simp [e, e2, Nat.lt_succ_of_lt e2]
                · simp [e, e2]; omega
            · by_cases e : j = k
              · subst e
                simp only [if_true]
                refine ⟨HV.out, by omega, (f1.set (6 + j) _).congr fun i hi => ?_⟩
                unfold frowV frowZ
                by_cases e1 : i = 6 + j
                · subst e1; rw [if_pos rfl, if_neg (by omega), if_neg (by omega), if_neg (by omega), if_pos rfl]
                · rw [if_neg e1, if_neg e1]
              · simp only [if_neg e]
                obtain ⟨h1, h2, hl, h3⟩ := F4.out j (by omega)
                exact ⟨h1, h2, h3.setOther (by simp; omega) _⟩
          case measure => simp [intOf]; omega
      · have hke : k = n := by omega
        subst hke
        have HT := hid (okS_iff.2 ⟨h20', fun j hj => (HE.out j hj).1⟩)
        go_wp2
        go_ret2
        exact GivenP.yes HT.out hb ⟨w.heap.size, G, rfl, Nat.le_refl _, hr.congr (fun j hj => by rw [if_pos hj]), fun j hj => ⟨Nat.le_of_lt (HE.out j hj).2.1, (HE.out j hj).2.2⟩⟩
theorem issys_any (A : Option Addr) (n c : Nat) (L : Lst) (w : World) (hn : n ≤ 9223372036854775806) (hA : Lins w A n L) (hN : ∀ k, k < n → L.N k ≤ 1048576) :
    Calls Try.prog 38 #[.slice A n c] w fun e w' => e = .returned (.bool (okS n L)) ∧ Below w.heap.size w w' := by
  have hG := given_any A n c L w hn hA hN
  go_enter Try.func38, Try.ntmps38
  go_wp2_with fail
  refine hG.mono ?_
  rintro e w1 ⟨v, rfl, hb, _, _⟩
  clear hG
  go_wp2
  go_ret
  exact ⟨rfl, hb⟩
theorem issys_at {A : Option Addr} {n c : Nat} {L : Lst} {w : World} (hn : n ≤ 9223372036854775806) (hA : Lins w A n L) (hN : ∀ k, k < n → L.N k ≤ 1048576) {v : Bool} (h : okS n L = v) (W : World) (hb : Below w.heap.size w W) :
    Calls Try.prog 38 #[.slice A n c] W fun e w' => e = .returned (.bool v) ∧ Below W.heap.size W w' := by
  subst h; exact issys_any A n c L W hn (hA.below hb) hN
end Go.Proofs.Ytplocljoanaoeaa
