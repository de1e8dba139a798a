/- Contract of l10Cnf. -/
import Derived.Test.YtoechhdahokoiaaDeA
namespace Go.Proofs.Ytoechhdahokoiaa
set_option linter.unusedVariables false
set_option linter.unusedSimpArgs false
open Go.RowKit
def zs7 : List Int := [3, 4, 2, 5, 1, 6, 0]
def zs6 : List Int := [4, 6, 8, 2, 12, 0]
def zs8 : List Int := [2, 2, 3, 1, 3, 2, 3, 0]
def zs3 : List Int := [-1, 61, 1]
theorem row7C (w : World) (t : TypeId) : ∀ k, k < zs7.length → (w.alloc (.cells #[.int .i64 3, .int .i64 4, .int .i64 2, .int .i64 5, .int .i64 1, .int .i64 6, .int .i64 0] t)).cell? ⟨w.heap.size, k, none⟩ = some (.int .i64 (zs7.getD k 0)) := by
  intro k hk
  simp only [zs7, List.length_cons, List.length_nil] at hk
  have hk' : k = 0 ∨ k = 1 ∨ k = 2 ∨ k = 3 ∨ k = 4 ∨ k = 5 ∨ k = 6 := by omega
  rcases hk' with rfl | rfl | rfl | rfl | rfl | rfl | rfl <;> simp [go_sem, zs7]
theorem row6C (w : World) (t : TypeId) : ∀ k, k < zs6.length → (w.alloc (.cells #[.int .i64 4, .int .i64 6, .int .i64 8, .int .i64 2, .int .i64 12, .int .i64 0] t)).cell? ⟨w.heap.size, k, none⟩ = some (.int .i64 (zs6.getD k 0)) := by
  intro k hk
  simp only [zs6, List.length_cons, List.length_nil] at hk
  have hk' : k = 0 ∨ k = 1 ∨ k = 2 ∨ k = 3 ∨ k = 4 ∨ k = 5 := by omega
  rcases hk' with rfl | rfl | rfl | rfl | rfl | rfl <;> simp [go_sem, zs6]
theorem row8C (w : World) (t : TypeId) : ∀ k, k < zs8.length → (w.alloc (.cells #[.int .i64 2, .int .i64 2, .int .i64 3, .int .i64 1, .int .i64 3, .int .i64 2, .int .i64 3, .int .i64 0] t)).cell? ⟨w.heap.size, k, none⟩ = some (.int .i64 (zs8.getD k 0)) := by
  intro k hk
  simp only [zs8, List.length_cons, List.length_nil] at hk
  have hk' : k = 0 ∨ k = 1 ∨ k = 2 ∨ k = 3 ∨ k = 4 ∨ k = 5 ∨ k = 6 ∨ k = 7 := by omega
  rcases hk' with rfl | rfl | rfl | rfl | rfl | rfl | rfl | rfl <;> simp [go_sem, zs8]
theorem row3C (w : World) (t : TypeId) : ∀ k, k < zs3.length → (w.alloc (.cells #[.int .i64 (-1), .int .i64 61, .int .i64 1] t)).cell? ⟨w.heap.size, k, none⟩ = some (.int .i64 (zs3.getD k 0)) := by
  intro k hk
  simp only [zs3, List.length_cons, List.length_nil] at hk
  have hk' : k = 0 ∨ k = 1 ∨ k = 2 := by omega
  rcases hk' with rfl | rfl | rfl <;> simp [go_sem, zs3]
theorem in7 {y : Int} (h : y ∈ zs7) : 0 ≤ y ∧ y ≤ 6 := by simp [zs7] at h; omega
theorem in6 {y : Int} (h : y ∈ zs6) : 0 ≤ y ∧ y ≤ 12 := by simp [zs6] at h; omega
theorem in8 {y : Int} (h : y ∈ zs8) : 0 ≤ y ∧ y ≤ 3 := by simp [zs8] at h; omega
theorem in3 {y : Int} (h : y ∈ zs3) : -1 ≤ y ∧ y ≤ 61 := by simp [zs3] at h; omega
theorem infoCn : (Try.prog.info? 32).map (fun i => (i.zero, i.size, i.bytes)) = some (some (.slice none 0 0), 1, 24) := by kernel_rfl
/-- the state of the draw: a box with how many there are and a list of clauses -/
structure CBt (Bd lo po : Nat) (wB : World) (g p : Nat) (m : Int) (v : Value) (ds : List CRow) (wr : World) : Prop where
  cl : CL lo (po + 1) wr v ds
  box : wr.rowIs po 25 2 (fun j => if j = 0 then .int .i64 m else v)
  grown : wB.grownBy wr (some g)
  rd : ∃ q, q ≤ p ∧ RD Bd wr g q
theorem CBt.go {Bd lo po : Nat} {wB : World} {g p p' : Nat} {m : Int} {v : Value} {ds : List CRow} {wr w' : World} (h : CBt Bd lo po wB g p m v ds wr) (hg : wr.grownBy w' (some g)) (h1 : g < lo) (h2 : lo ≤ po) (hR : ∃ q, q ≤ p' ∧ RD Bd w' g q) : CBt Bd lo po wB g p' m v ds w' :=
  ⟨h.cl.go hg h1 (by omega), row_growC h.box hg (by omega), grow_trans h.grown hg, hR⟩
theorem CBt.below {Bd lo po : Nat} {wB : World} {g p : Nat} {m : Int} {v : Value} {ds : List CRow} {wr w' : World} (h : CBt Bd lo po wB g p m v ds wr) (hb : Below wr.heap.size wr w') : CBt Bd lo po wB g p m v ds w' :=
  ⟨h.cl.below hb, h.box.of_block (hb.block _ h.box.lt), grow_trans h.grown (grow_of_below hb _), by obtain ⟨q, h1, h2⟩ := h.rd; exact ⟨q, h1, h2.below hb⟩⟩
theorem CBt.push {Bd lo po : Nat} {wB : World} {g p : Nat} {m : Int} {v v' : Value} {ds es : List CRow} {w5 w6 w8 : World} (h : CBt Bd lo po wB g p m v ds w5) (hb : Below w5.heap.size w5 w6) (hd : ∀ d ∈ es, CrN w5.heap.size w6 d ∧ d.l.length ≤ 61) (h1 : wB.heap.size ≤ lo) (h2 : lo ≤ po) (h3 : Bd ≤ g) (h4 : g < lo)
    (hown : w8.ownsRow lo 32 1 v' (ds.length + es.length) (flatC ds ++ flatC es)) (hg : w6.grownBy w8 v.ownBlock) (hat : v'.ownBlock = v.ownBlock ∨ v'.ownBlock = some w6.heap.size) : CBt Bd lo po wB g p m v' (ds ++ es) (w8.setCell ⟨po, 1, none⟩ v') := by
  have hvn := h.cl.ne h.box (by decide)
  have hpl := h.box.lt
  have hz := hb.size
  have bx6 := h.box.of_block (hb.block _ h.box.lt)
  have bx8 := bx6.of_block (hg.block _ bx6.lt (Ne.symm hvn))
  have hvl : ∀ r, v.ownBlock = some r → lo ≤ r := fun r hr => (h.cl.1.lt r hr).1
  have hne : v'.ownBlock ≠ some po := by
    rcases hat with hat | hat
    · rw [hat]; exact hvn
    · rw [hat]; intro e; injection e with e; omega
  have hc := h.cl.push (grow_of_below hb none) hd (by omega) hown hg hat
  refine ⟨hc.set (by omega) hne, (bx8.set 1 v').congr (fun i hi => ?_), ?_, ?_⟩
  · match i, hi with
    | 0, _ => rfl
    | 1, _ => rfl
  · have g6 := grow_trans h.grown (grow_of_below hb (some g))
    refine grow_setNew (w1 := w8) ⟨hg.os.trans g6.os, hg.tape.trans g6.tape, hg.output.trans g6.output, Nat.le_trans g6.size hg.size, fun i hi hr => ?_⟩ (by omega) 1 v'
    exact (hg.block i (Nat.lt_of_lt_of_le hi g6.size) (fun e => by have := hvl i e.symm; omega)).trans (g6.block i hi hr)
  · obtain ⟨q, hq, hR⟩ := h.rd
    exact ⟨q, hq, ((hR.below hb).grow hg (fun r hr => by have := hvl r hr; omega)).set (by omega) (by omega) 1 v'⟩
/-- another number of variables -/
theorem CBt.many {Bd lo po : Nat} {wB : World} {g p : Nat} {m : Int} {v : Value} {ds : List CRow} {w5 : World} (m' : Int) (h : CBt Bd lo po wB g p m v ds w5) (h1 : wB.heap.size ≤ lo) (h2 : lo ≤ po) (h3 : Bd ≤ g) (h4 : g < lo) : CBt Bd lo po wB g p m' v ds (w5.setCell ⟨po, 0, none⟩ (.int .i64 m')) := by
  have hvn := h.cl.ne h.box (by decide)
  refine ⟨h.cl.set (by omega) hvn, (h.box.set 0 _).congr (fun i hi => ?_), grow_setNew h.grown (by omega) 0 _, ?_⟩
  · match i, hi with
    | 0, _ => rfl
    | 1, _ => rfl
  · obtain ⟨q, hq, hR⟩ := h.rd
    exact ⟨q, hq, hR.set (by omega) (by omega) 0 _⟩
/-- drawn clauses -/
def CnfD (Bd : Nat) (w : World) (g p : Nat) (e : Ending) (w' : World) : Prop :=
  ∃ m a c ds q, e = .returned (.agg #[.int .i64 m, .slice a ds.length c]) ∧ -1 ≤ m ∧ m ≤ 61 ∧ ds.length ≤ 14 ∧ ds.length ≤ c ∧ c ≤ 9223372036854775807 ∧ CL w.heap.size w.heap.size w' (.slice a ds.length c) ds ∧ w.grownBy w' (some g) ∧ RD Bd w' g q ∧ q ≤ p + 140
theorem CL.lower {lo lo2 lo' lo2' : Nat} {w : World} {v : Value} {ds : List CRow} (h : CL lo lo2 w v ds) (h1 : lo' ≤ lo) (h2 : lo2' ≤ lo2) : CL lo' lo2' w v ds :=
  ⟨⟨h.1.1, h.1.2.imp id fun ⟨g, cap, cur, e, hb, r⟩ => ⟨g, cap, cur, e, Nat.le_trans h1 hb, r⟩⟩, fun d hd => ⟨(h.2 d hd).1.imp id fun ⟨g, off, e, hb, r⟩ => ⟨g, off, e, Nat.le_trans h2 hb, r⟩, (h.2 d hd).2⟩⟩
theorem cnf_fin {Bd g p n c : Nat} {w w2 W : World} {m : Int} {a : Option Addr} {ds : List CRow} (hG : w.grownBy w2 (some g)) (hz : w.heap.size + 1 + 1 ≤ w2.heap.size) (h : CBt Bd w2.heap.size (w2.heap.size + 1) w2 g (p + 140) m (.slice a n c) ds W) (hn : n = ds.length) (hm : -1 ≤ m ∧ m ≤ 61) (hd : ds.length ≤ 14) (hlt : g < w.heap.size) (hle : Bd ≤ g) :
    CnfD Bd w g p (.returned (.agg #[.int .i64 m, .slice a n c])) ((W.setCell ⟨w.heap.size, 0, none⟩ (.int .i64 m)).setCell ⟨w.heap.size, 1, none⟩ (.slice a n c)) := by
  subst hn
  obtain ⟨a1, c1, e, m1, m2⟩ := h.cl.sl
  injection e with e1 _ e3
  subst e1 e3
  obtain ⟨q, hq, hR⟩ := h.rd
  have hne : (Value.slice a ds.length c).ownBlock ≠ some w.heap.size := fun e => by have := (h.cl.1.lt _ e).1; omega
  refine ⟨m, a, c, ds, q, rfl, hm.1, hm.2, hd, m1, m2, (((h.cl.set (by omega) hne).set (by omega) hne).lower (by omega) (by omega)), grow_setNew (grow_setNew (grow_trans hG h.grown) (Nat.le_refl _) 0 _) (Nat.le_refl _) 1 _, (hR.set (by omega) (by omega) 0 _).set (by omega) (by omega) 1 _, hq⟩
set_option maxRecDepth 100000 in
set_option maxHeartbeats 16000000 in
theorem l10cnf_any (Bd : Nat) (w : World) (g p : Nat) (hR : RD Bd w g p) (hp : p ≤ 80000) :
    Calls Try.prog 28 #[.pointer (some ⟨g, 0, none⟩)] w (CnfD Bd w g p) := by
  have hlt := hR.lt
  have hle := hR.le
  obtain ⟨i0, hi, hz0, hz1, hz2⟩ := info_parts infoCn
  go_enter Try.func28, Try.ntmps28
  have rb := row2_newC w (.int .i64 0) (.slice none 0 0) 25
  have hG0 : w.grownBy (w.alloc (.cells #[.int .i64 0, .slice none 0 0] 25)) (some g) := grow_alloc (grow_refl _ _) _
  have hz : (w.alloc (.cells #[.int .i64 0, .slice none 0 0] 25)).heap.size = w.heap.size + 1 := by simp
  have hR0 := hR.alloc (.cells #[.int .i64 0, .slice none 0 0] 25)
  go_wp2_with fail
  generalize w.alloc (.cells #[.int .i64 0, .slice none 0 0] 25) = w0 at *
  have h7 := row7C w0 3
  rw [hz] at h7
  refine (num_any Bd _ g p (w.heap.size + 1) 7 7 zs7 (hR0.alloc _) (by omega) rfl (by decide) (by decide) (by omega) h7).mono ?_
  rintro e w2 ⟨m, hm, rfl, hg2, hR2⟩
  replace hm := in7 hm
  have rb2 := row_growC (rb.alloc _) hg2 (by omega)
  have hG2 := grow_trans (grow_alloc hG0 _) hg2
  have hz2w := hg2.size
  simp only [World.size_alloc, hz] at hz2w
  clear hg2 hR0 hR rb hG0 h7 hz
  have hz4 : ((w2.alloc (.cells #[] 32)).alloc (.cells #[.int .i64 m, .slice (some ⟨w2.heap.size, 0, none⟩) 0 0] 25)).heap.size = w2.heap.size + 2 := by simp
  have al1 := bal (Below.refl w2.heap.size w2) (.cells #[] 32)
  have al2 := bal (Below.refl (w2.alloc (.cells #[] 32)).heap.size (w2.alloc (.cells #[] 32))) (.cells #[.int .i64 m, .slice (some ⟨w2.heap.size, 0, none⟩) 0 0] 25)
  have bx := row2_newC (w2.alloc (.cells #[] 32)) (.int .i64 m) (.slice (some ⟨w2.heap.size, 0, none⟩) 0 0) 25
  rw [World.size_alloc] at bx
  have h0 : CBt Bd w2.heap.size (w2.heap.size + 1) w2 g (p + 1) m (.slice (some ⟨w2.heap.size, 0, none⟩) 0 0) [] ((w2.alloc (.cells #[] 32)).alloc (.cells #[.int .i64 m, .slice (some ⟨w2.heap.size, 0, none⟩) 0 0] 25)) :=
    ⟨(CL.nil w2 _).below al2, bx, grow_alloc (grow_alloc (grow_refl _ _) _) _, p + 1, Nat.le_refl _, (hR2.alloc _).alloc _⟩
  go_upto_region 2 with fail
  generalize (w2.alloc (.cells #[] 32)).alloc (.cells #[.int .i64 m, .slice (some ⟨w2.heap.size, 0, none⟩) 0 0] 25) = w3 at *
  clear al1 al2 bx hR2
  go_wp2_with fail
  obtain ⟨q3, hq3, hR3⟩ := h0.rd
  have h6 := row6C w3 3
  rw [hz4] at h6
  refine (num_any Bd _ g q3 (w2.heap.size + 2) 6 6 zs6 (hR3.alloc _) (by omega) rfl (by decide) (by decide) (by omega) h6).mono ?_
  rintro e w4 ⟨y, hy, rfl, hg4, hR4⟩
  replace hy := in6 hy
  obtain ⟨j0, rfl⟩ := Int.eq_ofNat_of_zero_le hy.1
  have hj0 : j0 ≤ 12 := by omega
  have h4 : CBt Bd w2.heap.size (w2.heap.size + 1) w2 g (p + 2 + 11 * (12 - j0)) m (.slice (some ⟨w2.heap.size, 0, none⟩) 0 0) [] w4 := h0.go (grow_trans (grow_alloc (grow_refl _ _) _) hg4) (by omega) (by omega) ⟨_, by omega, hR4⟩
  clear h0 hg4 hR4 hR3 h6 hz4 hy
  have HB2 := hid rb2; have HG2 := hid hG2
  clear rb2 hG2
  go_wp2
  go_loopw [4] (fun i wr => ∃ (j : Nat) (v : Value) (ds : List CRow), i = .int .i64 j ∧ j ≤ 12 ∧ ds.length + j ≤ 12 ∧ CBt Bd w2.heap.size (w2.heap.size + 1) w2 g (p + 2 + 11 * (12 - j)) m v ds wr) (fun i _ => (intOf i).toNat)
  case atStart => exact ⟨j0, _, [], rfl, hj0, by simpa using hj0, h4⟩
  case round =>
    clear h4
    obtain ⟨j, v, ds, rfl, hj, hdj, h⟩ := hrel
    by_cases hj1 : 0 < j
    · have dj : decide ((j : Int) > 0) = true := decide_eq_true (by omega)
      go_upto_region 5 with fail
      have bx := h.box
      have b0 : wr.cell? ⟨w2.heap.size + 1, 0, none⟩ = some (.int .i64 m) := bx.cell (i := 0) (by decide)
      have hgd : wr.grownBy wr.drew (some g) := grow_of_below (Below.refl wr.heap.size wr).drew _
      obtain ⟨q, hq, hRq⟩ := h.rd
      have hRd : RD Bd wr.drew g q := hRq.below (Below.refl wr.heap.size wr).drew
      have hglt := hRq.lt
      refine region_planC (fun w' => wr.grownBy w' (some g)) (.takes [0, 1, 2, 3] (.make 4 (.make 5 (.make 6 (.make 7 (.takes [8, 9, 10, 11] .fin)))))) 12 rfl (by kernel_rfl) hgd ?_
      refine plan_takes ?_; simp only [pickOps, List.getElem?_cons_zero, List.getElem?_cons_succ]
      refine quiet_doC rfl (.pointer (some ⟨g, 0, none⟩)) (fun _ _ => by kernel_rfl) ?_
      refine quiet_doC rfl (.pointer (some ⟨w2.heap.size + 1, 0, none⟩)) (fun _ _ => by kernel_rfl) ?_
      refine quiet_doC rfl (.int .i64 m) (fun w' hw' => by exact run_loadI rfl (by kernel_rfl) Try.underlying3 rfl (grow_cell hw' (by omega) b0)) ?_
      refine quiet_doC rfl (.pointer (some ⟨g, 0, none⟩)) (fun _ _ => by kernel_rfl) ?_
      refine wpQuiet_nil ?_
      clear b0
      obtain ⟨wd, hwd⟩ : ∃ wd, wd = wr.drew := ⟨_, rfl⟩
      rw [← hwd] at hgd hRd ⊢
      clear hwd
      refine planC_val rfl rfl (.slice (some ⟨wd.heap.size, 0, none⟩) 8 8) (w'' := wd.alloc (.cells #[.int .i64 2, .int .i64 2, .int .i64 3, .int .i64 1, .int .i64 3, .int .i64 2, .int .i64 3, .int .i64 0] 3)) (by kernel_rfl) (grow_alloc hgd _) ?_
      refine planC_call rfl rfl 42 #[.pointer (some ⟨g, 0, none⟩), .slice (some ⟨wd.heap.size, 0, none⟩) 8 8] (by kernel_rfl) ?_
      refine (num_any Bd _ g q wd.heap.size 8 8 zs8 (hRd.alloc _) (by omega) rfl (by decide) (by decide) (by have := hRd.lt; omega) (row8C wd 3)).mono ?_
      rintro e w4 ⟨y, hy, rfl, hg4, hR4⟩
      replace hy := in8 hy
      obtain ⟨k, rfl⟩ := Int.eq_ofNat_of_zero_le hy.1
      have hk3 : k ≤ 3 := by omega
      have hg34 := grow_trans (grow_alloc hgd _) hg4
      refine ⟨_, rfl, hg34, ?_⟩
      clear hg4 hgd hRd hy
      refine planC_call rfl rfl 41 #[.pointer (some ⟨g, 0, none⟩), .int .i64 m, .int .i64 k] (by kernel_rfl) ?_
      refine (l10marks_any Bd w4 g (q + 1) m k hR4 (by omega) ⟨by omega, by omega⟩ (by omega)).mono ?_
      rintro e w5 ⟨A, c, l, q5, rfl, hl, hN, hg5, hR5, hq5⟩
      have hg35 := grow_trans hg34 hg5
      refine ⟨_, rfl, hg35, ?_⟩
      have hll : l.length ≤ 3 := by omega
      clear hg34 hg5 hR4 hl
      refine planC_call rfl rfl 50 #[.slice A l.length c] (by kernel_rfl) ?_
      refine (sclauseof_new A l.length c (fun k => l.getD k 0) w5 (by omega) hN.ints).mono ?_
      have hrl := clR_len l.length (fun k => l.getD k 0)
      rintro e w6 ⟨A', c', rfl, hnew, hI6, hb6⟩
      generalize clR l.length (fun k => l.getD k 0) = r at *
      generalize okF l.length (fun k => l.getD k 0) = ok at *
      have hg36 := grow_trans hg35 (grow_of_below hb6 _)
      refine ⟨_, rfl, hg36, ?_⟩
      clear hN
      refine plan_takes ?_; simp only [pickOps, List.getElem?_cons_zero, List.getElem?_cons_succ]
      refine quiet_doC rfl (.tuple #[.slice A' r.length c', .bool ok]) (fun _ _ => by kernel_rfl) ?_
      refine quiet_doC rfl (.slice A' r.length c') (fun _ _ => by kernel_rfl) ?_
      refine quiet_doC rfl (.bool ok) (fun _ _ => by kernel_rfl) ?_
      refine quiet_doC rfl (.slice A' r.length c') (fun _ _ => by kernel_rfl) ?_
      refine wpQuiet_nil ?_
      refine plan_fin ?_
      simp only [List.drop_succ_cons, List.drop_zero]
      simp only [Act.put, List.setIfInBounds_toArray, List.set_cons_succ, List.set_cons_zero]
      have h5 := h.go (p' := p + 2 + 11 * (12 - (j - 1))) hg35 (by omega) (by omega) ⟨_, by omega, hR5⟩
      have h6 := h5.below hb6
      have b0 : w6.cell? ⟨w2.heap.size + 1, 0, none⟩ = some (.int .i64 m) := h6.box.cell (i := 0) (by decide)
      have b1 : w6.cell? ⟨w2.heap.size + 1, 1, none⟩ = some v := h6.box.cell (i := 1) (by decide)
      have HR := hid hnew; have HI := hid hI6; have H5 := hid h5; have HB := hid hb6; have H6 := hid h6
      clear h h5 bx hRq hnew hI6 hb6 hg35 hg36 hR5 h6
      have hjj : ((j : Int) - 1) = ((j - 1 : Nat) : Int) := by omega
      cases ok
      · go_wp2
        go_roundw
        case rel => exact ⟨j - 1, v, ds, by go_num, by omega, by omega, H6.out⟩
        case measure => simp [intOf]; omega
      · have hK := sclauseok_any A' r.length c' (fun k => r.getD k 0) m w6 (by omega) HI.out
        generalize okC r.length (fun k => r.getD k 0) m = ok2 at hK
        go_wp2_with fail
        refine hK.mono ?_
        rintro e w7 ⟨rfl, rfl⟩
        cases ok2
        · go_wp2
          go_roundw
          case rel => exact ⟨j - 1, v, ds, by go_num, by omega, by omega, H6.out⟩
          case measure => simp [intOf]; omega
        · have ho := H6.out.cl.1
          have hz6 := H6.out.cl.1.lt
          have hlo := H6.out.grown.size
          have bx7 := H6.out.box.alloc (.cells #[.slice A' r.length c'] 32)
          have hvn := H6.out.cl.ne H6.out.box (by decide)
          go_wp2_with ((at_builtin; refine wpList_append_own_at _ rfl _ _ 23 rfl w2.heap.size 32 i0 (.slice none 0 0) 1 24 Try.underlying23 hi hz0 hz1 hz2 rfl (by decide) _ _ _ rfl (ho.alloc _) ⟨w6.heap.size, 0, none⟩ 1 1 [.slice A' r.length c'] rfl rfl (cell_one_new _ _ _) (fun u hu => by simp at hu; subst hu; rfl) (by unfold maxLen; omega) (by omega) (by simp; omega) ?_; intro v' w8 hown hgrow hnil hat; obtain ⟨va, vc, rfl⟩ := own_sliceD hown; have bx8 := bx7.of_block (hgrow.block _ bx7.lt (Ne.symm hvn)); have c8 : w8.cell? ⟨w2.heap.size + 1, 1, none⟩ = some v := bx8.cell (i := 1) (by decide); have f8 : w8.frozen? ⟨w2.heap.size + 1, 1, none⟩ = false := bx8.frozen 1; have l8 := bx8.lt))
          have hd : ∀ d ∈ [(⟨A', c', r⟩ : CRow)], CrN w5.heap.size (w6.alloc (.cells #[.slice A' r.length c'] 32)) d ∧ d.l.length ≤ 61 := fun d hd => by
            have hd : d = ⟨A', c', r⟩ := by simpa using hd
            subst hd
            refine ⟨CrN.below ?_ (bal (Below.refl _ _) _), hrl⟩
            rcases HR.out with h0 | ⟨g6, o6, e6, h6⟩
            · exact .inl h0
            · rcases HI.out with h0 | ⟨g7, o7, e7, h7, h8⟩
              · exact .inl h0
              · rw [e6] at e7
                injection e7 with e7
                injection e7 with e8 e9 _
                subst e8
                subst e9
                exact .inr ⟨_, _, e6, h6, h7, h8⟩
          have HN := H5.out.push (bal HB.out _) hd (Nat.le_refl _) (Nat.le_succ _) hle (by omega) hown hgrow hat
          exact ⟨⟨j - 1, _, ds ++ [⟨A', c', r⟩], rfl, by omega, by simp; omega, HN⟩, by simp [intOf]; omega⟩
    · have hj00 : j = 0 := by omega
      subst hj00
      have h9 : CBt Bd w2.heap.size (w2.heap.size + 1) w2 g (p + 134) m v ds wr := ⟨h.cl, h.box, h.grown, by obtain ⟨q, h1, h2⟩ := h.rd; exact ⟨q, by omega, h2⟩⟩
      obtain ⟨q, hq, hRq⟩ := h9.rd
      clear h
      obtain ⟨a9, c9, hv9, hc9a, hc9b⟩ := h9.cl.sl
      subst hv9
      go_wp2_with fail
      refine (pick_any Bd wr g q 40 hRq (by omega) (by omega)).mono ?_
      rintro e w10 ⟨y, y0, y1, rfl, hg10, hR10⟩
      have h10 := h9.go (p' := p + 135) hg10 (by omega) (by omega) ⟨_, by omega, hR10⟩
      clear h9 hg10 hRq
      by_cases e0 : y = 0
      · have d0 : (y == 0) = true := by simpa using e0
        clear e0
        go_wp2_with fail
        refine (num_any Bd _ g (q + 1) w10.heap.size 3 3 zs3 (hR10.alloc _) (by omega) rfl (by decide) (by decide) (by have := hR10.lt; omega) (row3C w10 3)).mono ?_
        rintro e w11 ⟨m', hm', rfl, hg11, hR11⟩
        replace hm' := in3 hm'
        have h11 := h10.go (p' := p + 140) (grow_trans (grow_alloc (grow_refl _ _) _) hg11) (by omega) (by omega) ⟨_, by omega, hR11⟩
        have b0 : w11.cell? ⟨w2.heap.size + 1, 0, none⟩ = some (.int .i64 m) := h11.box.cell (i := 0) (by decide)
        have fb : w11.frozen? ⟨w2.heap.size + 1, 0, none⟩ = false := h11.box.frozen 0
        have lb := h11.box.lt
        clear hg11 hR11 h10 hR10
        go_upto_region 13 with fail
        clear b0 fb lb
        obtain ⟨W, hW⟩ : ∃ W, W = w11.setCell ⟨w2.heap.size + 1, 0, none⟩ (.int .i64 m') := ⟨_, rfl⟩
        have HF := (h11.many m' (Nat.le_refl _) (Nat.le_succ _) hle (by omega))
        rw [← hW] at HF ⊢
        clear hW
        have rbW := row_growC HB2.out HF.grown (by omega)
        have r0 : W.cell? ⟨w.heap.size, 0, none⟩ = some (.int .i64 0) := rbW.cell (i := 0) (by decide)
        have r1 : W.cell? ⟨w.heap.size, 1, none⟩ = some (.slice none 0 0) := rbW.cell (i := 1) (by decide)
        have k0 : W.cell? ⟨w2.heap.size + 1, 0, none⟩ = some (.int .i64 m') := HF.box.cell (i := 0) (by decide)
        have k1 : W.cell? ⟨w2.heap.size + 1, 1, none⟩ = some (.slice a9 ds.length c9) := HF.box.cell (i := 1) (by decide)
        have f0 : W.frozen? ⟨w.heap.size, 0, none⟩ = false := rbW.frozen 0
        have f1 : W.frozen? ⟨w.heap.size, 1, none⟩ = false := rbW.frozen 1
        have l0 := rbW.lt
        have l1 := HF.box.lt
        have HFF := hid HF
        clear HF rbW
        go_wp2
        obtain ⟨t0, t1⟩ := set2c r0 r1 (.int .i64 m') (.slice a9 ds.length c9)
        exact bodyPost_ret (v := .agg #[.int .i64 m', .slice a9 ds.length c9]) (by simp [results, Try.results28, go_sem, t0, t1]) rfl (cnf_fin HG2.out hz2w HFF.out rfl hm' (by omega) hlt hle)
      have d0 : (y == 0) = false := by simpa using e0
      clear e0
      by_cases e1 : y = 1
      · have d1 : (y == 1) = true := by simpa using e1
        clear e1
        have H10 := hid h10
        have b1 : w10.cell? ⟨w2.heap.size + 1, 1, none⟩ = some (.slice a9 ds.length c9) := h10.box.cell (i := 1) (by decide)
        have lb := h10.box.lt
        have hz10 := h10.grown.size
        have ho := h10.cl.1
        obtain ⟨w11, hw11⟩ : ∃ w11, w11 = ((w10.alloc (.cells #[.int .i64 2, .int .i64 1] 3)).alloc (.cells #[.int .i64 0] 3)).alloc (.cells #[.slice (some ⟨w10.heap.size, 0, none⟩) 2 2, .slice (some ⟨w10.heap.size + 1, 0, none⟩) 1 1] 32) := ⟨_, rfl⟩
        have hb11 : Below w10.heap.size w10 w11 := by rw [hw11]; exact bal (bal (bal (Below.refl _ _) _) _) _
        have hs11 : w11.heap.size = w10.heap.size + 3 := by rw [hw11]; simp
        have ho11 := own_belowC hb11 ho
        have hnw : ∀ (j : Nat) (u : Value), ([.slice (some ⟨w10.heap.size, 0, none⟩) 2 2, .slice (some ⟨w10.heap.size + 1, 0, none⟩) 1 1] : List Value)[j]? = some u → w11.cell? ((⟨w10.heap.size + 2, 0, none⟩ : Addr).add j) = some u := fun j u hu => by
          rw [hw11]
          match j, hu with
          | 0, hu => simp at hu; subst hu; simp [go_sem, Addr.add]
          | 1, hu => simp at hu; subst hu; simp [go_sem, Addr.add]
          | j + 2, hu => simp at hu
        have hd : ∀ d ∈ [(⟨some ⟨w10.heap.size, 0, none⟩, 2, [2, 1]⟩ : CRow), ⟨some ⟨w10.heap.size + 1, 0, none⟩, 1, [0]⟩], CrN w10.heap.size w11 d ∧ d.l.length ≤ 61 := fun d hd => by
          have hd : d = ⟨some ⟨w10.heap.size, 0, none⟩, 2, [2, 1]⟩ ∨ d = ⟨some ⟨w10.heap.size + 1, 0, none⟩, 1, [0]⟩ := by simpa using hd
          rcases hd with rfl | rfl
          · refine ⟨.inr ⟨_, 0, rfl, Nat.le_refl _, by rw [hs11]; omega, fun k hk => ?_⟩, by simp⟩
            rw [hw11]
            match k, hk with
            | 0, _ => simp [go_sem]
            | 1, _ => simp [go_sem]
          · refine ⟨.inr ⟨_, 0, rfl, Nat.le_succ _, by rw [hs11]; omega, fun k hk => ?_⟩, by simp⟩
            rw [hw11]
            match k, hk with
            | 0, _ => simp [go_sem]
        have bx11 := h10.box.of_block (hb11.block _ lb)
        have hvn := h10.cl.ne h10.box (by decide)
        clear h10 hR10
        go_upto_region 13 with ((at_builtin; try rw [← hw11]; refine wpList_append_own_at _ rfl _ _ 23 rfl w2.heap.size 32 i0 (.slice none 0 0) 1 24 Try.underlying23 hi hz0 hz1 hz2 rfl (by decide) _ _ _ rfl ho11 ⟨w10.heap.size + 2, 0, none⟩ 2 2 [.slice (some ⟨w10.heap.size, 0, none⟩) 2 2, .slice (some ⟨w10.heap.size + 1, 0, none⟩) 1 1] rfl rfl hnw (fun u hu => by simp at hu; rcases hu with rfl | rfl <;> rfl) (by unfold maxLen; omega) (by omega) (by omega) ?_; intro v' w12 hown hgrow hnil hat; obtain ⟨va, vc, rfl⟩ := own_sliceD hown; have bx12 := bx11.of_block (hgrow.block _ bx11.lt (Ne.symm hvn)); have c12 : w12.cell? ⟨w2.heap.size + 1, 1, none⟩ = some (.slice a9 ds.length c9) := bx12.cell (i := 1) (by decide); have f12 : w12.frozen? ⟨w2.heap.size + 1, 1, none⟩ = false := bx12.frozen 1; have l12 := bx12.lt))
        have HN := H10.out.push hb11 hd (Nat.le_refl _) (Nat.le_succ _) hle (by omega) hown hgrow hat
        have h14 : CBt Bd w2.heap.size (w2.heap.size + 1) w2 g (p + 140) m (.slice va (ds.length + 2) vc) (ds ++ [(⟨some ⟨w10.heap.size, 0, none⟩, 2, [2, 1]⟩ : CRow), ⟨some ⟨w10.heap.size + 1, 0, none⟩, 1, [0]⟩]) (w12.setCell ⟨w2.heap.size + 1, 1, none⟩ (.slice va (ds.length + 2) vc)) := ⟨HN.cl, HN.box, HN.grown, by obtain ⟨q, h1, h2⟩ := HN.rd; exact ⟨q, by omega, h2⟩⟩
        clear HN b1 lb c12 f12 l12 hnw hd bx11 bx12 hown hgrow
        obtain ⟨W, hW⟩ : ∃ W, W = w12.setCell ⟨w2.heap.size + 1, 1, none⟩ (.slice va (ds.length + 2) vc) := ⟨_, rfl⟩
        have HF := h14
        rw [← hW] at HF ⊢
        clear hW
        have rbW := row_growC HB2.out HF.grown (by omega)
        have r0 : W.cell? ⟨w.heap.size, 0, none⟩ = some (.int .i64 0) := rbW.cell (i := 0) (by decide)
        have r1 : W.cell? ⟨w.heap.size, 1, none⟩ = some (.slice none 0 0) := rbW.cell (i := 1) (by decide)
        have k0 : W.cell? ⟨w2.heap.size + 1, 0, none⟩ = some (.int .i64 m) := HF.box.cell (i := 0) (by decide)
        have k1 : W.cell? ⟨w2.heap.size + 1, 1, none⟩ = some (.slice va (ds.length + 2) vc) := HF.box.cell (i := 1) (by decide)
        have f0 : W.frozen? ⟨w.heap.size, 0, none⟩ = false := rbW.frozen 0
        have f1 : W.frozen? ⟨w.heap.size, 1, none⟩ = false := rbW.frozen 1
        have l0 := rbW.lt
        have l1 := HF.box.lt
        have HFF := hid HF
        clear HF rbW
        go_wp2
        obtain ⟨t0, t1⟩ := set2c r0 r1 (.int .i64 m) (.slice va (ds.length + 2) vc)
        exact bodyPost_ret (v := .agg #[.int .i64 m, .slice va (ds.length + 2) vc]) (by simp [results, Try.results28, go_sem, t0, t1]) rfl (cnf_fin HG2.out hz2w HFF.out (by simp) ⟨by omega, by omega⟩ (by simp; omega) hlt hle)
      · have d1 : (y == 1) = false := by simpa using e1
        clear e1
        have h11 : CBt Bd w2.heap.size (w2.heap.size + 1) w2 g (p + 140) m (.slice a9 ds.length c9) ds w10 := ⟨h10.cl, h10.box, h10.grown, by obtain ⟨q, h1, h2⟩ := h10.rd; exact ⟨q, by omega, h2⟩⟩
        clear h10 hR10
        go_upto_region 13 with fail
        obtain ⟨W, hW⟩ : ∃ W, W = w10 := ⟨_, rfl⟩
        have HF := h11
        rw [← hW] at HF ⊢
        clear hW
        have rbW := row_growC HB2.out HF.grown (by omega)
        have r0 : W.cell? ⟨w.heap.size, 0, none⟩ = some (.int .i64 0) := rbW.cell (i := 0) (by decide)
        have r1 : W.cell? ⟨w.heap.size, 1, none⟩ = some (.slice none 0 0) := rbW.cell (i := 1) (by decide)
        have k0 : W.cell? ⟨w2.heap.size + 1, 0, none⟩ = some (.int .i64 m) := HF.box.cell (i := 0) (by decide)
        have k1 : W.cell? ⟨w2.heap.size + 1, 1, none⟩ = some (.slice a9 ds.length c9) := HF.box.cell (i := 1) (by decide)
        have f0 : W.frozen? ⟨w.heap.size, 0, none⟩ = false := rbW.frozen 0
        have f1 : W.frozen? ⟨w.heap.size, 1, none⟩ = false := rbW.frozen 1
        have l0 := rbW.lt
        have l1 := HF.box.lt
        have HFF := hid HF
        clear HF rbW
        go_wp2
        obtain ⟨t0, t1⟩ := set2c r0 r1 (.int .i64 m) (.slice a9 ds.length c9)
        exact bodyPost_ret (v := .agg #[.int .i64 m, .slice a9 ds.length c9]) (by simp [results, Try.results28, go_sem, t0, t1]) rfl (cnf_fin HG2.out hz2w HFF.out rfl ⟨by omega, by omega⟩ (by omega) hlt hle)
end Go.Proofs.Ytoechhdahokoiaa
