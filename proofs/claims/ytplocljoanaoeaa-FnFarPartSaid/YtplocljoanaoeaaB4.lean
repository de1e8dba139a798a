/- Several texts in one: FdA, FdB, FdC, FdD. -/
import Derived.Test.YtplocljoanaoeaaBC
import Derived.Test.YtplocljoanaoeaaFarA
import Derived.Test.YtplocljoanaoeaaBY
import Derived.Test.YtplocljoanaoeaaLinL
import Derived.Test.YtplocljoanaoeaaBW
import Derived.Test.YtplocljoanaoeaaBZ
import Derived.Test.YtplocljoanaoeaaFarL
import Derived.Test.YtplocljoanaoeaaByt
namespace Go.Proofs.Ytplocljoanaoeaa
set_option linter.unusedVariables false
set_option linter.unusedSimpArgs false
open Go.RowKit
structure DRow where
  a : Option Addr
  n : Nat
  c : Nat
  Z : Nat → Int
  b : Int
  s : Bool
deriving Inhabited
def DRow.cells (d : DRow) : List Value := [.slice d.a d.n d.c, .int .i64 d.b, .bool d.s]
def flatD (ds : List DRow) : List Value := ds.flatMap DRow.cells
theorem flatD_app (ds es : List DRow) : flatD (ds ++ es) = flatD ds ++ flatD es := by simp [flatD]
theorem flatD_one (d : DRow) : flatD [d] = d.cells := by simp [flatD]
theorem flatD_get {i : Nat} {d : DRow} (hi : i < 3) : ∀ {ds : List DRow} {k : Nat}, ds[k]? = some d → (flatD ds)[k * 3 + i]? = d.cells[i]?
  | [], k, h => by simp at h
  | x :: ds, 0, h => by
    have e : flatD (x :: ds) = x.cells ++ flatD ds := rfl
    simp only [List.getElem?_cons_zero, Option.some.injEq] at h
    subst h
    rw [e, Nat.zero_mul, Nat.zero_add, List.getElem?_append_left (by simp [DRow.cells]; omega)]
  | x :: ds, k + 1, h => by
    have e : flatD (x :: ds) = x.cells ++ flatD ds := rfl
    rw [List.getElem?_cons_succ] at h
    rw [e, List.getElem?_append_right (by simp [DRow.cells]; omega)]
    have := flatD_get hi h
    rw [← this]
    congr 1
    simp [DRow.cells]; omega
/-- a drawn list in memory of its own from lo up -/
def DL (lo : Nat) (w : World) (v : Value) (ds : List DRow) : Prop :=
  w.ownsRow lo 28 3 v ds.length (flatD ds) ∧ ∀ d ∈ ds, NewRow lo w d.a d.n d.Z ∧ (d.n ≠ 0 → apA v d.a) ∧ d.n ≤ 5
theorem own_far {w w' : World} {base n size g : Nat} {e : TypeId} {v : Value} {xs : List Value} (h : w.ownsRow base e size v n xs) (hg : w.grownBy w' (some g)) (hlt : g < base) : w'.ownsRow base e size v n xs := by
  obtain ⟨h1, h | ⟨g', cap, cur, rfl, h2, hh, h3⟩⟩ := h
  · exact ⟨h1, .inl h⟩
  · exact ⟨h1, .inr ⟨g', cap, cur, rfl, h2, (hg.block g' (Array.getElem?_eq_some_iff.1 hh).1 (fun e => by injection e with e; omega)).trans hh, h3⟩⟩
theorem DL.far {lo g : Nat} {w w' : World} {v : Value} {ds : List DRow} (h : DL lo w v ds) (hg : w.grownBy w' (some g)) (hlt : g < lo) : DL lo w' v ds :=
  ⟨own_far h.1 hg hlt, fun d hd => ⟨(h.2 d hd).1.grow hg (fun r e => by injection e with e; omega), (h.2 d hd).2⟩⟩
theorem DL.below {lo : Nat} {w w' : World} {v : Value} {ds : List DRow} (h : DL lo w v ds) (hb : Below w.heap.size w w') : DL lo w' v ds :=
  ⟨own_below hb h.1, fun d hd => ⟨by
    rcases (h.2 d hd).1 with h0 | ⟨g, off, ha, h1, h2, h3⟩
    · exact .inl h0
    · exact .inr ⟨g, off, ha, h1, Nat.lt_of_lt_of_le h2 hb.size, fun k hk => carry hb (h3 k hk)⟩, (h.2 d hd).2⟩⟩
def lstD (ds : List DRow) : Lst := ⟨fun k => (ds.getD k default).n, fun k => (ds.getD k default).Z, fun k => (ds.getD k default).b, fun k => (ds.getD k default).s⟩
theorem DL.sl {lo : Nat} {w : World} {v : Value} {ds : List DRow} (h : DL lo w v ds) : ∃ a c, v = .slice a ds.length c := own_slice h.1
theorem DL.lins {lo c : Nat} {w : World} {a : Option Addr} {ds : List DRow} (h : DL lo w (.slice a ds.length c) ds) : Lins w a ds.length (lstD ds) := by
  obtain ⟨ho, hd⟩ := h
  have hc := fun g hg => ho.cells (g := g) hg
  obtain ⟨_, ⟨e, h0⟩ | ⟨g, cap, cur, e, _, hh, _⟩⟩ := ho
  · exact .inl h0
  · injection e with e _ _
    subst e
    refine .inr ⟨g, 0, rfl, (Array.getElem?_eq_some_iff.1 hh).1, fun k hk => ?_⟩
    have hk' : ds[k]? = some (ds.getD k default) := by simp [List.getD, List.getElem?_eq_getElem hk]
    have hx : ∀ i x, i < 3 → (ds.getD k default).cells[i]? = some x → w.cell? ⟨g, 0 + (k * 3 + i), none⟩ = some x := fun i x hi hx => by
      have := hc g rfl (k * 3 + i) x (by rw [flatD_get hi hk']; exact hx)
      rw [show (⟨g, 0, none⟩ : Addr).add (k * 3 + i) = ⟨g, 0 + (k * 3 + i), none⟩ by unfold Addr.add; split <;> simp_all] at this
      exact this
    obtain ⟨h1, _, h3⟩ := hd _ (List.mem_of_getElem? hk')
    exact ⟨_, _, hx 0 _ (by omega) rfl, hx 1 _ (by omega) rfl, hx 2 _ (by omega) rfl, by show (ds.getD k default).n ≤ _; omega, h1.ints⟩
theorem NewRow.growM {lo : Nat} {w w' : World} {v : Value} {A : Option Addr} {n : Nat} {Z : Nat → Int} (h : NewRow lo w A n Z) (hg : w.grownBy w' v.ownBlock) (ha : n ≠ 0 → apA v A) : NewRow lo w' A n Z := by
  by_cases h0 : n = 0
  · exact .inl h0
  rcases h with h | ⟨g, off, e, h1, hl, hc⟩
  · exact absurd h h0
  · exact .inr ⟨g, off, e, h1, Nat.lt_of_lt_of_le hl hg.size, fun k hk => hg.cell (hc k hk) (fun e2 => ha h0 g off e e2.symm)⟩
theorem NewRow.ltM {lo : Nat} {w : World} {A : Option Addr} {n : Nat} {Z : Nat → Int} (hn : n ≠ 0) (h : NewRow lo w A n Z) : ∀ g off, A = some ⟨g, off, none⟩ → g < w.heap.size := h.ints.ltM hn
theorem DL.push {lo : Nat} {w w5 : World} {v v' : Value} {ds : List DRow} {d : DRow} (hd : DL lo w v ds) (hrow : NewRow lo w d.a d.n d.Z) (hap : d.n ≠ 0 → apA v d.a) (hn : d.n ≤ 5) (hown : w5.ownsRow lo 28 3 v' (ds.length + 1) (flatD ds ++ d.cells)) (hgrow : w.grownBy w5 v.ownBlock) (hblk : v'.ownBlock = v.ownBlock ∨ v'.ownBlock = some w.heap.size) : DL lo w5 v' (ds ++ [d]) := by
  refine ⟨by rw [flatD_app, flatD_one, List.length_append]; exact hown, fun x hx => ?_⟩
  rcases List.mem_append.1 hx with hx | hx
  · obtain ⟨h1, h2, h3⟩ := hd.2 x hx
    exact ⟨h1.growM hgrow h2, fun h0 => (h2 h0).next hblk (h1.ltM h0), h3⟩
  · obtain rfl := List.mem_singleton.1 hx
    exact ⟨hrow.growM hgrow hap, fun h0 => (hap h0).next hblk (hrow.ltM h0), hn⟩
/-- four numbers in the block h that may be written -/
def CF (w : World) (h : Nat) : Prop := h < w.heap.size ∧ ∀ j, j < 4 → ∃ z : Int, w.cell? ⟨h, j, none⟩ = some (.int .i64 z) ∧ w.frozen? ⟨h, j, none⟩ = false
theorem CF.grow {w w' : World} {h g : Nat} (hc : CF w h) (hg : w.grownBy w' (some g)) (hne : h ≠ g) : CF w' h :=
  ⟨Nat.lt_of_lt_of_le hc.1 hg.size, fun j hj => by
    obtain ⟨z, h1, h2⟩ := hc.2 j hj
    exact ⟨z, grow_cell hg hne h1, (World.frozen?_of_block (w := w) (a := ⟨h, j, none⟩) (hg.block h hc.1 (by simp; omega))).trans h2⟩⟩
theorem CF.alloc {w : World} {h : Nat} (hc : CF w h) (o : Obj) : CF (w.alloc o) h :=
  ⟨by have := hc.1; simp; omega, fun j hj => by
    obtain ⟨z, h1, h2⟩ := hc.2 j hj
    exact ⟨z, carryA o h1, carryAf o h2 hc.1⟩⟩
theorem CF.set {w : World} {h i : Nat} {x : Int} (hc : CF w h) (hi : i < 4) : CF (w.setCell ⟨h, i, none⟩ (.int .i64 x)) h :=
  ⟨by simpa [World.setCell] using hc.1, fun j hj => by
    obtain ⟨z, h1, h2⟩ := hc.2 j hj
    by_cases e : j = i
    · subst e
      exact ⟨x, World.cell?_setCell_same' _ _ _ (by rw [h1]; rfl), by simpa [go_sem] using h2⟩
    · exact ⟨z, by rw [World.cell?_setCell_other _ _ _ _ (by simp <;> omega)]; exact h1, by simpa [go_sem] using h2⟩⟩
theorem CF.setB {w : World} {h b i : Nat} {v : Value} (hc : CF w h) (hb : b ≠ h) : CF (w.setCell ⟨b, i, none⟩ v) h :=
  ⟨by simpa [World.setCell] using hc.1, fun j hj => by
    obtain ⟨z, h1, h2⟩ := hc.2 j hj
    exact ⟨z, by rw [World.cell?_setCell_other _ _ _ _ (by simp <;> omega)]; exact h1, by simpa [go_sem] using h2⟩⟩
theorem CF.row {w : World} {h lo : Nat} (hc : CF w h) (hl : lo ≤ h) : ∃ Z, NewRow lo w (some ⟨h, 0, none⟩) 4 Z := by
  refine ⟨fun j => intOf ((w.cell? ⟨h, j, none⟩).getD undef), .inr ⟨h, 0, rfl, hl, hc.1, fun k hk => ?_⟩⟩
  obtain ⟨z, h1, _⟩ := hc.2 k hk
  rw [Nat.zero_add, h1]
  show some (Value.int .i64 z) = some (.int .i64 (intOf ((w.cell? ⟨h, k, none⟩).getD undef)))
  rw [h1]
  rfl
end Go.Proofs.Ytplocljoanaoeaa

namespace Go.Proofs.Ytplocljoanaoeaa
set_option linter.unusedVariables false
set_option linter.unusedSimpArgs false
open Go.RowKit
def zsFd : List Int := [3, 4, 5, 2, 1, 0, 7]
theorem row7Fd (w : World) (t : TypeId) : ∀ k, k < zsFd.length → (w.alloc (.cells #[.int .i64 3, .int .i64 4, .int .i64 5, .int .i64 2, .int .i64 1, .int .i64 0, .int .i64 7] t)).cell? ⟨w.heap.size, k, none⟩ = some (.int .i64 (zsFd.getD k 0)) := by
  intro k hk
  simp only [zsFd, List.length_cons, List.length_nil] at hk
  have hk' : k = 0 ∨ k = 1 ∨ k = 2 ∨ k = 3 ∨ k = 4 ∨ k = 5 ∨ k = 6 := by omega
  rcases hk' with rfl | rfl | rfl | rfl | rfl | rfl | rfl <;> simp [go_sem, zsFd]
theorem infoLnD : (Try.prog.info? 28).map (fun i => (i.zero, i.size, i.bytes)) = some (some (.agg #[.slice none 0 0, .int .i64 0, .bool false]), 3, 40) := by kernel_rfl
/-- what l3List answers -/
def ListP (Bd : Nat) (w : World) (g p : Nat) (e : Ending) (w' : World) : Prop :=
  ∃ v ds q, e = .returned v ∧ DL w.heap.size w' v ds ∧ ds.length ≤ 7 ∧ w.grownBy w' (some g) ∧ RD Bd w' g q ∧ q ≤ p + 300
theorem grow_own {w W w5 : World} {g lo : Nat} {v : Value} (h : w.grownBy W (some g)) (hg : W.grownBy w5 v.ownBlock) (hr : ∀ r, v.ownBlock = some r → w.heap.size ≤ r) : w.grownBy w5 (some g) :=
  ⟨hg.os.trans h.os, hg.tape.trans h.tape, hg.output.trans h.output, Nat.le_trans h.size hg.size, fun j hj hn => (hg.block j (Nat.lt_of_lt_of_le hj h.size) (fun e => by have := hr j e.symm; omega)).trans (h.block j hj hn)⟩
set_option maxRecDepth 100000 in
set_option maxHeartbeats 16000000 in
theorem l3list_any (Bd : Nat) (w : World) (g p : Nat) (hR : RD Bd w g p) (hp : p ≤ 10000) :
    Calls Try.prog 71 #[.pointer (some ⟨g, 0, none⟩)] w (ListP Bd w g p) := by
  obtain ⟨i0, hi, hz0, hz1, hz2⟩ := info_parts infoLnD
  have hlt := hR.lt
  have hle := hR.le
  have q1 := bal (Below.refl w.heap.size w) (.cells #[] 28)
  have ho0 : (w.alloc (.cells #[] 28)).ownsRow w.heap.size 28 3 (.slice (some ⟨w.heap.size, 0, none⟩) 0 0) 0 (flatD []) := World.ownsRow_made w #[] 0 (Nat.le_refl _) (by decide) rfl
  have hd0 : DL w.heap.size (w.alloc (.cells #[] 28)) (.slice (some ⟨w.heap.size, 0, none⟩) 0 0) [] := ⟨ho0, fun d hd => by cases hd⟩
  have hd1 := hid (hd0.below (bal (Below.refl _ _) (.cells #[.int .i64 3, .int .i64 4, .int .i64 5, .int .i64 2, .int .i64 1, .int .i64 0, .int .i64 7] 3)))
  have hN := num_any Bd ((w.alloc (.cells #[] 28)).alloc (.cells #[.int .i64 3, .int .i64 4, .int .i64 5, .int .i64 2, .int .i64 1, .int .i64 0, .int .i64 7] 3)) g p (w.alloc (.cells #[] 28)).heap.size 7 7 zsFd ((hR.alloc _).alloc _) (by omega) rfl (by decide) (by decide) (by simp; omega) (row7Fd _ _)
  rw [World.size_alloc] at hN
  clear ho0 hd0 q1
  go_enter Try.func71, Try.ntmps71
  go_wp2_with fail
  refine hN.mono ?_
  rintro e w1 ⟨x, hx, rfl, hg, hR1⟩
  clear hN
  have hx7 : 0 ≤ x ∧ x ≤ 7 := by simp [zsFd] at hx; omega
  obtain ⟨m, rfl⟩ : ∃ m : Nat, x = m := ⟨x.toNat, by omega⟩
  have hm7 : m ≤ 7 := by omega
  have hgA := hid (grow_trans (grow_alloc (grow_alloc (grow_refl w (some g)) (.cells #[] 28)) (.cells #[.int .i64 3, .int .i64 4, .int .i64 5, .int .i64 2, .int .i64 1, .int .i64 0, .int .i64 7] 3)) hg)
  have hd2 := hid (hd1.out.far hg hlt)
  have hRR := hid hR1
  clear hd1 hg hx hx7 hR hR1
  go_wp2
  go_loopw [3, 4] (fun r3 i wr => ∃ (k : Nat) (ds : List DRow) (q : Nat), k ≤ 7 ∧ i = .int .i64 k ∧ DL w.heap.size wr r3 ds ∧ ds.length + k ≤ 7 ∧ w.grownBy wr (some g) ∧ RD Bd wr g q ∧ q + 20 * k ≤ p + 200) (fun _ i _ => (intOf i).toNat)
  case atStart => exact ⟨m, [], p + 1, hm7, rfl, hd2.out, by simpa using hm7, hgA.out, hRR.out, by omega⟩
  case round =>
    clear hd2 hgA hRR hm7
    obtain ⟨k, ds, q, hk, rfl, hd, hlen, hg, hR, hq⟩ := hrel
    obtain ⟨a3, c3, rfl⟩ := hd.sl
    have HD := hid hd; have HG := hid hg
    have hgr : g < wr.heap.size := hR.lt
    have hwr : w.heap.size ≤ wr.heap.size := hg.size
    clear hd hg
    by_cases hk0 : 0 < k
    · have d0 : decide ((0 : Int) < (k : Int)) = true := decide_eq_true (by omega)
      go_wp2_with fail
      refine (l2any_any Bd _ g q hR (by omega)).mono ?_
      rintro e w1 ⟨A, c, Z, b, s, q1, rfl, ho, hg1, hR1, hq1⟩
      obtain ⟨A2, c2, e2, hc1, hc2, hO⟩ := own_new (W := wr) (by omega) (by omega) ho
      obtain ⟨rfl, rfl⟩ : A = A2 ∧ c = c2 := by simpa using e2
      clear e2
      rcases hO with h4 | ⟨hh, rfl, hh1, hh2, hcell⟩
      · omega
      have hh0 : wr.heap.size + 1 ≤ hh := by
        obtain ⟨_, ⟨e, _⟩ | ⟨g', cap, cur, e, hg', _⟩⟩ := ho
        · cases e
        · injection e with e _ _; injection e with e; injection e with e _ _; omega
      have hCF : CF w1 hh := ⟨hh2, fun j hj => ⟨_, (hcell j hj).1, (hcell j hj).2⟩⟩
      clear hcell ho
      have hapN : apA (.slice a3 ds.length c3) (some ⟨hh, 0, none⟩) := apA_new HD.out.1 (by omega)
      obtain ⟨B, hB⟩ : ∃ B, B = w1.heap.size := ⟨_, rfl⟩
      have hCF2 := hCF.alloc (.cells #[.slice (some ⟨hh, 0, none⟩) 4 c, .int .i64 b, .bool s] 28)
      have hg2 := grow_alloc hg1 (.cells #[.slice (some ⟨hh, 0, none⟩) 4 c, .int .i64 b, .bool s] 28)
      have l0 : (w1.alloc (.cells #[.slice (some ⟨hh, 0, none⟩) 4 c, .int .i64 b, .bool s] 28)).cell? ⟨w1.heap.size, 0, none⟩ = some (.slice (some ⟨hh, 0, none⟩) 4 c) := by simp [go_sem]
      have l1 : (w1.alloc (.cells #[.slice (some ⟨hh, 0, none⟩) 4 c, .int .i64 b, .bool s] 28)).cell? ⟨w1.heap.size, 1, none⟩ = some (.int .i64 b) := by simp [go_sem]
      have l2 : (w1.alloc (.cells #[.slice (some ⟨hh, 0, none⟩) 4 c, .int .i64 b, .bool s] 28)).cell? ⟨w1.heap.size, 2, none⟩ = some (.bool s) := by simp [go_sem]
      have fB : ∀ o, (w1.alloc (.cells #[.slice (some ⟨hh, 0, none⟩) 4 c, .int .i64 b, .bool s] 28)).frozen? ⟨w1.heap.size, o, none⟩ = false := fun o => by simp [go_sem]
      have hP := pick_any Bd _ g q1 2 (hR1.alloc (.cells #[.slice (some ⟨hh, 0, none⟩) 4 c, .int .i64 b, .bool s] 28)) (by omega) (by omega)
      have hwB : wr.heap.size ≤ w1.heap.size := hg1.size
      have hhB : hh < w1.heap.size := hh2
      go_wp2_with fail
      refine hP.mono ?_
      rintro e w2 ⟨x, _, _, rfl, hg3, hR2⟩
      clear hP
      have hBg : w1.heap.size ≠ g := by omega
      replace hCF2 := hCF2.grow hg3 (by omega)
      have HW := hid (grow_trans hg2 hg3)
      replace l0 := grow_cell hg3 hBg l0
      replace l1 := grow_cell hg3 hBg l1
      replace l2 := grow_cell hg3 hBg l2
      replace fB : ∀ o, w2.frozen? ⟨w1.heap.size, o, none⟩ = false := fun o => (World.frozen?_of_block (w := w1.alloc (.cells #[.slice (some ⟨hh, 0, none⟩) 4 c, .int .i64 b, .bool s] 28)) (a := ⟨w1.heap.size, o, none⟩) (hg3.block _ (by simp) (by simp; omega))).trans (fB o)
      clear hg1 hg2 hg3 hR1 hCF
      generalize w1.heap.size = B1 at *
      subst hB
      by_cases hx0 : x = 0
      · subst hx0
        have lb := cell_lt l0
        have lh := hCF2.1
        obtain ⟨z2, m2, n2⟩ := hCF2.2 2 (by omega)
        have hCF3 := hCF2.set (x := 0) (i := 2) (by omega)
        obtain ⟨z3, m3, n3⟩ := hCF3.2 3 (by omega)
        have hCF4 := hCF3.set (x := 0) (i := 3) (by omega)
        have hne : hh ≠ B := by omega
        have HW2 := hid (grow_setNew (grow_setNew HW.out (show wr.heap.size ≤ hh by omega) 2 (.int .i64 0)) (show wr.heap.size ≤ hh by omega) 3 (.int .i64 0))
        have hRD2 := (hR2.set (q := hh) (by omega) (by omega) 2 (.int .i64 0)).set (q := hh) (by omega) (by omega) 3 (.int .i64 0)
        have kl : ∀ o u, w2.cell? ⟨B, o, none⟩ = some u → ((w2.setCell ⟨hh, 2, none⟩ (.int .i64 0)).setCell ⟨hh, 3, none⟩ (.int .i64 0)).cell? ⟨B, o, none⟩ = some u := fun o u h => by
          rw [World.cell?_setCell_other _ _ _ _ (by simp <;> omega), World.cell?_setCell_other _ _ _ _ (by simp <;> omega)]; exact h
        have kl1 : ∀ o u, w2.cell? ⟨B, o, none⟩ = some u → (w2.setCell ⟨hh, 2, none⟩ (.int .i64 0)).cell? ⟨B, o, none⟩ = some u := fun o u h => by
          rw [World.cell?_setCell_other _ _ _ _ (by simp <;> omega)]; exact h
        have l0b := kl1 _ _ l0
        have lb2 := cell_lt l0b
        have lh2 := hCF3.1
        have fB2 : ∀ o, ((w2.setCell ⟨hh, 2, none⟩ (.int .i64 0)).setCell ⟨hh, 3, none⟩ (.int .i64 0)).frozen? ⟨B, o, none⟩ = false := fun o => by simpa [go_sem] using fB o
        go_upto_region 8 with fail
        clear lb lh m2 n2
        replace l0 := kl _ _ l0; replace l1 := kl _ _ l1; replace l2 := kl _ _ l2
        clear kl kl1 fB hCF2 hCF3 hR2 HW
        generalize w2.setCell ⟨hh, 2, none⟩ (.int .i64 0) = w3 at *
        go_upto_region 9 with fail
        clear lb2 lh2 m3 n3 l0b
        generalize w3.setCell ⟨hh, 3, none⟩ (.int .i64 0) = w4 at *
        have fB := fB2
        clear fB2
        by_cases hds : ds.length = 0
        · have dl : decide ((0 : Int) < (ds.length : Int)) = false := decide_eq_false (by omega)
          have lb := cell_lt l0
          go_upto_region 11 with fail
          clear lb
          obtain ⟨Z', hrow⟩ := hCF4.row (lo := w.heap.size) (by omega)
          have hDL := HD.out.far HW2.out hlt
          have al := bal (Below.refl w4.heap.size w4) (.cells #[.slice (some ⟨hh, 0, none⟩) 4 c, .int .i64 b, .bool s] 28)
          have hDA := hid (hDL.below al)
          have hrA := hid (show NewRow w.heap.size (w4.alloc (.cells #[.slice (some ⟨hh, 0, none⟩) 4 c, .int .i64 b, .bool s] 28)) (some ⟨hh, 0, none⟩) 4 Z' from by
            rcases hrow with h0 | ⟨g', off, ha, h1, h2, h3⟩
            · exact .inl h0
            · exact .inr ⟨g', off, ha, h1, Nat.lt_of_lt_of_le h2 al.size, fun k hk => carry al (h3 k hk)⟩)
          have hGA := hid (grow_alloc (grow_trans HG.out HW2.out) (.cells #[.slice (some ⟨hh, 0, none⟩) 4 c, .int .i64 b, .bool s] 28))
          have hRA := hid (hRD2.alloc (.cells #[.slice (some ⟨hh, 0, none⟩) 4 c, .int .i64 b, .bool s] 28))
          have hsz := hGA.out.size
          have hnews := hid (show ∀ j u, ([.slice (some ⟨hh, 0, none⟩) 4 c, .int .i64 b, .bool s] : List Value)[j]? = some u → (w4.alloc (.cells #[.slice (some ⟨hh, 0, none⟩) 4 c, .int .i64 b, .bool s] 28)).cell? ((⟨w4.heap.size, 0, none⟩ : Addr).add j) = some u from fun j u hj => by
            rw [show (⟨w4.heap.size, 0, none⟩ : Addr).add j = ⟨w4.heap.size, j, none⟩ by unfold Addr.add; split <;> simp_all]
            have hj3 : j < 3 := (List.getElem?_eq_some_iff.1 hj).1
            rcases (show j = 0 ∨ j = 1 ∨ j = 2 by omega) with rfl | rfl | rfl <;> (simp at hj; subst hj; simp [go_sem]))
          have hone := hid (show ∀ u ∈ ([.slice (some ⟨hh, 0, none⟩) 4 c, .int .i64 b, .bool s] : List Value), u.oneCell' = true from fun u hu => by
            simp only [List.mem_cons, List.not_mem_nil, or_false] at hu
            rcases hu with rfl | rfl | rfl <;> rfl)
          clear al hDL
          have lb := cell_lt l0
          go_wp2_with ((at_builtin; go_loud (refine wpList_append_own_at _ rfl _ _ 23 rfl w.heap.size 28 i0 _ 3 40 Try.underlying23 hi hz0 hz1 hz2 rfl (by decide) _ _ _ rfl hDA.out.1 ⟨w4.heap.size, 0, none⟩ 1 1 [.slice (some ⟨hh, 0, none⟩) 4 c, .int .i64 b, .bool s] rfl rfl hnews.out hone.out (by unfold maxLen; omega) (by omega) hsz ?_); intro v' w5 hown hgrow _ hblk; have HOW := hid hown; have HGR := hid hgrow; have HBL := hid hblk; clear hown hgrow hblk))
          have hlow : ∀ r, (Value.slice a3 ds.length c3).ownBlock = some r → w.heap.size ≤ r := fun r e => (hDA.out.1.lt r e).1
          go_roundw
          case rel =>
            refine ⟨k - 1, ds ++ [⟨(some ⟨hh, 0, none⟩), 4, c, Z', b, s⟩], _, by omega, congrArg (Value.int .i64) (by omega), hDA.out.push (d := ⟨(some ⟨hh, 0, none⟩), 4, c, Z', b, s⟩) hrA.out (fun _ => hapN) (by simp only; omega) HOW.out HGR.out HBL.out, by rw [List.length_append]; simp only [List.length_cons, List.length_nil]; omega, grow_own (lo := 0) hGA.out HGR.out hlow, hRA.out.grow HGR.out (fun r e => by have := hlow r e; omega), by omega⟩
          case measure => simp [intOf]; omega
        have dl : decide ((0 : Int) < (ds.length : Int)) = true := decide_eq_true (by omega)
        have hP4 := pick_any Bd w4 g _ 4 hRD2 (by omega) (by omega)
        go_wp2_with fail
        refine hP4.mono ?_
        rintro e w6 ⟨y, _, _, rfl, hg6, hR6⟩
        clear hP4
        have HW6 := grow_trans HW2.out hg6
        have hC6 := hCF4.grow hg6 (by omega)
        have hBg : B ≠ g := by omega
        have lb := cell_lt l0
        have fB6 : ∀ o, w6.frozen? ⟨B, o, none⟩ = false := fun o => (World.frozen?_of_block (w := w4) (a := ⟨B, o, none⟩) (hg6.block _ lb (by simp; omega))).trans (fB o)
        replace l0 := grow_cell hg6 hBg l0
        replace l1 := grow_cell hg6 hBg l1
        replace l2 := grow_cell hg6 hBg l2
        clear hg6 lb fB
        by_cases hy : y = 0
        · subst hy
          have hP5 := pick_any Bd w6 g _ (ds.length : Int) hR6 (by omega) ⟨by omega, by omega⟩
          go_wp2_with fail
          refine hP5.mono ?_
          rintro e w7 ⟨x2, hx1, hx2, rfl, hg7, hR7⟩
          clear hP5
          obtain ⟨t, rfl⟩ : ∃ t : Nat, x2 = t := ⟨x2.toNat, by omega⟩
          have ht : t < ds.length := by omega
          have HW7 := grow_trans HW6 hg7
          have hD7 := HD.out.far HW7 hlt
          have lb6 : B < w6.heap.size := cell_lt l0
          have l0' := grow_cell hg7 hBg l0
          have l1' := grow_cell hg7 hBg l1
          have l2' := grow_cell hg7 hBg l2
          have fB7 : ∀ o, w7.frozen? ⟨B, o, none⟩ = false := fun o => (World.frozen?_of_block (w := w6) (a := ⟨B, o, none⟩) (hg7.block _ lb6 (by simp; omega))).trans (fB6 o)
          clear l0 l1 l2 fB6 hg7
          rcases hD7.lins with h0 | ⟨gl, off, rfl, hgl, hcl⟩
          · omega
          obtain ⟨a', c', m0, m1, m2, hnb, hI⟩ := hcl t ht
          have hn5 : (lstD ds).N t ≤ 5 := (hD7.2 (ds.getD t default) (by rw [List.getD_eq_getElem?_getD, List.getElem?_eq_getElem ht]; exact List.getElem_mem ht)).2.2
          generalize (lstD ds).N t = dn at m0 hI hn5 hnb
          generalize (lstD ds).Z t = dZ at hI
          generalize (lstD ds).B t = db at m1
          generalize (lstD ds).S t = dsb at m2
          have hS := slinnot_any a' dn c' dZ db dsb w7 (by omega) hI
          have lm := cell_lt m0
          have lb := cell_lt l0'
          clear hcl hI
          go_wp2_with fail
          refine hS.mono ?_
          rintro e w8 ⟨vv, rfl, ⟨A3, c4, rfl, hn3, hc4, O3⟩, hq8⟩
          clear hS m0 m1 m2 lm
          have hR4 := notR_len dn dZ db dsb
          generalize notR dn dZ db dsb = R at hn3 hc4 O3 hR4 ⊢
          have k0 := carry hq8 l0'; have k1 := carry hq8 l1'; have k2 := carry hq8 l2'
          have fB8 : ∀ o, w8.frozen? ⟨B, o, none⟩ = false := fun o => carryf hq8 (fB7 o) lb
          have HW8 := hid (grow_setNew (grow_setNew (grow_setNew (grow_trans HW7 (show w7.grownBy w8 (some g) from ⟨hq8.os, hq8.tape, hq8.output, hq8.size, fun j hj _ => hq8.block j hj⟩)) hwB 0 (.slice A3 R.1 c4)) hwB 1 (.int .i64 R.2.2.1)) hwB 2 (.bool R.2.2.2))
          have hR9 := ((((hR7.below hq8).set (q := B) hBg (by omega) 0 (.slice A3 R.1 c4)).set (q := B) hBg (by omega) 1 (.int .i64 R.2.2.1)).set (q := B) hBg (by omega) 2 (.bool R.2.2.2))
          obtain ⟨l0, l1, l2⟩ := set3 k0 k1 k2 (.slice A3 R.1 c4) (.int .i64 R.2.2.1) (.bool R.2.2.2)
          have kp : ∀ (W : World) (o : Nat) (v : Value), NewRow w7.heap.size W A3 R.1 R.2.1 → NewRow w7.heap.size (W.setCell ⟨B, o, none⟩ v) A3 R.1 R.2.1 := fun W o v x => x.grow (grow_set W B o v) (fun r e => by cases e; omega)
          have hrow9 := hid ((kp _ 2 (.bool R.2.2.2) (kp _ 1 (.int .i64 R.2.2.1) (kp _ 0 (.slice A3 R.1 c4) O3.newRow))).low (show w.heap.size ≤ w7.heap.size from Nat.le_trans hwr HW7.size))
          have hap9 := hid (show R.1 ≠ 0 → apA (.slice (some ⟨gl, off, none⟩) ds.length c3) A3 from fun h0 => by
            rcases O3 with h | ⟨g', rfl, h1, _, _⟩
            · exact absurd h h0
            · exact apA_new hD7.1 h1)
          clear kp O3 l0' l1' l2' fB7 hD7 hgl
          have kb := cell_lt k0
          go_upto_region 11 with fail
          clear k0 k1 k2 fB8 kb lb
          generalize ((w8.setCell ⟨B, 0, none⟩ (.slice A3 R.1 c4)).setCell ⟨B, 1, none⟩ (.int .i64 R.2.2.1)).setCell ⟨B, 2, none⟩ (.bool R.2.2.2) = w9 at *
          have hDL := HD.out.far HW8.out hlt
          have al := bal (Below.refl w9.heap.size w9) (.cells #[.slice A3 R.1 c4, .int .i64 R.2.2.1, .bool R.2.2.2] 28)
          have hDA := hid (hDL.below al)
          have hrA := hid (show NewRow w.heap.size (w9.alloc (.cells #[.slice A3 R.1 c4, .int .i64 R.2.2.1, .bool R.2.2.2] 28)) A3 R.1 R.2.1 from by
            rcases hrow9.out with h0 | ⟨g', off', ha, h1, h2, h3⟩
            · exact .inl h0
            · exact .inr ⟨g', off', ha, h1, Nat.lt_of_lt_of_le h2 al.size, fun k hk => carry al (h3 k hk)⟩)
          have hGA := hid (grow_alloc (grow_trans HG.out HW8.out) (.cells #[.slice A3 R.1 c4, .int .i64 R.2.2.1, .bool R.2.2.2] 28))
          have hRA := hid (hR9.alloc (.cells #[.slice A3 R.1 c4, .int .i64 R.2.2.1, .bool R.2.2.2] 28))
          have hsz := hGA.out.size
          have hnews := hid (show ∀ j u, ([.slice A3 R.1 c4, .int .i64 R.2.2.1, .bool R.2.2.2] : List Value)[j]? = some u → (w9.alloc (.cells #[.slice A3 R.1 c4, .int .i64 R.2.2.1, .bool R.2.2.2] 28)).cell? ((⟨w9.heap.size, 0, none⟩ : Addr).add j) = some u from fun j u hj => by
            rw [show (⟨w9.heap.size, 0, none⟩ : Addr).add j = ⟨w9.heap.size, j, none⟩ by unfold Addr.add; split <;> simp_all]
            have hj3 : j < 3 := (List.getElem?_eq_some_iff.1 hj).1
            rcases (show j = 0 ∨ j = 1 ∨ j = 2 by omega) with rfl | rfl | rfl <;> (simp at hj; subst hj; simp [go_sem]))
          have hone := hid (show ∀ u ∈ ([.slice A3 R.1 c4, .int .i64 R.2.2.1, .bool R.2.2.2] : List Value), u.oneCell' = true from fun u hu => by
            simp only [List.mem_cons, List.not_mem_nil, or_false] at hu
            rcases hu with rfl | rfl | rfl <;> rfl)
          clear al hDL
          have lb := cell_lt l0
          go_wp2_with ((at_builtin; go_loud (refine wpList_append_own_at _ rfl _ _ 23 rfl w.heap.size 28 i0 _ 3 40 Try.underlying23 hi hz0 hz1 hz2 rfl (by decide) _ _ _ rfl hDA.out.1 ⟨w9.heap.size, 0, none⟩ 1 1 [.slice A3 R.1 c4, .int .i64 R.2.2.1, .bool R.2.2.2] rfl rfl hnews.out hone.out (by unfold maxLen; omega) (by omega) hsz ?_); intro v' w5 hown hgrow _ hblk; have HOW := hid hown; have HGR := hid hgrow; have HBL := hid hblk; clear hown hgrow hblk))
          have hlow : ∀ r, (Value.slice (some ⟨gl, off, none⟩) ds.length c3).ownBlock = some r → w.heap.size ≤ r := fun r e => (hDA.out.1.lt r e).1
          go_roundw
          case rel =>
            refine ⟨k - 1, ds ++ [⟨A3, R.1, c4, R.2.1, R.2.2.1, R.2.2.2⟩], _, by omega, congrArg (Value.int .i64) (by omega), hDA.out.push (d := ⟨A3, R.1, c4, R.2.1, R.2.2.1, R.2.2.2⟩) hrA.out hap9.out (by simp only; omega) HOW.out HGR.out HBL.out, by rw [List.length_append]; simp only [List.length_cons, List.length_nil]; omega, grow_own (lo := 0) hGA.out HGR.out hlow, hRA.out.grow HGR.out (fun r e => by have := hlow r e; omega), by omega⟩
          case measure => simp [intOf]; omega
        · have dy : (y == 0) = false := by simpa using hy
          have lb := cell_lt l0
          go_upto_region 11 with fail
          clear lb
          obtain ⟨Z', hrow⟩ := hC6.row (lo := w.heap.size) (by omega)
          have hDL := HD.out.far HW6 hlt
          have al := bal (Below.refl w6.heap.size w6) (.cells #[.slice (some ⟨hh, 0, none⟩) 4 c, .int .i64 b, .bool s] 28)
          have hDA := hid (hDL.below al)
          have hrA := hid (show NewRow w.heap.size (w6.alloc (.cells #[.slice (some ⟨hh, 0, none⟩) 4 c, .int .i64 b, .bool s] 28)) (some ⟨hh, 0, none⟩) 4 Z' from by
            rcases hrow with h0 | ⟨g', off, ha, h1, h2, h3⟩
            · exact .inl h0
            · exact .inr ⟨g', off, ha, h1, Nat.lt_of_lt_of_le h2 al.size, fun k hk => carry al (h3 k hk)⟩)
          have hGA := hid (grow_alloc (grow_trans HG.out HW6) (.cells #[.slice (some ⟨hh, 0, none⟩) 4 c, .int .i64 b, .bool s] 28))
          have hRA := hid (hR6.alloc (.cells #[.slice (some ⟨hh, 0, none⟩) 4 c, .int .i64 b, .bool s] 28))
          have hsz := hGA.out.size
          have hnews := hid (show ∀ j u, ([.slice (some ⟨hh, 0, none⟩) 4 c, .int .i64 b, .bool s] : List Value)[j]? = some u → (w6.alloc (.cells #[.slice (some ⟨hh, 0, none⟩) 4 c, .int .i64 b, .bool s] 28)).cell? ((⟨w6.heap.size, 0, none⟩ : Addr).add j) = some u from fun j u hj => by
            rw [show (⟨w6.heap.size, 0, none⟩ : Addr).add j = ⟨w6.heap.size, j, none⟩ by unfold Addr.add; split <;> simp_all]
            have hj3 : j < 3 := (List.getElem?_eq_some_iff.1 hj).1
            rcases (show j = 0 ∨ j = 1 ∨ j = 2 by omega) with rfl | rfl | rfl <;> (simp at hj; subst hj; simp [go_sem]))
          have hone := hid (show ∀ u ∈ ([.slice (some ⟨hh, 0, none⟩) 4 c, .int .i64 b, .bool s] : List Value), u.oneCell' = true from fun u hu => by
            simp only [List.mem_cons, List.not_mem_nil, or_false] at hu
            rcases hu with rfl | rfl | rfl <;> rfl)
          clear al hDL
          have lb := cell_lt l0
          go_wp2_with ((at_builtin; go_loud (refine wpList_append_own_at _ rfl _ _ 23 rfl w.heap.size 28 i0 _ 3 40 Try.underlying23 hi hz0 hz1 hz2 rfl (by decide) _ _ _ rfl hDA.out.1 ⟨w6.heap.size, 0, none⟩ 1 1 [.slice (some ⟨hh, 0, none⟩) 4 c, .int .i64 b, .bool s] rfl rfl hnews.out hone.out (by unfold maxLen; omega) (by omega) hsz ?_); intro v' w5 hown hgrow _ hblk; have HOW := hid hown; have HGR := hid hgrow; have HBL := hid hblk; clear hown hgrow hblk))
          have hlow : ∀ r, (Value.slice a3 ds.length c3).ownBlock = some r → w.heap.size ≤ r := fun r e => (hDA.out.1.lt r e).1
          go_roundw
          case rel =>
            refine ⟨k - 1, ds ++ [⟨(some ⟨hh, 0, none⟩), 4, c, Z', b, s⟩], _, by omega, congrArg (Value.int .i64) (by omega), hDA.out.push (d := ⟨(some ⟨hh, 0, none⟩), 4, c, Z', b, s⟩) hrA.out (fun _ => hapN) (by simp only; omega) HOW.out HGR.out HBL.out, by rw [List.length_append]; simp only [List.length_cons, List.length_nil]; omega, grow_own (lo := 0) hGA.out HGR.out hlow, hRA.out.grow HGR.out (fun r e => by have := hlow r e; omega), by omega⟩
          case measure => simp [intOf]; omega
      · have dx : (x == 0) = false := by simpa using hx0
        go_upto_region 9 with fail
        clear dx
        by_cases hds : ds.length = 0
        · have dl : decide ((0 : Int) < (ds.length : Int)) = false := decide_eq_false (by omega)
          have lb := cell_lt l0
          go_upto_region 11 with fail
          clear lb
          obtain ⟨Z', hrow⟩ := hCF2.row (lo := w.heap.size) (by omega)
          have hDL := HD.out.far HW.out hlt
          have al := bal (Below.refl w2.heap.size w2) (.cells #[.slice (some ⟨hh, 0, none⟩) 4 c, .int .i64 b, .bool s] 28)
          have hDA := hid (hDL.below al)
          have hrA := hid (show NewRow w.heap.size (w2.alloc (.cells #[.slice (some ⟨hh, 0, none⟩) 4 c, .int .i64 b, .bool s] 28)) (some ⟨hh, 0, none⟩) 4 Z' from by
            rcases hrow with h0 | ⟨g', off, ha, h1, h2, h3⟩
            · exact .inl h0
            · exact .inr ⟨g', off, ha, h1, Nat.lt_of_lt_of_le h2 al.size, fun k hk => carry al (h3 k hk)⟩)
          have hGA := hid (grow_alloc (grow_trans HG.out HW.out) (.cells #[.slice (some ⟨hh, 0, none⟩) 4 c, .int .i64 b, .bool s] 28))
          have hRA := hid (hR2.alloc (.cells #[.slice (some ⟨hh, 0, none⟩) 4 c, .int .i64 b, .bool s] 28))
          have hsz := hGA.out.size
          have hnews := hid (show ∀ j u, ([.slice (some ⟨hh, 0, none⟩) 4 c, .int .i64 b, .bool s] : List Value)[j]? = some u → (w2.alloc (.cells #[.slice (some ⟨hh, 0, none⟩) 4 c, .int .i64 b, .bool s] 28)).cell? ((⟨w2.heap.size, 0, none⟩ : Addr).add j) = some u from fun j u hj => by
            rw [show (⟨w2.heap.size, 0, none⟩ : Addr).add j = ⟨w2.heap.size, j, none⟩ by unfold Addr.add; split <;> simp_all]
            have hj3 : j < 3 := (List.getElem?_eq_some_iff.1 hj).1
            rcases (show j = 0 ∨ j = 1 ∨ j = 2 by omega) with rfl | rfl | rfl <;> (simp at hj; subst hj; simp [go_sem]))
          have hone := hid (show ∀ u ∈ ([.slice (some ⟨hh, 0, none⟩) 4 c, .int .i64 b, .bool s] : List Value), u.oneCell' = true from fun u hu => by
            simp only [List.mem_cons, List.not_mem_nil, or_false] at hu
            rcases hu with rfl | rfl | rfl <;> rfl)
          clear al hDL
          have lb := cell_lt l0
          go_wp2_with ((at_builtin; go_loud (refine wpList_append_own_at _ rfl _ _ 23 rfl w.heap.size 28 i0 _ 3 40 Try.underlying23 hi hz0 hz1 hz2 rfl (by decide) _ _ _ rfl hDA.out.1 ⟨w2.heap.size, 0, none⟩ 1 1 [.slice (some ⟨hh, 0, none⟩) 4 c, .int .i64 b, .bool s] rfl rfl hnews.out hone.out (by unfold maxLen; omega) (by omega) hsz ?_); intro v' w5 hown hgrow _ hblk; have HOW := hid hown; have HGR := hid hgrow; have HBL := hid hblk; clear hown hgrow hblk))
          have hlow : ∀ r, (Value.slice a3 ds.length c3).ownBlock = some r → w.heap.size ≤ r := fun r e => (hDA.out.1.lt r e).1
          go_roundw
          case rel =>
            refine ⟨k - 1, ds ++ [⟨(some ⟨hh, 0, none⟩), 4, c, Z', b, s⟩], _, by omega, congrArg (Value.int .i64) (by omega), hDA.out.push (d := ⟨(some ⟨hh, 0, none⟩), 4, c, Z', b, s⟩) hrA.out (fun _ => hapN) (by simp only; omega) HOW.out HGR.out HBL.out, by rw [List.length_append]; simp only [List.length_cons, List.length_nil]; omega, grow_own (lo := 0) hGA.out HGR.out hlow, hRA.out.grow HGR.out (fun r e => by have := hlow r e; omega), by omega⟩
          case measure => simp [intOf]; omega
        have dl : decide ((0 : Int) < (ds.length : Int)) = true := decide_eq_true (by omega)
        have hP4 := pick_any Bd w2 g _ 4 hR2 (by omega) (by omega)
        go_wp2_with fail
        refine hP4.mono ?_
        rintro e w6 ⟨y, _, _, rfl, hg6, hR6⟩
        clear hP4
        have HW6 := grow_trans HW.out hg6
        have hC6 := hCF2.grow hg6 (by omega)
        have hBg : B ≠ g := by omega
        have lb := cell_lt l0
        have fB6 : ∀ o, w6.frozen? ⟨B, o, none⟩ = false := fun o => (World.frozen?_of_block (w := w2) (a := ⟨B, o, none⟩) (hg6.block _ lb (by simp; omega))).trans (fB o)
        replace l0 := grow_cell hg6 hBg l0
        replace l1 := grow_cell hg6 hBg l1
        replace l2 := grow_cell hg6 hBg l2
        clear hg6 lb fB
        by_cases hy : y = 0
        · subst hy
          have hP5 := pick_any Bd w6 g _ (ds.length : Int) hR6 (by omega) ⟨by omega, by omega⟩
          go_wp2_with fail
          refine hP5.mono ?_
          rintro e w7 ⟨x2, hx1, hx2, rfl, hg7, hR7⟩
          clear hP5
          obtain ⟨t, rfl⟩ : ∃ t : Nat, x2 = t := ⟨x2.toNat, by omega⟩
          have ht : t < ds.length := by omega
          have HW7 := grow_trans HW6 hg7
          have hD7 := HD.out.far HW7 hlt
          have lb6 : B < w6.heap.size := cell_lt l0
          have l0' := grow_cell hg7 hBg l0
          have l1' := grow_cell hg7 hBg l1
          have l2' := grow_cell hg7 hBg l2
          have fB7 : ∀ o, w7.frozen? ⟨B, o, none⟩ = false := fun o => (World.frozen?_of_block (w := w6) (a := ⟨B, o, none⟩) (hg7.block _ lb6 (by simp; omega))).trans (fB6 o)
          clear l0 l1 l2 fB6 hg7
          rcases hD7.lins with h0 | ⟨gl, off, rfl, hgl, hcl⟩
          · omega
          obtain ⟨a', c', m0, m1, m2, hnb, hI⟩ := hcl t ht
          have hn5 : (lstD ds).N t ≤ 5 := (hD7.2 (ds.getD t default) (by rw [List.getD_eq_getElem?_getD, List.getElem?_eq_getElem ht]; exact List.getElem_mem ht)).2.2
          generalize (lstD ds).N t = dn at m0 hI hn5 hnb
          generalize (lstD ds).Z t = dZ at hI
          generalize (lstD ds).B t = db at m1
          generalize (lstD ds).S t = dsb at m2
          have hS := slinnot_any a' dn c' dZ db dsb w7 (by omega) hI
          have lm := cell_lt m0
          have lb := cell_lt l0'
          clear hcl hI
          go_wp2_with fail
          refine hS.mono ?_
          rintro e w8 ⟨vv, rfl, ⟨A3, c4, rfl, hn3, hc4, O3⟩, hq8⟩
          clear hS m0 m1 m2 lm
          have hR4 := notR_len dn dZ db dsb
          generalize notR dn dZ db dsb = R at hn3 hc4 O3 hR4 ⊢
          have k0 := carry hq8 l0'; have k1 := carry hq8 l1'; have k2 := carry hq8 l2'
          have fB8 : ∀ o, w8.frozen? ⟨B, o, none⟩ = false := fun o => carryf hq8 (fB7 o) lb
          have HW8 := hid (grow_setNew (grow_setNew (grow_setNew (grow_trans HW7 (show w7.grownBy w8 (some g) from ⟨hq8.os, hq8.tape, hq8.output, hq8.size, fun j hj _ => hq8.block j hj⟩)) hwB 0 (.slice A3 R.1 c4)) hwB 1 (.int .i64 R.2.2.1)) hwB 2 (.bool R.2.2.2))
          have hR9 := ((((hR7.below hq8).set (q := B) hBg (by omega) 0 (.slice A3 R.1 c4)).set (q := B) hBg (by omega) 1 (.int .i64 R.2.2.1)).set (q := B) hBg (by omega) 2 (.bool R.2.2.2))
          obtain ⟨l0, l1, l2⟩ := set3 k0 k1 k2 (.slice A3 R.1 c4) (.int .i64 R.2.2.1) (.bool R.2.2.2)
          have kp : ∀ (W : World) (o : Nat) (v : Value), NewRow w7.heap.size W A3 R.1 R.2.1 → NewRow w7.heap.size (W.setCell ⟨B, o, none⟩ v) A3 R.1 R.2.1 := fun W o v x => x.grow (grow_set W B o v) (fun r e => by cases e; omega)
          have hrow9 := hid ((kp _ 2 (.bool R.2.2.2) (kp _ 1 (.int .i64 R.2.2.1) (kp _ 0 (.slice A3 R.1 c4) O3.newRow))).low (show w.heap.size ≤ w7.heap.size from Nat.le_trans hwr HW7.size))
          have hap9 := hid (show R.1 ≠ 0 → apA (.slice (some ⟨gl, off, none⟩) ds.length c3) A3 from fun h0 => by
            rcases O3 with h | ⟨g', rfl, h1, _, _⟩
            · exact absurd h h0
            · exact apA_new hD7.1 h1)
          clear kp O3 l0' l1' l2' fB7 hD7 hgl
          have kb := cell_lt k0
          go_upto_region 11 with fail
          clear k0 k1 k2 fB8 kb lb
          generalize ((w8.setCell ⟨B, 0, none⟩ (.slice A3 R.1 c4)).setCell ⟨B, 1, none⟩ (.int .i64 R.2.2.1)).setCell ⟨B, 2, none⟩ (.bool R.2.2.2) = w9 at *
          have hDL := HD.out.far HW8.out hlt
          have al := bal (Below.refl w9.heap.size w9) (.cells #[.slice A3 R.1 c4, .int .i64 R.2.2.1, .bool R.2.2.2] 28)
          have hDA := hid (hDL.below al)
          have hrA := hid (show NewRow w.heap.size (w9.alloc (.cells #[.slice A3 R.1 c4, .int .i64 R.2.2.1, .bool R.2.2.2] 28)) A3 R.1 R.2.1 from by
            rcases hrow9.out with h0 | ⟨g', off', ha, h1, h2, h3⟩
            · exact .inl h0
            · exact .inr ⟨g', off', ha, h1, Nat.lt_of_lt_of_le h2 al.size, fun k hk => carry al (h3 k hk)⟩)
          have hGA := hid (grow_alloc (grow_trans HG.out HW8.out) (.cells #[.slice A3 R.1 c4, .int .i64 R.2.2.1, .bool R.2.2.2] 28))
          have hRA := hid (hR9.alloc (.cells #[.slice A3 R.1 c4, .int .i64 R.2.2.1, .bool R.2.2.2] 28))
          have hsz := hGA.out.size
          have hnews := hid (show ∀ j u, ([.slice A3 R.1 c4, .int .i64 R.2.2.1, .bool R.2.2.2] : List Value)[j]? = some u → (w9.alloc (.cells #[.slice A3 R.1 c4, .int .i64 R.2.2.1, .bool R.2.2.2] 28)).cell? ((⟨w9.heap.size, 0, none⟩ : Addr).add j) = some u from fun j u hj => by
            rw [show (⟨w9.heap.size, 0, none⟩ : Addr).add j = ⟨w9.heap.size, j, none⟩ by unfold Addr.add; split <;> simp_all]
            have hj3 : j < 3 := (List.getElem?_eq_some_iff.1 hj).1
            rcases (show j = 0 ∨ j = 1 ∨ j = 2 by omega) with rfl | rfl | rfl <;> (simp at hj; subst hj; simp [go_sem]))
          have hone := hid (show ∀ u ∈ ([.slice A3 R.1 c4, .int .i64 R.2.2.1, .bool R.2.2.2] : List Value), u.oneCell' = true from fun u hu => by
            simp only [List.mem_cons, List.not_mem_nil, or_false] at hu
            rcases hu with rfl | rfl | rfl <;> rfl)
          clear al hDL
          have lb := cell_lt l0
          go_wp2_with ((at_builtin; go_loud (refine wpList_append_own_at _ rfl _ _ 23 rfl w.heap.size 28 i0 _ 3 40 Try.underlying23 hi hz0 hz1 hz2 rfl (by decide) _ _ _ rfl hDA.out.1 ⟨w9.heap.size, 0, none⟩ 1 1 [.slice A3 R.1 c4, .int .i64 R.2.2.1, .bool R.2.2.2] rfl rfl hnews.out hone.out (by unfold maxLen; omega) (by omega) hsz ?_); intro v' w5 hown hgrow _ hblk; have HOW := hid hown; have HGR := hid hgrow; have HBL := hid hblk; clear hown hgrow hblk))
          have hlow : ∀ r, (Value.slice (some ⟨gl, off, none⟩) ds.length c3).ownBlock = some r → w.heap.size ≤ r := fun r e => (hDA.out.1.lt r e).1
          go_roundw
          case rel =>
            refine ⟨k - 1, ds ++ [⟨A3, R.1, c4, R.2.1, R.2.2.1, R.2.2.2⟩], _, by omega, congrArg (Value.int .i64) (by omega), hDA.out.push (d := ⟨A3, R.1, c4, R.2.1, R.2.2.1, R.2.2.2⟩) hrA.out hap9.out (by simp only; omega) HOW.out HGR.out HBL.out, by rw [List.length_append]; simp only [List.length_cons, List.length_nil]; omega, grow_own (lo := 0) hGA.out HGR.out hlow, hRA.out.grow HGR.out (fun r e => by have := hlow r e; omega), by omega⟩
          case measure => simp [intOf]; omega
        · have dy : (y == 0) = false := by simpa using hy
          have lb := cell_lt l0
          go_upto_region 11 with fail
          clear lb
          obtain ⟨Z', hrow⟩ := hC6.row (lo := w.heap.size) (by omega)
          have hDL := HD.out.far HW6 hlt
          have al := bal (Below.refl w6.heap.size w6) (.cells #[.slice (some ⟨hh, 0, none⟩) 4 c, .int .i64 b, .bool s] 28)
          have hDA := hid (hDL.below al)
          have hrA := hid (show NewRow w.heap.size (w6.alloc (.cells #[.slice (some ⟨hh, 0, none⟩) 4 c, .int .i64 b, .bool s] 28)) (some ⟨hh, 0, none⟩) 4 Z' from by
            rcases hrow with h0 | ⟨g', off, ha, h1, h2, h3⟩
            · exact .inl h0
            · exact .inr ⟨g', off, ha, h1, Nat.lt_of_lt_of_le h2 al.size, fun k hk => carry al (h3 k hk)⟩)
          have hGA := hid (grow_alloc (grow_trans HG.out HW6) (.cells #[.slice (some ⟨hh, 0, none⟩) 4 c, .int .i64 b, .bool s] 28))
          have hRA := hid (hR6.alloc (.cells #[.slice (some ⟨hh, 0, none⟩) 4 c, .int .i64 b, .bool s] 28))
          have hsz := hGA.out.size
          have hnews := hid (show ∀ j u, ([.slice (some ⟨hh, 0, none⟩) 4 c, .int .i64 b, .bool s] : List Value)[j]? = some u → (w6.alloc (.cells #[.slice (some ⟨hh, 0, none⟩) 4 c, .int .i64 b, .bool s] 28)).cell? ((⟨w6.heap.size, 0, none⟩ : Addr).add j) = some u from fun j u hj => by
            rw [show (⟨w6.heap.size, 0, none⟩ : Addr).add j = ⟨w6.heap.size, j, none⟩ by unfold Addr.add; split <;> simp_all]
            have hj3 : j < 3 := (List.getElem?_eq_some_iff.1 hj).1
            rcases (show j = 0 ∨ j = 1 ∨ j = 2 by omega) with rfl | rfl | rfl <;> (simp at hj; subst hj; simp [go_sem]))
          have hone := hid (show ∀ u ∈ ([.slice (some ⟨hh, 0, none⟩) 4 c, .int .i64 b, .bool s] : List Value), u.oneCell' = true from fun u hu => by
            simp only [List.mem_cons, List.not_mem_nil, or_false] at hu
            rcases hu with rfl | rfl | rfl <;> rfl)
          clear al hDL
          have lb := cell_lt l0
          go_wp2_with ((at_builtin; go_loud (refine wpList_append_own_at _ rfl _ _ 23 rfl w.heap.size 28 i0 _ 3 40 Try.underlying23 hi hz0 hz1 hz2 rfl (by decide) _ _ _ rfl hDA.out.1 ⟨w6.heap.size, 0, none⟩ 1 1 [.slice (some ⟨hh, 0, none⟩) 4 c, .int .i64 b, .bool s] rfl rfl hnews.out hone.out (by unfold maxLen; omega) (by omega) hsz ?_); intro v' w5 hown hgrow _ hblk; have HOW := hid hown; have HGR := hid hgrow; have HBL := hid hblk; clear hown hgrow hblk))
          have hlow : ∀ r, (Value.slice a3 ds.length c3).ownBlock = some r → w.heap.size ≤ r := fun r e => (hDA.out.1.lt r e).1
          go_roundw
          case rel =>
            refine ⟨k - 1, ds ++ [⟨(some ⟨hh, 0, none⟩), 4, c, Z', b, s⟩], _, by omega, congrArg (Value.int .i64) (by omega), hDA.out.push (d := ⟨(some ⟨hh, 0, none⟩), 4, c, Z', b, s⟩) hrA.out (fun _ => hapN) (by simp only; omega) HOW.out HGR.out HBL.out, by rw [List.length_append]; simp only [List.length_cons, List.length_nil]; omega, grow_own (lo := 0) hGA.out HGR.out hlow, hRA.out.grow HGR.out (fun r e => by have := hlow r e; omega), by omega⟩
          case measure => simp [intOf]; omega
    · have hk00 : k = 0 := by omega
      subst hk00
      go_wp2
      go_ret
      exact ⟨_, ds, q, rfl, HD.out, by omega, HG.out, hR, by omega⟩
end Go.Proofs.Ytplocljoanaoeaa

namespace Go.Proofs.Ytplocljoanaoeaa
set_option linter.unusedVariables false
set_option linter.unusedSimpArgs false
open Go.RowKit
theorem DL.pushs {lo : Nat} {w w5 : World} {v v' : Value} {ds es : List DRow} (hd : DL lo w v ds) (he : ∀ d ∈ es, NewRow lo w d.a d.n d.Z ∧ (d.n ≠ 0 → apA v d.a) ∧ d.n ≤ 5) (hown : w5.ownsRow lo 28 3 v' (ds.length + es.length) (flatD ds ++ flatD es)) (hgrow : w.grownBy w5 v.ownBlock) (hblk : v'.ownBlock = v.ownBlock ∨ v'.ownBlock = some w.heap.size) : DL lo w5 v' (ds ++ es) := by
  refine ⟨by rw [flatD_app, List.length_append]; exact hown, fun x hx => ?_⟩
  rcases List.mem_append.1 hx with hx | hx
  · obtain ⟨h1, h2, h3⟩ := hd.2 x hx
    exact ⟨h1.growM hgrow h2, fun h0 => (h2 h0).next hblk (h1.ltM h0), h3⟩
  · obtain ⟨h1, h2, h3⟩ := he x hx
    exact ⟨h1.growM hgrow h2, fun h0 => (h2 h0).next hblk (h1.ltM h0), h3⟩
theorem NewRow.belowF {lo : Nat} {w w' : World} {A : Option Addr} {n : Nat} {Z : Nat → Int} (h : NewRow lo w A n Z) (hb : Below w.heap.size w w') : NewRow lo w' A n Z :=
  h.imp id (fun ⟨g, off, ha, h1, h2, h3⟩ => ⟨g, off, ha, h1, Nat.lt_of_lt_of_le h2 hb.size, fun k hk => carry hb (h3 k hk)⟩)
theorem NewRow.apA {lo base n' size n : Nat} {w u : World} {e : TypeId} {v : Value} {xs : List Value} {A : Option Addr} {Z : Nat → Int} (h : NewRow lo w A n Z) (ho : u.ownsRow base e size v n' xs) (hl : u.heap.size ≤ lo) : n ≠ 0 → apA v A := fun h0 => by
  rcases h with h | ⟨g', off, rfl, h1, _, _⟩
  · exact absurd h h0
  · intro g'' off' e1 e2
    injection e1 with e1
    injection e1 with e1 _ _
    subst e1
    have := (ho.lt _ e2).2
    omega

def lenLD : Value → Nat
  | .slice _ n _ => n
  | _ => 0
def SmLP (Bd : Nat) (w : World) (g : Nat) (e : Ending) (w' : World) : Prop :=
  ∃ v ds q, e = .returned v ∧ DL w.heap.size w' v ds ∧ ds.length ≤ 30 ∧ w.grownBy w' (some g) ∧ RD Bd w' g q ∧ q ≤ 20000
set_option maxRecDepth 100000 in
set_option maxHeartbeats 16000000 in
theorem l3some_any (Bd : Nat) (w : World) (g p : Nat) (hR : RD Bd w g p) (hp : p ≤ 10000) :
    Calls Try.prog 40 #[.pointer (some ⟨g, 0, none⟩)] w (SmLP Bd w g) := by
  obtain ⟨i0, hi, hz0, hz1, hz2⟩ := info_parts infoLnD
  have hlt := hR.lt
  have hle := hR.le
  go_enter Try.func40, Try.ntmps40
  go_wp2_with fail
  refine (l3list_any Bd w g p hR hp).mono ?_
  rintro e w1 ⟨v, ds, q, rfl, hd, hlen, hg, hR1, hq⟩
  obtain ⟨a3, c3, rfl⟩ := hd.sl
  have hw1 := hg.size
  go_wp2_with fail
  refine (pick_any Bd w1 g q 48 hR1 (by omega) (by omega)).mono ?_
  rintro e w2 ⟨x, _, _, rfl, hg2, hR2⟩
  have HD := hid (hd.far hg2 hlt)
  have HG := hid (grow_trans hg hg2)
  have hw2 := hg2.size
  clear hd hg hg2 hR hR1
  by_cases h0 : x = 0
  · subst h0
    go_wp2_with fail
    refine (l2some_any Bd w2 g _ hR2 (by omega)).mono ?_
    rintro e w3 ⟨A1, n1, c1, Z1, b1, s1, q1, rfl, ⟨hn1, hm1⟩, _, _, row1, hg3, hR3, hq1⟩
    have hw3 := hg3.size
    have hlt2 : g < w2.heap.size := hR2.lt
    go_wp2_with fail
    refine (l2some_any Bd w3 g _ hR3 (by omega)).mono ?_
    rintro e w4 ⟨A2, n2, c2, Z2, b2, s2, q2, rfl, ⟨hn2, hm2⟩, _, _, row2, hg4, hR4, hq2⟩
    have hw4 := hg4.size
    go_wp2_with fail
    refine (l2some_any Bd w4 g _ hR4 (by omega)).mono ?_
    rintro e w5 ⟨A6, n6, c6, Z6, b6, s6, q6, rfl, ⟨hn6, hm6⟩, _, _, row6', hg5, hR5, hq6⟩
    have hw5 := hg5.size
    have HW := grow_trans (grow_trans hg3 hg4) hg5
    have hD5 := HD.out.far HW hlt
    have hap1 := row1.apA HD.out.1 (Nat.le_refl _)
    have hap2 := row2.apA HD.out.1 hw3
    have hap6 := row6'.apA HD.out.1 (Nat.le_trans hw3 hw4)
    replace row1 := ((row1.grow hg4 (fun r e => by injection e with e; omega)).grow hg5 (fun r e => by injection e with e; omega)).low (show w.heap.size ≤ w2.heap.size by omega)
    replace row2 := (row2.grow hg5 (fun r e => by injection e with e; omega)).low (show w.heap.size ≤ w3.heap.size by omega)
    replace row6' := row6'.low (show w.heap.size ≤ w4.heap.size by omega)
    have al := bal (Below.refl w5.heap.size w5) (.cells #[.slice A1 n1 c1, .int .i64 b1, .bool s1, .slice A2 n2 c2, .int .i64 b2, .bool s2, .slice A6 n6 c6, .int .i64 b6, .bool s6] 28)
    have hDA := hid (hD5.below al)
    have hes := hid (show ∀ d ∈ ([⟨A1, n1, c1, Z1, b1, s1⟩, ⟨A2, n2, c2, Z2, b2, s2⟩, ⟨A6, n6, c6, Z6, b6, s6⟩] : List DRow), NewRow w.heap.size (w5.alloc (.cells #[.slice A1 n1 c1, .int .i64 b1, .bool s1, .slice A2 n2 c2, .int .i64 b2, .bool s2, .slice A6 n6 c6, .int .i64 b6, .bool s6] 28)) d.a d.n d.Z ∧ (d.n ≠ 0 → apA (.slice a3 ds.length c3) d.a) ∧ d.n ≤ 5 from fun d hd => by
      simp only [List.mem_cons, List.not_mem_nil, or_false] at hd
      rcases hd with rfl | rfl | rfl
      · exact ⟨row1.belowF al, hap1, by simp only; omega⟩
      · exact ⟨row2.belowF al, hap2, by simp only; omega⟩
      · exact ⟨row6'.belowF al, hap6, by simp only; omega⟩)
    have hGA := hid (grow_alloc (grow_trans HG.out HW) (.cells #[.slice A1 n1 c1, .int .i64 b1, .bool s1, .slice A2 n2 c2, .int .i64 b2, .bool s2, .slice A6 n6 c6, .int .i64 b6, .bool s6] 28))
    have hRA := hid (hR5.alloc (.cells #[.slice A1 n1 c1, .int .i64 b1, .bool s1, .slice A2 n2 c2, .int .i64 b2, .bool s2, .slice A6 n6 c6, .int .i64 b6, .bool s6] 28))
    have hsz := hGA.out.size
    have hnews := hid (show ∀ j u, ([.slice A1 n1 c1, .int .i64 b1, .bool s1, .slice A2 n2 c2, .int .i64 b2, .bool s2, .slice A6 n6 c6, .int .i64 b6, .bool s6] : List Value)[j]? = some u → (w5.alloc (.cells #[.slice A1 n1 c1, .int .i64 b1, .bool s1, .slice A2 n2 c2, .int .i64 b2, .bool s2, .slice A6 n6 c6, .int .i64 b6, .bool s6] 28)).cell? ((⟨w5.heap.size, 0, none⟩ : Addr).add j) = some u from fun j u hj => by
      rw [show (⟨w5.heap.size, 0, none⟩ : Addr).add j = ⟨w5.heap.size, j, none⟩ by unfold Addr.add; split <;> simp_all]
      have hj3 : j < 9 := (List.getElem?_eq_some_iff.1 hj).1
      rcases (show j = 0 ∨ j = 1 ∨ j = 2 ∨ j = 3 ∨ j = 4 ∨ j = 5 ∨ j = 6 ∨ j = 7 ∨ j = 8 by omega) with rfl | rfl | rfl | rfl | rfl | rfl | rfl | rfl | rfl <;> (simp at hj; subst hj; simp [go_sem]))
    have hone := hid (show ∀ u ∈ ([.slice A1 n1 c1, .int .i64 b1, .bool s1, .slice A2 n2 c2, .int .i64 b2, .bool s2, .slice A6 n6 c6, .int .i64 b6, .bool s6] : List Value), u.oneCell' = true from fun u hu => by
      simp only [List.mem_cons, List.not_mem_nil, or_false] at hu
      rcases hu with rfl | rfl | rfl | rfl | rfl | rfl | rfl | rfl | rfl <;> rfl)
    clear al hD5
    go_wp2_with ((at_builtin; go_loud (refine wpList_append_own_at _ rfl _ _ 23 rfl w.heap.size 28 i0 _ 3 40 Try.underlying23 hi hz0 hz1 hz2 rfl (by decide) _ _ _ rfl hDA.out.1 ⟨w5.heap.size, 0, none⟩ 3 3 [.slice A1 n1 c1, .int .i64 b1, .bool s1, .slice A2 n2 c2, .int .i64 b2, .bool s2, .slice A6 n6 c6, .int .i64 b6, .bool s6] rfl rfl hnews.out hone.out (by unfold maxLen; omega) (by omega) hsz ?_); intro v' w9 hown hgrow _ hblk; have HDN := hid (hDA.out.pushs hes.out hown hgrow hblk); have HGN := hid (grow_own (lo := 0) hGA.out hgrow (fun r e => (hDA.out.1.lt r e).1)); have HRN := hid (hRA.out.grow hgrow (fun r e => by have := (hDA.out.1.lt r e).1; omega)); clear hown hgrow hblk))
    go_ret
    exact ⟨_, _, _, rfl, HDN.out, by rw [List.length_append]; simp only [List.length_cons, List.length_nil]; omega, HGN.out, HRN.out, by omega⟩
  have d0 : (x == 0) = false := by simpa using h0
  clear h0
  by_cases h1 : x = 1
  · subst h1
    go_wp2
    go_loopw [3] (fun r3 wr => ∃ (ds : List DRow) (q : Nat), DL w.heap.size wr r3 ds ∧ ds.length ≤ 21 ∧ w.grownBy wr (some g) ∧ RD Bd wr g q ∧ q ≤ 11000 + 20 * ds.length) (fun r3 _ => 30 - lenLD r3)
    case atStart => exact ⟨ds, _, HD.out, by omega, HG.out, hR2, by omega⟩
    case round =>
      clear HD HG hR2 hlen hw1 hw2 hq
      obtain ⟨ds, q, hd, hlen, hg, hR2, hq⟩ := hrel
      obtain ⟨a3, c3, rfl⟩ := hd.sl
      have HD := hid hd; have HG := hid hg
      have hw2 := hg.size
      clear hd hg
      by_cases hl : ds.length ≤ 20
      · have dl : decide ((ds.length : Int) ≤ 20) = true := decide_eq_true (by omega)
        go_wp2_with fail
        refine (l2any_any Bd wr g _ hR2 (by omega)).mono ?_
        rintro e w5 ⟨A, c, Z, b, s, q1, rfl, ho, HW, hR5, hq1⟩
        have hw5 := HW.size
        obtain ⟨A2, c2, e2, hc1, hc2, hO⟩ := own_new (W := wr) (by omega) (by omega) ho
        obtain ⟨rfl, rfl⟩ : A = A2 ∧ c = c2 := by simpa using e2
        clear e2 ho
        have row1 := hO.newRow
        have hap1 := row1.apA HD.out.1 (Nat.le_refl _)
        replace row1 := row1.low (show w.heap.size ≤ wr.heap.size from hw2)
        have hD5 := HD.out.far HW hlt
        have al := bal (Below.refl w5.heap.size w5) (.cells #[.slice A 4 c, .int .i64 b, .bool s] 28)
        have hDA := hid (hD5.below al)
        have hes := hid (show ∀ d ∈ ([⟨A, 4, c, Z, b, s⟩] : List DRow), NewRow w.heap.size (w5.alloc (.cells #[.slice A 4 c, .int .i64 b, .bool s] 28)) d.a d.n d.Z ∧ (d.n ≠ 0 → apA (.slice a3 ds.length c3) d.a) ∧ d.n ≤ 5 from fun d hd => by
          simp only [List.mem_cons, List.not_mem_nil, or_false] at hd
          rcases hd with rfl
          · exact ⟨row1.belowF al, hap1, by simp only; omega⟩)
        have hGA := hid (grow_alloc (grow_trans HG.out HW) (.cells #[.slice A 4 c, .int .i64 b, .bool s] 28))
        have hRA := hid (hR5.alloc (.cells #[.slice A 4 c, .int .i64 b, .bool s] 28))
        have hsz := hGA.out.size
        have hnews := hid (show ∀ j u, ([.slice A 4 c, .int .i64 b, .bool s] : List Value)[j]? = some u → (w5.alloc (.cells #[.slice A 4 c, .int .i64 b, .bool s] 28)).cell? ((⟨w5.heap.size, 0, none⟩ : Addr).add j) = some u from fun j u hj => by
          rw [show (⟨w5.heap.size, 0, none⟩ : Addr).add j = ⟨w5.heap.size, j, none⟩ by unfold Addr.add; split <;> simp_all]
          have hj3 : j < 3 := (List.getElem?_eq_some_iff.1 hj).1
          rcases (show j = 0 ∨ j = 1 ∨ j = 2 by omega) with rfl | rfl | rfl <;> (simp at hj; subst hj; simp [go_sem]))
        have hone := hid (show ∀ u ∈ ([.slice A 4 c, .int .i64 b, .bool s] : List Value), u.oneCell' = true from fun u hu => by
          simp only [List.mem_cons, List.not_mem_nil, or_false] at hu
          rcases hu with rfl | rfl | rfl <;> rfl)
        clear al hD5
        go_wp2_with ((at_builtin; go_loud (refine wpList_append_own_at _ rfl _ _ 23 rfl w.heap.size 28 i0 _ 3 40 Try.underlying23 hi hz0 hz1 hz2 rfl (by decide) _ _ _ rfl hDA.out.1 ⟨w5.heap.size, 0, none⟩ 1 1 [.slice A 4 c, .int .i64 b, .bool s] rfl rfl hnews.out hone.out (by unfold maxLen; omega) (by omega) hsz ?_); intro v' w9 hown hgrow _ hblk; have HDN := hid (hDA.out.pushs hes.out hown hgrow hblk); have HGN := hid (grow_own (lo := 0) hGA.out hgrow (fun r e => (hDA.out.1.lt r e).1)); have HRN := hid (hRA.out.grow hgrow (fun r e => by have := (hDA.out.1.lt r e).1; omega)); clear hown hgrow hblk))
        go_roundw
        case rel => exact ⟨_, _, HDN.out, by rw [List.length_append]; simp only [List.length_cons, List.length_nil]; omega, HGN.out, HRN.out, by rw [List.length_append]; simp only [List.length_cons, List.length_nil]; omega⟩
        case measure =>
          obtain ⟨av, cv, e⟩ := HDN.out.sl
          rw [e, List.length_append]
          simp [lenLD]; omega
      · have dl : decide ((ds.length : Int) ≤ 20) = false := decide_eq_false (by omega)
        go_wp2
        go_ret
        exact ⟨_, ds, _, rfl, HD.out, by omega, HG.out, hR2, by omega⟩
  have d1 : (x == 1) = false := by simpa using h1
  clear h1
  by_cases h2 : x = 2
  · subst h2
    have HW := grow_refl w2 (some g)
    have hR5 := hR2
    have hD5 := HD.out
    have hw5 : w2.heap.size ≤ w2.heap.size := Nat.le_refl _
    have row1 : NewRow w.heap.size w2 none 0 (fun _ => 0) := .inl rfl
    have hap1 : (0 : Nat) ≠ 0 → apA (.slice a3 ds.length c3) none := fun h => absurd rfl h
    have hm1 : (0 : Nat) ≤ 5 := by omega
    have al := bal (Below.refl w2.heap.size w2) (.cells #[.slice none 0 0, .int .i64 0, .bool false] 28)
    have hDA := hid (hD5.below al)
    have hes := hid (show ∀ d ∈ ([⟨none, 0, 0, (fun _ => 0), 0, false⟩] : List DRow), NewRow w.heap.size (w2.alloc (.cells #[.slice none 0 0, .int .i64 0, .bool false] 28)) d.a d.n d.Z ∧ (d.n ≠ 0 → apA (.slice a3 ds.length c3) d.a) ∧ d.n ≤ 5 from fun d hd => by
      simp only [List.mem_cons, List.not_mem_nil, or_false] at hd
      rcases hd with rfl
      · exact ⟨row1.belowF al, hap1, by simp only; omega⟩)
    have hGA := hid (grow_alloc (grow_trans HG.out HW) (.cells #[.slice none 0 0, .int .i64 0, .bool false] 28))
    have hRA := hid (hR5.alloc (.cells #[.slice none 0 0, .int .i64 0, .bool false] 28))
    have hsz := hGA.out.size
    have hnews := hid (show ∀ j u, ([.slice none 0 0, .int .i64 0, .bool false] : List Value)[j]? = some u → (w2.alloc (.cells #[.slice none 0 0, .int .i64 0, .bool false] 28)).cell? ((⟨w2.heap.size, 0, none⟩ : Addr).add j) = some u from fun j u hj => by
      rw [show (⟨w2.heap.size, 0, none⟩ : Addr).add j = ⟨w2.heap.size, j, none⟩ by unfold Addr.add; split <;> simp_all]
      have hj3 : j < 3 := (List.getElem?_eq_some_iff.1 hj).1
      rcases (show j = 0 ∨ j = 1 ∨ j = 2 by omega) with rfl | rfl | rfl <;> (simp at hj; subst hj; simp [go_sem]))
    have hone := hid (show ∀ u ∈ ([.slice none 0 0, .int .i64 0, .bool false] : List Value), u.oneCell' = true from fun u hu => by
      simp only [List.mem_cons, List.not_mem_nil, or_false] at hu
      rcases hu with rfl | rfl | rfl <;> rfl)
    clear al hD5
    go_wp2_with ((at_builtin; go_loud (refine wpList_append_own_at _ rfl _ _ 23 rfl w.heap.size 28 i0 _ 3 40 Try.underlying23 hi hz0 hz1 hz2 rfl (by decide) _ _ _ rfl hDA.out.1 ⟨w2.heap.size, 0, none⟩ 1 1 [.slice none 0 0, .int .i64 0, .bool false] rfl rfl hnews.out hone.out (by unfold maxLen; omega) (by omega) hsz ?_); intro v' w9 hown hgrow _ hblk; have HDN := hid (hDA.out.pushs hes.out hown hgrow hblk); have HGN := hid (grow_own (lo := 0) hGA.out hgrow (fun r e => (hDA.out.1.lt r e).1)); have HRN := hid (hRA.out.grow hgrow (fun r e => by have := (hDA.out.1.lt r e).1; omega)); clear hown hgrow hblk))
    go_ret
    exact ⟨_, _, _, rfl, HDN.out, by rw [List.length_append]; simp only [List.length_cons, List.length_nil]; omega, HGN.out, HRN.out, by omega⟩
  have d2 : (x == 2) = false := by simpa using h2
  go_wp2
  go_ret
  exact ⟨_, ds, _, rfl, HD.out, by omega, HG.out, hR2, by omega⟩
end Go.Proofs.Ytplocljoanaoeaa

namespace Go.Proofs.Ytplocljoanaoeaa
set_option linter.unusedVariables false
set_option linter.unusedSimpArgs false
open Go.RowKit
/-- a drawn list -/
def DrwP (w : World) (e : Ending) (w' : World) : Prop :=
  ∃ a n c L, e = .returned (.slice a n c) ∧ n ≤ 30 ∧ Lins w' a n L ∧ (∀ k, k < n → L.N k ≤ 5) ∧ Below w.heap.size w w'
theorem DL.small {lo : Nat} {w : World} {v : Value} {ds : List DRow} (h : DL lo w v ds) : ∀ k, k < ds.length → (lstD ds).N k ≤ 5 := fun k hk =>
  (h.2 (ds.getD k default) (by rw [List.getD_eq_getElem?_getD, List.getElem?_eq_getElem hk]; exact List.getElem_mem hk)).2.2
set_option maxHeartbeats 4000000 in
theorem drawfarrun_any (B : Nat) (w : World) (a : Option Addr) (len cap : Nat) (hB : B ≤ w.heap.size) (hby : Bytes B w a len) (hlc : len ≤ cap) (hc : cap ≤ 9223372036854775807) :
    Calls Try.prog 25 #[.slice a len cap] w (DrwP w) := by
  have hO := open_any B w a len cap hB hby hlc hc
  go_enter Try.func25, Try.ntmps25
  go_wp2_with fail
  refine hO.mono ?_
  rintro e w1 ⟨g, rfl, hb, hR, hg⟩
  clear hO
  go_wp2_with fail
  refine (l3some_any B w1 g 0 hR (by omega)).mono ?_
  rintro e w2 ⟨v, ds, q, rfl, hd, hn, hg2, _, _⟩
  obtain ⟨a3, c3, rfl⟩ := hd.sl
  have hz := hb.size
  go_wp2
  go_ret
  refine ⟨a3, ds.length, c3, lstD ds, rfl, hn, hd.lins, hd.small, hb.grown hg2 hb.size (fun r hr => ?_)⟩
  have := Option.some.inj hr
  omega
theorem code_form {n : Nat} {L : Lst} : ((runE n L).code == 3) = !(okS n L) := by
  unfold runE
  cases h : okS n L
  · simp [FarE.code]
  · rw [if_neg (by simp)]
    split
    · simp [FarE.code]
    · split
      · split <;> simp [FarE.code]
      · split
        · simp [FarE.code]
        · split <;> simp [FarE.code]
theorem right_all {n : Nat} {L : Lst} (h : n ≤ 20) (k : ∀ j, j < n → okL (L.N j) (L.Z j) (L.B j) = true) : okS n L = true := okS_iff.2 ⟨h, k⟩
def rbF (n : Nat) (L : Lst) (k : Nat) : Bool := decide (n ≤ 20 ∧ ∀ j, j < k → okL (L.N j) (L.Z j) (L.B j) = true)
theorem rbF_no {n k : Nat} {L : Lst} (h : rbF n L k = false) : rbF n L (k + 1) = false := by
  unfold rbF at *
  rw [decide_eq_false_iff_not] at *
  exact fun x => h ⟨x.1, fun j hj => x.2 j (by omega)⟩
theorem rbF_yes {n k : Nat} {L : Lst} (h : rbF n L k = true) : rbF n L (k + 1) = okL (L.N k) (L.Z k) (L.B k) := by
  unfold rbF at *
  rw [decide_eq_true_iff] at h
  cases e : okL (L.N k) (L.Z k) (L.B k)
  · rw [decide_eq_false_iff_not]
    intro x
    have := x.2 k (by omega)
    rw [e] at this
    cases this
  · rw [decide_eq_true_iff]
    refine ⟨h.1, fun j hj => ?_⟩
    by_cases hjk : j = k
    · subst hjk; exact e
    · exact h.2 j (by omega)
end Go.Proofs.Ytplocljoanaoeaa
