/- The reader of the given draws: what holds of it, and contracts of pick, num and Open. -/
import Derived.Test.YtbdmofmoegmigaaRatB
namespace Go.Proofs.Ytbdmofmoegmigaa
set_option linter.unusedVariables false
set_option linter.unusedSimpArgs false
open Go.RowKit
/-- bytes that came in: nil or empty, or so many cells below the heap's size -/
def Bytes (B : Nat) (w : World) (a : Option Addr) (len : Nat) : Prop :=
  len = 0 ∨ ∃ (b off : Nat) (zs : Nat → Int), a = some ⟨b, off, none⟩ ∧ b < B ∧ (∀ k, 0 ≤ zs k ∧ zs k ≤ 255) ∧ ∀ k, k < len → w.cell? ⟨b, off + k, none⟩ = some (.int .u8 (zs k))
/-- the reader in block g, at place p -/
def RD (B : Nat) (w : World) (g p : Nat) : Prop :=
  ∃ (a : Option Addr) (len cap : Nat), B ≤ g ∧ w.cell? ⟨g, 0, none⟩ = some (.slice a len cap) ∧ w.cell? ⟨g, 1, none⟩ = some (.int .i64 p) ∧ w.frozen? ⟨g, 1, none⟩ = false ∧ len ≤ 2000 ∧ Bytes B w a len
def PickPost (B : Nat) (w : World) (g p : Nat) (n : Int) (e : Ending) (w' : World) : Prop :=
  ∃ x : Int, 0 ≤ x ∧ x < n ∧ e = .returned (.int .i64 x) ∧ w.grownBy w' (some g) ∧ RD B w' g (p + 1)
theorem pick_post {B : Nat} {w w' : World} {g p : Nat} {n : Int} {e : Ending} (x : Int) (h0 : 0 ≤ x) (h1 : x < n) (h2 : e = .returned (.int .i64 x)) (h3 : w.grownBy w' (some g)) (h4 : RD B w' g (p + 1)) : PickPost B w g p n e w' := ⟨x, h0, h1, h2, h3, h4⟩

theorem xor_nat (a b : Nat) (ha : a < 4611686018427387904) (hb : b < 4611686018427387904) : bits .xor .i64 (a : Int) (b : Int) = ((a ^^^ b : Nat) : Int) := by
  have hx : a ^^^ b < 2 ^ 62 := Nat.xor_lt_two_pow (by omega) (by omega)
  have h1 : (BitVec.ofInt 64 (a : Int)).toNat = a := by
    rw [BitVec.ofInt_natCast, BitVec.toNat_ofNat]; exact Nat.mod_eq_of_lt (by omega)
  have h2 : (BitVec.ofInt 64 (b : Int)).toNat = b := by
    rw [BitVec.ofInt_natCast, BitVec.toNat_ofNat]; exact Nat.mod_eq_of_lt (by omega)
  show IntKind.i64.wrap ((BitVec.ofInt 64 (a : Int) ^^^ BitVec.ofInt 64 (b : Int)).toNat : Int) = _
  rw [BitVec.toNat_xor, h1, h2]
  simp [IntKind.wrap, IntKind.bits, IntKind.signed]
  omega
theorem xor_pos {a b : Int} (h1 : 0 ≤ a) (h2 : a < 4611686018427387904) (h3 : 0 ≤ b) (h4 : b < 4611686018427387904) : 0 ≤ bits .xor .i64 a b := by
  have := xor_nat a.toNat b.toNat (by omega) (by omega)
  rw [Int.toNat_of_nonneg h1, Int.toNat_of_nonneg h3] at this
  omega
theorem grow_set (w : World) (g o : Nat) (v : Value) : w.grownBy (w.setCell ⟨g, o, none⟩ v) (some g) :=
  ⟨rfl, rfl, rfl, by simp [World.setCell], fun k _ hk => Below.heap_setCell _ _ _ _ (by rintro rfl; exact hk rfl)⟩
theorem grow_drewN {w w' : World} {r : Option Nat} (h : w.grownBy w' r) (n : Nat) : w.grownBy (w'.drewN n) r := ⟨h.os, h.tape, h.output, h.size, h.block⟩
theorem Bytes.mono {B : Nat} {w w' : World} {a : Option Addr} {len : Nat} (h : Bytes B w a len) (hk : ∀ b o v, b < B → w.cell? ⟨b, o, none⟩ = some v → w'.cell? ⟨b, o, none⟩ = some v) : Bytes B w' a len := by
  rcases h with h | ⟨b, off, zs, ha, hb, hz, hc⟩
  · exact .inl h
  · exact .inr ⟨b, off, zs, ha, hb, hz, fun k hl => hk _ _ _ hb (hc k hl)⟩
theorem RD.step {B : Nat} {w : World} {g p : Nat} (h : RD B w g p) : RD B (w.setCell ⟨g, 1, none⟩ (.int .i64 ((p : Int) + 1))) g (p + 1) := by
  obtain ⟨a, len, cap, hB, c0, c1, f1, hl, hby⟩ := h
  refine ⟨a, len, cap, hB, ?_, ?_, ?_, hl, hby.mono fun b o v hb hc => ?_⟩
  · rw [World.cell?_setCell_other _ _ _ _ (by simp)]; exact c0
  · rw [World.cell?_setCell_same _ _ _ c1]; simp
  · simpa [go_sem] using f1
  · rw [World.cell?_setCell_other _ _ _ _ (by simp <;> omega)]; exact hc
theorem RD.drewN {B : Nat} {w : World} {g p : Nat} (h : RD B w g p) (n : Nat) : RD B (w.drewN n) g p := h

theorem pick_any (B : Nat) (w : World) (g p : Nat) (n : Int) (hR : RD B w g p) (hp : p ≤ 1000000000) (hn : 1 ≤ n ∧ n ≤ 1000000000) :
    Calls Try.prog 105 #[.pointer (some ⟨g, 0, none⟩), .int .i64 n] w (PickPost B w g p n) := by
  have HR := hR.step
  obtain ⟨a, len, cap, hB, c0, c1, f1, hl, hby⟩ := hR
  obtain ⟨n1, n2⟩ := hn
  rcases hby with rfl | ⟨b, off, zs, rfl, hb, hz, hcell⟩
  · go_enter Try.func105, Try.ntmps105
    go_wp2
    go_ret
    exact pick_post 0 (by omega) (by omega) rfl (grow_set _ _ _ _) HR
  · have hgb : ¬ b = g := by omega
    by_cases hpl : p < len
    · obtain ⟨z1, z2⟩ := hz p
      have cp := hcell p hpl
      have hl0 : ((len : Int) == 0) = false := by simp; omega
      generalize zs p = z at *
      clear hz hcell
      have m0 := Int.emod_nonneg z (show n ≠ 0 by omega)
      have m1 := Int.emod_lt_of_pos z (show 0 < n by omega)
      go_enter Try.func105, Try.ntmps105
      go_wp2
      go_ret
      exact pick_post (z % n) m0 m1 rfl (grow_set _ _ _ _) HR
    · by_cases h0 : len = 0
      · subst h0
        go_enter Try.func105, Try.ntmps105
        go_wp2
        go_ret
        exact pick_post 0 (by omega) (by omega) rfl (grow_set _ _ _ _) HR
      · have hl0 : ((len : Int) == 0) = false := by simp; omega
        have i1 : p % len < len := Nat.mod_lt _ (by omega)
        have i2 : (p * 7 + 3) % len < len := Nat.mod_lt _ (by omega)
        obtain ⟨z1, z2⟩ := hz (p % len)
        obtain ⟨y1, y2⟩ := hz ((p * 7 + 3) % len)
        have cp := hcell _ i1
        have cq := hcell _ i2
        generalize zs (p % len) = z at *
        generalize zs ((p * 7 + 3) % len) = y at *
        clear hz hcell
        have j1 := Int.emod_nonneg ((p : Int) * 7 + 3) (show (len : Int) ≠ 0 by omega)
        have j2 := Int.emod_lt_of_pos ((p : Int) * 7 + 3) (show 0 < (len : Int) by omega)
        obtain ⟨j3, j4⟩ := ediv_bd (d := (p : Int)) (g := (len : Int)) (by omega) (by omega)
        go_enter Try.func105, Try.ntmps105
        go_wp2
        go_quiet (fail)
        go_wp2
        go_ret
        have X0 := xor_pos (a := z * 131 + y * 1117 + (p : Int) * 29 + (p : Int) / (len : Int) * 53) (b := (z * 131 + y * 1117 + (p : Int) * 29 + (p : Int) / (len : Int) * 53) / 64) (by omega) (by omega) (by omega) (by omega)
        exact pick_post _ (Int.tmod_nonneg _ X0) (Int.tmod_lt_of_pos _ (by omega)) rfl (grow_drewN (grow_set _ _ _ _) _) HR

theorem grow_cell {w w' : World} {g b o : Nat} {v : Value} (h : w.grownBy w' (some g)) (hb : b ≠ g) (hc : w.cell? ⟨b, o, none⟩ = some v) : w'.cell? ⟨b, o, none⟩ = some v :=
  h.cell hc (by simp; exact hb)
theorem grow_trans {w w1 w2 : World} {r : Option Nat} (h : w.grownBy w1 r) (k : w1.grownBy w2 r) : w.grownBy w2 r :=
  ⟨k.os.trans h.os, k.tape.trans h.tape, k.output.trans h.output, Nat.le_trans h.size k.size, fun i hi hr => (k.block i (Nat.lt_of_lt_of_le hi h.size) hr).trans (h.block i hi hr)⟩
theorem grow_alloc {w w1 : World} {r : Option Nat} (h : w.grownBy w1 r) (o : Obj) : w.grownBy (w1.alloc o) r := grow_trans h (World.grownBy_alloc _ _ _)
theorem grow_refl (w : World) (r : Option Nat) : w.grownBy w r := ⟨rfl, rfl, rfl, Nat.le_refl _, fun _ _ _ => rfl⟩
theorem grow_below {B : Nat} {w w' : World} {g : Nat} (h : w.grownBy w' (some g)) (hg : B ≤ g) (hB : B ≤ w.heap.size) : Below B w w' :=
  (Below.refl B w).grown h hB (fun k hk => by cases hk; exact hg)
theorem RD.alloc {B : Nat} {w : World} {g p : Nat} (h : RD B w g p) (o : Obj) : RD B (w.alloc o) g p := by
  obtain ⟨a, len, cap, hB, c0, c1, f1, hl, hby⟩ := h
  refine ⟨a, len, cap, hB, (World.cell?_alloc_lt _ _ _ (World.block_lt_of_cell? w _ c0)).trans c0, (World.cell?_alloc_lt _ _ _ (World.block_lt_of_cell? w _ c1)).trans c1, ?_, hl, hby.mono fun b o v _ hc => (World.cell?_alloc_lt _ _ _ (World.block_lt_of_cell? w _ hc)).trans hc⟩
  exact ((Below.refl w.heap.size w).alloc (Nat.le_refl _) o).frozen (p := ⟨g, 1, none⟩) (World.block_lt_of_cell? w _ c1) |>.trans f1

def NumPost (B : Nat) (w : World) (g p : Nat) (zs : List Int) (e : Ending) (w' : World) : Prop :=
  ∃ x : Int, x ∈ zs ∧ e = .returned (.int .i64 x) ∧ w.grownBy w' (some g) ∧ RD B w' g (p + 1)
theorem num_post {B : Nat} {w w' : World} {g p : Nat} {zs : List Int} {e : Ending} (x : Int) (h1 : x ∈ zs) (h2 : e = .returned (.int .i64 x)) (h3 : w.grownBy w' (some g)) (h4 : RD B w' g (p + 1)) : NumPost B w g p zs e w' := ⟨x, h1, h2, h3, h4⟩

theorem num_any (B : Nat) (w : World) (g p : Nat) (b n cap : Nat) (zs : List Int) (hR : RD B w g p) (hp : p ≤ 1000000000) (hn : n = zs.length) (h1 : 1 ≤ zs.length) (h2 : zs.length ≤ 1000000) (hb : b ≠ g) (hc : ∀ k, k < zs.length → w.cell? ⟨b, k, none⟩ = some (.int .i64 (zs.getD k 0))) :
    Calls Try.prog 92 #[.pointer (some ⟨g, 0, none⟩), .slice (some ⟨b, 0, none⟩) n cap] w (NumPost B w g p zs) := by
  subst hn
  have hP := pick_any B w g p (zs.length : Int) hR hp ⟨by omega, by omega⟩
  go_enter Try.func92, Try.ntmps92
  go_wp2_with fail
  refine hP.mono ?_
  rintro e w1 ⟨x, x0, x1, rfl, hg, hR1⟩
  obtain ⟨k, rfl⟩ := Int.eq_ofNat_of_zero_le x0
  have hk : k < zs.length := by omega
  have ck := grow_cell hg hb (hc k hk)
  have hm : zs.getD k 0 ∈ zs := by rw [List.getD_eq_getElem?_getD, List.getElem?_eq_getElem hk]; exact List.getElem_mem hk
  generalize zs.getD k 0 = x at ck hm
  generalize hlen : zs.length = len at *
  clear hc hP
  go_wp2_with fail
  go_ret
  exact num_post x hm rfl hg hR1
end Go.Proofs.Ytbdmofmoegmigaa
