/- Contracts of the program's forest of places: leader. -/
import Derived.Test.YtanfljajafelgaaTsA
import Derived.Test.YtanfljajafelgaaFarO
namespace Go.Proofs.Ytanfljajafelgaa
set_option linter.unusedVariables false
set_option linter.unusedSimpArgs false
open Go.RowKit
def PlK (W : World) (v : Value) : Prop := ∃ (g off n : Nat) (cs : Array Value), v = .agg #[.pointer (some ⟨g, off, none⟩), .int .i64 (n : Int)] ∧ W.heap[g]? = some (.cells cs 76 (0, 0))
theorem infoLp : (Try.prog.info? 339).map (fun i => (i.zero, i.size, i.bytes)) = some (some (.agg #[.pointer none, .int .i64 0]), 2, 16) := by kernel_rfl
theorem eq_ptr (d : Nat) {t te : TypeId} {i : TypeInfo} {a b : Addr} {P : Program} {w : World} (hp : P.underlying t = some (.pointer te)) (hi : P.info? te = some i) (hz : i.size ≠ 0) (r : Bool) (hr : (sameAddr a b).run P w = .ok r w) :
    (Op.equalIn (d + 1) t (.pointer (some a)) (.pointer (some b))).run P w = .ok r w := by
  simp [Op.equalIn, run_underlying hp, sizeOf, typeInfo, hi, hz, hr]
theorem keyM_pl (W : World) : KeyM Try.prog 339 (KpT W) (PlK W) where
  kind := ⟨_, Try.underlying339, fun a b => by cases a <;> cases b <;> rfl⟩
  check := by
    rintro e k w ⟨g, off, n, cs, rfl, h⟩
    have h : ∀ d, (Instr.checkKey e (d + 2) 339 (.agg #[.pointer (some ⟨g, off, none⟩), .int .i64 (n : Int)])).run Try.prog w = .ok () w := by
      intro d
      simp [Instr.checkKey, run_underlying Try.underlying339, run_underlying Try.underlying337, run_underlying Try.underlying3, part, isAgg, Result.andThen]
    exact h 9998
  eql := by
    rintro a b w hC ⟨g, off, n, cs, rfl, h⟩ ⟨g', off', n', cs', rfl, h'⟩
    obtain ⟨i, hi, hzz⟩ := Option.map_eq_some_iff.1 infoTm
    simp only [Prod.mk.injEq] at hzz
    obtain ⟨_, hs, _⟩ := hzz
    have h1 := hC g cs h
    have h2 := hC g' cs' h'
    have hp : ∃ r, (sameAddr ⟨g, off, none⟩ ⟨g', off', none⟩).run Try.prog w = .ok r w ∧ (r = true ↔ (⟨g, off, none⟩ : Addr) = ⟨g', off', none⟩) := by
      by_cases e : (⟨g, off, none⟩ : Addr) = ⟨g', off', none⟩
      · rw [e]; exact ⟨true, run_sameAddr_same _ _, by simp⟩
      · exact ⟨false, run_sameAddr_other _ e h1 h2, by simp [e]⟩
    obtain ⟨r, hr, hri⟩ := hp
    have hq : ∀ d, ∃ r, (Op.equalIn (d + 2) 339 (.agg #[.pointer (some ⟨g, off, none⟩), .int .i64 (n : Int)]) (.agg #[.pointer (some ⟨g', off', none⟩), .int .i64 (n' : Int)])).run Try.prog w = .ok r w ∧ (r = true ↔ (Value.agg #[.pointer (some ⟨g, off, none⟩), .int .i64 (n : Int)]) = .agg #[.pointer (some ⟨g', off', none⟩), .int .i64 (n' : Int)]) := by
      intro d
      have h3 := eq_ptr d (P := Try.prog) (w := w) Try.underlying337 hi (by rw [hs]; decide) r hr
      rw [run_equalIn_struct w (d + 1) 339 _ _ (by simp [Program.fieldsOf, Try.underlying339]) (by kernel_rfl)]
      have h4 := run_equalIn_int (P := Try.prog) w d 3 .i64 .i64 n n' Try.underlying3
      cases r with
      | false =>
        refine ⟨false, by simp [Program.fieldsOf, Try.underlying339, Op.eqFields, part, isAgg, run_underlying Try.underlying337, run_underlying Try.underlying3, h3, h4, Result.andThen], by simp at hri; simp; intro e1 e2; exact absurd e2 (hri e1)⟩
      | true =>
        have he := hri.1 rfl
        by_cases hn : n = n'
        · subst hn
          exact ⟨true, by simp [Program.fieldsOf, Try.underlying339, Op.eqFields, part, isAgg, run_underlying Try.underlying337, run_underlying Try.underlying3, h3, h4, Result.andThen], by rw [he]; simp⟩
        · have hb : ((n : Int) == (n' : Int)) = false := by simp; omega
          exact ⟨false, by simp [Program.fieldsOf, Try.underlying339, Op.eqFields, part, isAgg, run_underlying Try.underlying337, run_underlying Try.underlying3, h3, h4, hb, Result.andThen], by simp; intro _ _; omega⟩
    exact hq 9998
  stay := by
    rintro a ⟨g, off, n, cs, rfl, h⟩
    simp [Instr.sameBits]
theorem Lp.plk {W : World} {p : Lp} (h : p.ok W) (h0 : p.n ≠ 0) : PlK W p.key := by
  obtain ⟨A, n, c, kid⟩ := p
  rcases h.2.2 with h | ⟨g, off, cs, rfl, _, hg, _⟩
  · exact absurd h h0
  · exact ⟨g, off, n, cs, rfl, hg⟩
theorem Wrt.new {lo hi : Nat} {w w' : World} (h : Wrt lo hi w w') (o : Obj) : Wrt lo hi w (w'.alloc o) :=
  h.trans (Wrt.of_grown (World.grownBy_alloc w' o none) (fun g e => by cases e))
theorem Wrt.setN {lo hi b o : Nat} {w w' : World} (h : Wrt lo hi w w') (hb : w.heap.size ≤ b) (v : Value) : Wrt lo hi w (w'.setCell ⟨b, o, none⟩ v) :=
  ⟨h.os, h.tape, h.output, by simpa [World.setCell] using h.size, fun k hk hr => (Deep.blk_setCell_other _ _ _ _ (by simp only; omega)).trans (h.block k hk hr)⟩
theorem Wrt.grown {lo hi : Nat} {w w' w'' : World} {row : Option Nat} (h : Wrt lo hi w w') (hg : w'.grownBy w'' row) (hr : ∀ g, row = some g → (lo ≤ g ∧ g < hi) ∨ w.heap.size ≤ g) : Wrt lo hi w w'' :=
  ⟨hg.os.trans h.os, hg.tape.trans h.tape, hg.output.trans h.output, Nat.le_trans h.size hg.size, fun k hk hx => (hg.block k (Nat.lt_of_lt_of_le hk h.size) (fun e => by have := hr k e.symm; omega)).trans (h.block k hk hx)⟩
/-- a box of two cells -/
def Bx2 (b : Nat) (w : World) (x y : Value) : Prop := w.cell? ⟨b, 0, none⟩ = some x ∧ w.cell? ⟨b, 1, none⟩ = some y ∧ w.frozen? ⟨b, 0, none⟩ = false ∧ w.frozen? ⟨b, 1, none⟩ = false
theorem Bx2.new (w : World) (x y : Value) (t : TypeId) : Bx2 w.heap.size (w.alloc (.cells #[x, y] t)) x y := ⟨by simp [go_sem], by simp [go_sem], by simp [go_sem], by simp [go_sem]⟩
theorem Bx2.below {b : Nat} {w w' : World} {x y : Value} (h : Bx2 b w x y) (hb : Below w.heap.size w w') : Bx2 b w' x y :=
  ⟨carry hb h.1, carry hb h.2.1, carryf hb h.2.2.1 (cell_lt h.1), carryf hb h.2.2.2 (cell_lt h.1)⟩
theorem Bx2.keep {b : Nat} {w w' : World} {x y : Value} {row : Option Nat} (h : Bx2 b w x y) (hg : w.grownBy w' row) (hne : row ≠ some b) : Bx2 b w' x y := by
  have hb := hg.block b (cell_lt h.1) (fun e => hne e.symm)
  exact ⟨(World.cell?_of_block (w := w) (a := ⟨b, 0, none⟩) hb).trans h.1, (World.cell?_of_block (w := w) (a := ⟨b, 1, none⟩) hb).trans h.2.1, (World.frozen?_of_block (w := w) (a := ⟨b, 0, none⟩) hb).trans h.2.2.1, (World.frozen?_of_block (w := w) (a := ⟨b, 1, none⟩) hb).trans h.2.2.2⟩
theorem Bx2.far {b p o : Nat} {w : World} {x y : Value} (h : Bx2 b w x y) (v : Value) (hp : p ≠ b) : Bx2 b (w.setCell ⟨p, o, none⟩ v) x y := h.keep (grow_set _ p _ _) (fun e => by cases e; exact hp rfl)
theorem Bx2.put {b : Nat} {w : World} {x y : Value} (h : Bx2 b w x y) (x' y' : Value) : Bx2 b ((w.setCell ⟨b, 0, none⟩ x').setCell ⟨b, 1, none⟩ y') x' y' := by
  obtain ⟨h0, h1, f0, f1⟩ := h
  refine ⟨?_, ?_, by simpa [go_sem] using f0, by simpa [go_sem] using f1⟩
  · rw [World.cell?_setCell_other _ _ _ _ (by simp)]; exact World.cell?_setCell_same _ _ _ h0
  · exact World.cell?_setCell_same _ _ _ (by rw [World.cell?_setCell_other _ _ _ _ (by simp)]; exact h1)
/-- a forest in the map M of w, over lists that are read in W -/
structure FsW (W w : World) (M : Nat) (F : Value → Option Value) (rk : Value → Nat) (N : Nat) : Prop where
  sz : W.heap.size ≤ w.heap.size
  kp : KpT W w
  own : OwnM w (PlK W) M F
  fst : Fst W F rk N
theorem FsW.wrt {W w w' : World} {M N : Nat} {F : Value → Option Value} {rk : Value → Nat} (h : FsW W w M F rk N) (hz : w.heap.size ≤ w'.heap.size) (hb : w'.heap[M]? = w.heap[M]?) (hk : KpT w w') : FsW W w' M F rk N :=
  ⟨Nat.le_trans h.sz hz, h.kp.trans hk, h.own.of_block hb, h.fst⟩
theorem KpT.setMap {w w' : World} {M : Nat} {K : Value → Prop} {F : Value → Option Value} (hm : OwnM w K M F) (hg : w.grownBy w' (some M)) : KpT w w' := by
  intro g cs h
  refine (hg.block g (Array.getElem?_eq_some_iff.1 h).1 (fun e => ?_)).trans h
  injection e with e
  obtain ⟨es, cl, hb, _⟩ := hm
  rw [e, hb] at h
  cases h
theorem FsW.below {W w w' : World} {M N : Nat} {F : Value → Option Value} {rk : Value → Nat} (h : FsW W w M F rk N) (hb : Below w.heap.size w w') : FsW W w' M F rk N := h.wrt hb.size (hb.block M h.own.lt) (KpT.below hb)
theorem FsW.setN {W w : World} {M N b o : Nat} {F : Value → Option Value} {rk : Value → Nat} (h : FsW W w M F rk N) (hb : W.heap.size ≤ b) (hM : b ≠ M) (v : Value) : FsW W (w.setCell ⟨b, o, none⟩ v) M F rk N :=
  ⟨by simpa [World.setCell] using h.sz, fun g cs hg => (Deep.blk_setCell_other _ _ _ _ (by simp only; have := (Array.getElem?_eq_some_iff.1 hg).1; omega)).trans (h.kp g cs hg), h.own.of_block (Deep.blk_setCell_other _ _ _ _ (by simp only; omega)), h.fst⟩
theorem FsW.put {W w w' : World} {M N : Nat} {F F' : Value → Option Value} {rk rk' : Value → Nat} {N' : Nat} (h : FsW W w M F rk N) (ho : OwnM w' (PlK W) M F') (hg : w.grownBy w' (some M)) (hf : Fst W F' rk' N') : FsW W w' M F' rk' N' :=
  ⟨Nat.le_trans h.sz hg.size, h.kp.trans (KpT.setMap h.own hg), ho, hf⟩
end Go.Proofs.Ytanfljajafelgaa
