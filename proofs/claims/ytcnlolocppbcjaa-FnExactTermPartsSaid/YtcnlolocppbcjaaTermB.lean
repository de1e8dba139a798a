/- Contracts of the laws' copy of a term and of a list of terms. -/
import Derived.Test.YtcnlolocppbcjaaTermA
import Derived.Test.YtcnlolocppbcjaaLinW
namespace Go.Proofs.Ytcnlolocppbcjaa
set_option linter.unusedVariables false
set_option linter.unusedSimpArgs false
open Go.RowKit
def termV (LA : Nat → Option Addr) (kid : Nat → Tm) (j : Nat) : Value := if j % 2 = 0 then .string (kid (j / 2)).nm else .slice (LA (j / 2)) (kid (j / 2)).n (kid (j / 2)).n
theorem termV_0 (LA : Nat → Option Addr) (kid : Nat → Tm) (k : Nat) : termV LA kid (k * 2) = .string (kid k).nm := by
  unfold termV; rw [if_pos (by omega), show k * 2 / 2 = k by omega]
theorem termV_1 (LA : Nat → Option Addr) (kid : Nat → Tm) (k : Nat) : termV LA kid (k * 2 + 1) = .slice (LA k) (kid k).n (kid k).n := by
  unfold termV; rw [if_neg (by omega), show (k * 2 + 1) / 2 = k by omega]
theorem termV_old {LA : Nat → Option Addr} {kid : Nat → Tm} {A : Option Addr} {k j : Nat} (h : j / 2 ≠ k) : termV (fun i => if i = k then A else LA i) kid j = termV LA kid j := by
  unfold termV; simp [h]
def zeroT (j : Nat) : Value := if j % 2 = 0 then .string ⟨#[]⟩ else .slice none 0 0
theorem infoTm : (Try.prog.info? 38).map (fun i => (i.zero, i.size, i.bytes)) = some (some (.agg #[.string ⟨#[]⟩, .slice none 0 0]), 2, 40) := by kernel_rfl
theorem rowIs_madeT (w : World) (n : Nat) (t : TypeId) : (w.alloc (.cells (madeCells #[.string ⟨#[]⟩, .slice none 0 0] n) t)).rowIs w.heap.size t n zeroT :=
  ⟨_, Deep.blk_alloc_new _ _, size_madeCells _ _, fun i hi => by
    have h2 : i % 2 = 0 ∨ i % 2 = 1 := by omega
    rcases h2 with h2 | h2 <;> simp [madeCells, hi, h2, zeroT]⟩
theorem run_make_terms (n : Nat) (hn : n ≤ 1048576) (w : World) :
    (Instr.makeSlice 36 (.int .i64 (n : Int)) (.int .i64 (n : Int))).run Try.prog w = .ok (.slice (some ⟨w.heap.size, 0, none⟩) n n) (w.alloc (.cells (madeCells #[.string ⟨#[]⟩, .slice none 0 0] (n * 2)) 38)) := by
  obtain ⟨i, hi, hzz⟩ := Option.map_eq_some_iff.1 infoTm
  simp only [Prod.mk.injEq] at hzz
  obtain ⟨hz, hs, hb⟩ := hzz
  have hr := run_make (P := Try.prog) w 36 38 i _ Try.underlying36 hi hz .i64 .i64 n n (by omega) (Int.le_refl _) (by rw [hb]; omega) (by omega)
  simp only [Int.toNat_natCast, hs] at hr
  exact hr
/-- a term of new memory, handed back -/
def NewT (W : World) (t : Tm) (e : Ending) (w' : World) : Prop :=
  ∃ A, e = .returned (.agg #[.string t.nm, .slice A t.n t.n]) ∧ Kids W.heap.size w' t A ∧ Below W.heap.size W w'
/-- a list of terms of new memory, handed back -/
def NewTs (W : World) (n : Nat) (kid : Nat → Tm) (e : Ending) (w' : World) : Prop :=
  ∃ A, e = .returned (.slice A n n) ∧ (∀ nm, Kids W.heap.size w' (.mk nm n kid) A) ∧ Below W.heap.size W w'
set_option maxRecDepth 100000 in
set_option maxHeartbeats 4000000 in
theorem toterms_of (n : Nat) (kid : Nat → Tm) (hn : n ≤ 1048576) (IH : ∀ k, k < n → ∀ (a : Option Addr) (c : Nat) (W : World), Kids 0 W (kid k) a → Calls Try.prog 23 #[.agg #[.string (kid k).nm, .slice a (kid k).n c]] W (NewT W (kid k)))
    (nm : ByteArray) (A : Option Addr) (c : Nat) (w : World) (hA : Kids 0 w (.mk nm n kid) A) :
    Calls Try.prog 28 #[.slice A n c] w (NewTs w n kid) := by
  have hmk := run_make_terms n hn
  have hrow := rowIs_madeT w (n * 2) 38
  have hb0 : Below w.heap.size w (w.alloc (.cells (madeCells #[.string ⟨#[]⟩, .slice none 0 0] (n * 2)) 38)) := bal (Below.refl _ _) _
  have HI := hid IH; clear IH
  go_enter Try.func28, Try.ntmps28
  go_wp2
  clear hmk
  go_loopw [4] (fun i wr => ∃ (k : Nat) (LA : Nat → Option Addr), k ≤ n ∧ i = .int .i64 k ∧ Below w.heap.size w wr ∧ wr.rowIs w.heap.size 38 (n * 2) (fun j => if j < k * 2 then termV LA kid j else zeroT j) ∧ ∀ i, i < k → Kids (w.heap.size + 1) wr (kid i) (LA i)) (fun i _ => n - (intOf i).toNat)
  case atStart => exact ⟨0, fun _ => none, Nat.zero_le _, rfl, hb0, hrow.congr fun i hi => by simp, fun i hi => by omega⟩
  case round =>
    obtain ⟨k, LA, hk, rfl, hb, hr, ho⟩ := hrel
    have HO := hid ho; clear ho
    clear hrow hb0
    by_cases hlt : k < n
    · rcases hA with h0 | ⟨g, off, rfl, _, hg, hcA⟩
      · omega
      obtain ⟨a, ca, a0, a1, hI⟩ := hcA k hlt
      have gg : g < wr.heap.size := Nat.lt_of_lt_of_le hg hb.size
      replace a0 := carry hb a0
      replace a1 := carry hb a1
      replace hI := hI.below hb
      have hS : w.heap.size < wr.heap.size := hr.lt
      clear hcA
      have hT := HI.out k hlt a ca wr hI
      clear hI
      go_wp2_with (go_at_call 23; refine hT.mono ?_; rintro e w1 ⟨A3, rfl, O3, hq⟩; have hr1 := row_below hr hq; have d0 : w1.cell? ⟨w.heap.size, k * 2, none⟩ = some (.string ⟨#[]⟩) := ((hr1.cell (by omega)).trans (by rw [if_neg (by omega)]; unfold zeroT; rw [if_pos (by omega)])); have d1 : w1.cell? ⟨w.heap.size, k * 2 + 1, none⟩ = some (.slice none 0 0) := ((hr1.cell (by omega)).trans (by rw [if_neg (by omega)]; unfold zeroT; rw [if_neg (by omega)])); have e0 : w1.frozen? ⟨w.heap.size, k * 2, none⟩ = false := hr1.frozen _; have e1 : w1.frozen? ⟨w.heap.size, k * 2 + 1, none⟩ = false := hr1.frozen _)
      go_roundw
      case rel =>
        refine ⟨k + 1, fun i => if i = k then A3 else LA i, by omega, by go_num, bst (bst (btr hb hq) (Nat.le_refl _) _) (Nat.le_refl _) _, ((hr1.set (k * 2) _).set (k * 2 + 1) _).congr fun j hj => ?_, fun i hi => ?_⟩
        · by_cases eb : j = k * 2 + 1
          · subst eb; rw [if_pos rfl, if_pos (by omega), termV_1]; simp
          · rw [if_neg eb]
            by_cases ea : j = k * 2
            · subst ea; rw [if_pos rfl, if_pos (by omega), termV_0]
            · rw [if_neg ea]
              by_cases e2 : j < k * 2
              · rw [if_pos e2, if_pos (by omega), termV_old (by omega)]
              · rw [if_neg e2, if_neg (by omega)]
        · by_cases e : i = k
          · subst e
            simp only [if_true]
            exact ((O3.mono (by omega)).set _ (by omega)).set _ (by omega)
          · simp only [if_neg e]
            exact (((HO.out i (by omega)).below hq).set _ (by omega)).set _ (by omega)
      case measure => simp [intOf]; omega
    · have hke : k = n := by omega
      subst hke
      go_wp2
      go_ret
      refine ⟨_, rfl, fun nm' => .inr ⟨w.heap.size, 0, rfl, Nat.le_refl _, hr.lt, fun i hi => ⟨LA i, (kid i).n, ?_, ?_, (HO.out i hi).mono (by omega)⟩⟩, hb⟩
      · rw [Nat.zero_add]; exact (hr.cell (by omega)).trans (by rw [if_pos (by omega), termV_0])
      · rw [Nat.zero_add]; exact (hr.cell (by omega)).trans (by rw [if_pos (by omega), termV_1])
set_option maxHeartbeats 2000000 in
theorem toterm_any : ∀ (t : Tm), Fits 1048576 t → ∀ (A : Option Addr) (c : Nat) (w : World), Kids 0 w t A →
    Calls Try.prog 23 #[.agg #[.string t.nm, .slice A t.n c]] w (NewT w t) := by
  intro t
  induction t with
  | bad => intro h; exact False.elim h
  | mk nm n kid ih =>
    rintro ⟨hm, hn, hf⟩ A c w hA
    show Calls _ _ #[.agg #[.string nm, .slice A n c]] w _
    have hT := fun W (hb : Below w.heap.size w W) => toterms_of n kid hn (fun k hk a c W h => ih k (hf k hk) a c W h) nm A c W (hA.below hb)
    clear ih hf hA
    go_enter Try.func23, Try.ntmps23
    go_wp2_with fail
    refine (hT _ (bal (bal (bal (Below.refl _ _) _) _) _)).mono ?_
    rintro e w1 ⟨A', rfl, hO, hq⟩
    obtain ⟨hc, hfz⟩ := bcell hq
    clear hT
    go_wp2
    have e0 : w1.cell? ⟨w.heap.size + 1, 0, none⟩ = some (.string ⟨#[]⟩) := by rw [hc _ _ (by simp <;> omega)]; simp [go_sem]
    have e1 : w1.cell? ⟨w.heap.size + 1, 1, none⟩ = some (.slice none 0 0) := by rw [hc _ _ (by simp <;> omega)]; simp [go_sem]
    have f0 : (w1.setCell ⟨w.heap.size + 1 + 1, 1, none⟩ (.slice A' n n)).cell? ⟨w.heap.size + 1, 0, none⟩ = some (.string ⟨#[]⟩) := by rw [World.cell?_setCell_other _ _ _ _ (by simp)]; exact e0
    have f1 : (w1.setCell ⟨w.heap.size + 1 + 1, 1, none⟩ (.slice A' n n)).cell? ⟨w.heap.size + 1, 1, none⟩ = some (.slice none 0 0) := by rw [World.cell?_setCell_other _ _ _ _ (by simp)]; exact e1
    obtain ⟨t0, t1⟩ := set2 f0 f1 (.string nm) (.slice A' n n)
    clear hc hfz
    have l2 : w.heap.size + 1 + 1 < (((w.alloc (.cells #[.string nm, .slice A n c] 33)).alloc (.cells #[.string ⟨#[]⟩, .slice none 0 0] 38)).alloc (.cells #[.string nm, .slice none 0 0] 38)).heap.size := by simp
    have hO2 := (((hO nm).set (o := 1) (.slice A' n n) l2).set (o := 0) (.string nm) (Nat.lt_of_succ_lt l2)).set (o := 1) (.slice A' n n) (Nat.lt_of_succ_lt l2)
    refine bodyPost_ret (v := .agg #[.string nm, .slice A' n n]) (by simp [results, Try.results23, go_sem, t0, t1]) rfl ⟨A', rfl, hO2.mono (by simp <;> omega), ?_⟩
    clear t0 t1 e0 e1 f0 f1 hO hO2 l2
    (repeat first | with_reducible exact Below.refl _ _ | with_reducible assumption | with_reducible refine Below.drew ?_ | with_reducible refine bdn ?_ _ | with_reducible refine bal ?_ _ | (with_reducible refine bst ?_ ?_ _; rotate_left; (simp <;> omega)) | (with_reducible refine btr ?_ (by with_reducible assumption)))
end Go.Proofs.Ytcnlolocppbcjaa
