/- Several texts in one: DsA, DsB, DsC, DsD, DsE, DsG, DsH, DsF, DsI, DsJ. -/
import Derived.Test.YtbhagobkkobgfaaBS
import Derived.Test.YtbhagobkkobgfaaNameA
import Derived.Test.YtbhagobkkobgfaaBD
import Derived.Test.YtbhagobkkobgfaaLinDA
import Derived.Test.YtbhagobkkobgfaaPlanC
import Derived.Test.YtbhagobkkobgfaaBQ
import Derived.Test.YtbhagobkkobgfaaLawK
namespace Go.Proofs.Ytbhagobkkobgfaa
set_option linter.unusedVariables false
set_option linter.unusedSimpArgs false
open Go.RowKit
theorem ofs_any (B : Nat) (w : World) (g p : Nat) (b n cap : Nat) (ts : List ByteArray) (hR : RD B w g p) (hp : p ≤ 1000000000) (hn : n = ts.length) (h1 : 1 ≤ ts.length) (h2 : ts.length ≤ 1000000) (hb : b ≠ g) (hc : ∀ k, k < ts.length → w.cell? ⟨b, k, none⟩ = some (.string (ts.getD k ⟨#[]⟩))) :
    Calls Try.prog 17 #[.pointer (some ⟨g, 0, none⟩), .slice (some ⟨b, 0, none⟩) n cap] w fun e w' => ∃ t, t ∈ ts ∧ e = .returned (.string t) ∧ w.grownBy w' (some g) ∧ RD B w' g (p + 1) := by
  subst hn
  have hP := pick_any B w g p (ts.length : Int) hR hp ⟨by omega, by omega⟩
  go_enter Try.func17, Try.ntmps17
  go_wp2_with fail
  refine hP.mono ?_
  rintro e w1 ⟨x, x0, x1, rfl, hg, hR1⟩
  obtain ⟨k, rfl⟩ := Int.eq_ofNat_of_zero_le x0
  have hk : k < ts.length := by omega
  have ck := grow_cell hg hb (hc k hk)
  have hm : ts.getD k ⟨#[]⟩ ∈ ts := by rw [List.getD_eq_getElem?_getD, List.getElem?_eq_getElem hk]; exact List.getElem_mem hk
  generalize ts.getD k ⟨#[]⟩ = x at ck hm
  generalize hlen : ts.length = len at *
  clear hc hP
  go_wp2_with fail
  go_ret
  exact ⟨x, hm, rfl, hg, hR1⟩
end Go.Proofs.Ytbhagobkkobgfaa

namespace Go.Proofs.Ytbhagobkkobgfaa
set_option linter.unusedVariables false
set_option linter.unusedSimpArgs false
open Go.RowKit
theorem own_kpD {w w' : World} {base n size : Nat} {e : TypeId} {v : Value} {xs : List Value} (hv : ∀ g, v.ownBlock = some g → w'.heap[g]? = w.heap[g]?) (h : w.ownsRow base e size v n xs) : w'.ownsRow base e size v n xs := by
  refine ⟨h.1, ?_⟩
  rcases h.2 with hn | ⟨g, cap, cur, rfl, hb, hgg, rest⟩
  · exact .inl hn
  · exact .inr ⟨g, cap, cur, rfl, hb, (hv g rfl).trans hgg, rest⟩
/-- rows of different types lie in different blocks -/
theorem own_ne {w : World} {b1 b2 n1 n2 s1 s2 : Nat} {e1 e2 : TypeId} {v1 v2 : Value} {x1 x2 : List Value} (h1 : w.ownsRow b1 e1 s1 v1 n1 x1) (h2 : w.ownsRow b2 e2 s2 v2 n2 x2) (he : e1 ≠ e2) {g : Nat} (hg : v1.ownBlock = some g) : v2.ownBlock ≠ some g := by
  intro hg2
  rcases h1.2 with ⟨rfl, _⟩ | ⟨g1, cap1, cur1, rfl, _, hh1, _⟩
  · simp [Value.ownBlock] at hg
  · rcases h2.2 with ⟨rfl, _⟩ | ⟨g2, cap2, cur2, rfl, _, hh2, _⟩
    · simp [Value.ownBlock] at hg2
    · simp only [Value.ownBlock, Option.some.injEq] at hg hg2
      subst hg
      subst hg2
      rw [hh1] at hh2
      injection hh2 with hh2
      injection hh2 with _ h _
      exact he h
theorem own_typ {w : World} {base n size p : Nat} {e T : TypeId} {v : Value} {xs : List Value} {cs : Array Value} {fr : Nat × Nat} (h : w.ownsRow base e size v n xs) (hp : w.heap[p]? = some (Obj.cells cs T fr)) (hT : T ≠ e) : v.ownBlock ≠ some p := by
  intro hg
  rcases h.2 with ⟨rfl, _⟩ | ⟨g, cap, cur, rfl, _, hh, _⟩
  · simp [Value.ownBlock] at hg
  · simp only [Value.ownBlock, Option.some.injEq] at hg
    subst hg
    rw [hh] at hp
    injection hp with hp
    injection hp with _ h _
    exact hT h.symm
/-- what a vocabulary that is being made holds: its row, and of each symbol its own row of sorts -/
structure YSt (w : World) (lo : Nat) (v : Value) (n : Nat) (L : Sy) (LA : Nat → Option Addr) (LC : Nat → Nat) : Prop where
  own : ∃ xs, w.ownsRow lo 31 3 v n xs ∧ ∀ k, k < n → xs[k * 3]? = some (.string (L.Nm k)) ∧ xs[k * 3 + 1]? = some (.slice (LA k) (L.N k) (LC k)) ∧ xs[k * 3 + 2]? = some (.int .i64 (L.S k))
  arg : ∀ k, k < n → ∃ zs, w.ownsRow lo 3 1 (.slice (LA k) (L.N k) (LC k)) (L.N k) zs ∧ ∀ j, j < L.N k → zs[j]? = some (.int .i64 (L.Z k j))
theorem YSt.slice {w : World} {lo : Nat} {v : Value} {n : Nat} {L : Sy} {LA : Nat → Option Addr} {LC : Nat → Nat} (h : YSt w lo v n L LA LC) : ∃ a c, v = .slice a n c ∧ n ≤ c ∧ c ≤ 9223372036854775807 := by
  obtain ⟨xs, ⟨_, ⟨rfl, h0⟩ | ⟨g, cap, cur, rfl, _, _, h1, h2, _⟩⟩, _⟩ := h.own
  · exact ⟨none, 0, by rw [h0], by omega, by omega⟩
  · exact ⟨_, cap, rfl, h1, by unfold maxLen at h2; omega⟩
theorem YSt.keepB {w w' : World} {lo : Nat} {v : Value} {n : Nat} {L : Sy} {LA : Nat → Option Addr} {LC : Nat → Nat} (h : YSt w lo v n L LA LC) (hk : ∀ g, lo ≤ g → g < w.heap.size → (∃ cs, w.heap[g]? = some (Obj.cells cs 31 (0, 0))) ∨ (∃ cs, w.heap[g]? = some (Obj.cells cs 3 (0, 0))) → w'.heap[g]? = w.heap[g]?) : YSt w' lo v n L LA LC := by
  have own : ∀ {e size m} {u : Value} {xs : List Value}, e = 31 ∨ e = 3 → w.ownsRow lo e size u m xs → w'.ownsRow lo e size u m xs := fun {e size m u xs} he ho =>
    own_kpD (fun g hg => by
      rcases ho.2 with ⟨rfl, _⟩ | ⟨g', cap, cur, rfl, hb, hh, _⟩
      · simp [Value.ownBlock] at hg
      · simp only [Value.ownBlock, Option.some.injEq] at hg
        subst hg
        refine hk _ hb (Array.getElem?_eq_some_iff.1 hh).1 ?_
        rcases he with rfl | rfl
        · exact .inl ⟨_, hh⟩
        · exact .inr ⟨_, hh⟩) ho
  refine ⟨?_, fun k hkn => ?_⟩
  · obtain ⟨xs, ho, hx⟩ := h.own
    exact ⟨xs, own (.inl rfl) ho, hx⟩
  · obtain ⟨zs, ho, hz⟩ := h.arg k hkn
    exact ⟨zs, own (.inr rfl) ho, hz⟩
theorem YSt.below {w w' : World} {lo : Nat} {v : Value} {n : Nat} {L : Sy} {LA : Nat → Option Addr} {LC : Nat → Nat} (h : YSt w lo v n L LA LC) (hb : Below w.heap.size w w') : YSt w' lo v n L LA LC :=
  h.keepB fun g _ hg _ => hb.block g hg
theorem YSt.grow {w w' : World} {lo r : Nat} {v : Value} {n : Nat} {L : Sy} {LA : Nat → Option Addr} {LC : Nat → Nat} (h : YSt w lo v n L LA LC) (hg : w.grownBy w' (some r)) (hr : r < lo) : YSt w' lo v n L LA LC :=
  h.keepB fun g h1 h2 _ => hg.block g h2 (fun e => by cases e; omega)
theorem YSt.setT {w : World} {lo p o : Nat} {v : Value} {n : Nat} {L : Sy} {LA : Nat → Option Addr} {LC : Nat → Nat} {cs : Array Value} {T : TypeId} {fr : Nat × Nat} (h : YSt w lo v n L LA LC) (hp : w.heap[p]? = some (Obj.cells cs T fr)) (h1 : T ≠ 31) (h2 : T ≠ 3) (u : Value) : YSt (w.setCell ⟨p, o, none⟩ u) lo v n L LA LC :=
  h.keepB fun g _ _ ht => Below.heap_setCell w ⟨p, o, none⟩ u g (fun e => by
    have e' : g = p := e
    subst e'
    rcases ht with ⟨cs', ht⟩ | ⟨cs', ht⟩
    · rw [hp] at ht
      injection ht with ht
      injection ht with _ h _
      exact h1 h
    · rw [hp] at ht
      injection ht with ht
      injection ht with _ h _
      exact h2 h)
theorem YSt.setL {w : World} {lo p o : Nat} {v : Value} {n : Nat} {L : Sy} {LA : Nat → Option Addr} {LC : Nat → Nat} (h : YSt w lo v n L LA LC) (hp : p < lo) (u : Value) : YSt (w.setCell ⟨p, o, none⟩ u) lo v n L LA LC :=
  h.keepB fun g h1 _ _ => Below.heap_setCell w ⟨p, o, none⟩ u g (fun e => by have e' : g = p := e; omega)
/-- the same rows, from lo on -/
def IntsB (lo : Nat) (w : World) (a : Option Addr) (m : Nat) (Z : Nat → Int) : Prop := m = 0 ∨ ∃ g off, a = some ⟨g, off, none⟩ ∧ lo ≤ g ∧ g < w.heap.size ∧ ∀ j, j < m → w.cell? ⟨g, off + j, none⟩ = some (.int .i64 (Z j))
def SyB (lo : Nat) (w : World) (A : Option Addr) (n : Nat) (L : Sy) : Prop :=
  n = 0 ∨ ∃ g off, A = some ⟨g, off, none⟩ ∧ lo ≤ g ∧ g < w.heap.size ∧ ∀ k, k < n → ∃ a c, w.cell? ⟨g, off + k * 3, none⟩ = some (.string (L.Nm k)) ∧ w.cell? ⟨g, off + k * 3 + 1, none⟩ = some (.slice a (L.N k) c) ∧ w.cell? ⟨g, off + k * 3 + 2, none⟩ = some (.int .i64 (L.S k)) ∧ IntsB lo w a (L.N k) (L.Z k)
theorem IntsB.keep {lo : Nat} {w w' : World} {a : Option Addr} {m : Nat} {Z : Nat → Int} (h : IntsB lo w a m Z) (hk : ∀ g, lo ≤ g → g < w.heap.size → w'.heap[g]? = w.heap[g]?) (hz : w.heap.size ≤ w'.heap.size) : IntsB lo w' a m Z := by
  rcases h with h | ⟨g, off, ha, h1, h2, hc⟩
  · exact .inl h
  · exact .inr ⟨g, off, ha, h1, Nat.lt_of_lt_of_le h2 hz, fun j hj => (World.cell?_of_block (w := w) (a := ⟨g, off + j, none⟩) (hk g h1 h2)).trans (hc j hj)⟩
theorem SyB.keep {lo : Nat} {w w' : World} {A : Option Addr} {n : Nat} {L : Sy} (h : SyB lo w A n L) (hk : ∀ g, lo ≤ g → g < w.heap.size → w'.heap[g]? = w.heap[g]?) (hz : w.heap.size ≤ w'.heap.size) : SyB lo w' A n L := by
  rcases h with h | ⟨g, off, ha, h1, h2, hc⟩
  · exact .inl h
  · have cc : ∀ {o u}, w.cell? ⟨g, o, none⟩ = some u → w'.cell? ⟨g, o, none⟩ = some u := fun {o u} h => (World.cell?_of_block (w := w) (a := ⟨g, o, none⟩) (hk g h1 h2)).trans h
    refine .inr ⟨g, off, ha, h1, Nat.lt_of_lt_of_le h2 hz, fun k hkn => ?_⟩
    obtain ⟨a, c, x0, x1, x2, hI⟩ := hc k hkn
    exact ⟨a, c, cc x0, cc x1, cc x2, hI.keep hk hz⟩
theorem SyB.below {lo : Nat} {w w' : World} {A : Option Addr} {n : Nat} {L : Sy} (h : SyB lo w A n L) (hb : Below w.heap.size w w') : SyB lo w' A n L := h.keep (fun g _ hg => hb.block g hg) hb.size
theorem SyB.grow {lo r : Nat} {w w' : World} {A : Option Addr} {n : Nat} {L : Sy} (h : SyB lo w A n L) (hg : w.grownBy w' (some r)) (hr : r < lo) : SyB lo w' A n L := h.keep (fun g h1 h2 => hg.block g h2 (fun e => by cases e; omega)) hg.size
theorem SyB.setL {lo p o : Nat} {w : World} {A : Option Addr} {n : Nat} {L : Sy} (h : SyB lo w A n L) (hp : p < lo) (u : Value) : SyB lo (w.setCell ⟨p, o, none⟩ u) A n L :=
  h.keep (fun g h1 _ => Below.heap_setCell w ⟨p, o, none⟩ u g (fun e => by have e' : g = p := e; omega)) (by simp [World.setCell])
theorem SyB.mono {lo lo' : Nat} {w : World} {A : Option Addr} {n : Nat} {L : Sy} (hl : lo' ≤ lo) (h : SyB lo w A n L) : SyB lo' w A n L := by
  rcases h with h | ⟨g, off, ha, h1, h2, hc⟩
  · exact .inl h
  · refine .inr ⟨g, off, ha, Nat.le_trans hl h1, h2, fun k hkn => ?_⟩
    obtain ⟨a, c, x0, x1, x2, hI⟩ := hc k hkn
    refine ⟨a, c, x0, x1, x2, ?_⟩
    rcases hI with h | ⟨g', off', ha', h1', r⟩
    · exact .inl h
    · exact .inr ⟨g', off', ha', Nat.le_trans hl h1', r⟩
/-- the sizes of a drawn vocabulary -/
def SmB (b n : Nat) (L : Sy) : Prop := ∀ k, k < n → L.N k ≤ b ∧ (L.Nm k).size ≤ 1048576
theorem SyB.syms {lo b : Nat} {w : World} {A : Option Addr} {n : Nat} {L : Sy} (h : SyB lo w A n L) (hN : SmB b n L) (hb : b ≤ 1048576) : Syms w A n L := by
  rcases h with h | ⟨g, off, ha, h1, h2, hc⟩
  · exact .inl h
  · refine .inr ⟨g, off, ha, h2, fun k hkn => ?_⟩
    obtain ⟨a, c, x0, x1, x2, hI⟩ := hc k hkn
    have := hN k hkn
    refine ⟨a, c, x0, x1, x2, by omega, by omega, ?_⟩
    rcases hI with h | ⟨g', off', ha', _, r⟩
    · exact .inl h
    · exact .inr ⟨g', off', ha', r⟩
theorem YSt.syb {w : World} {lo : Nat} {v : Value} {n : Nat} {L : Sy} {LA : Nat → Option Addr} {LC : Nat → Nat} (h : YSt w lo v n L LA LC) {A : Option Addr} {c : Nat} (hv : v = .slice A n c) : SyB lo w A n L := by
  subst hv
  by_cases h0 : n = 0
  · exact .inl h0
  obtain ⟨xs, ho, hx⟩ := h.own
  rcases ho.2 with ⟨_, h⟩ | ⟨g, cap, cur, e, hb, hh, _⟩
  · exact absurd h h0
  injection e with e1 _ e3
  subst e1 e3
  refine .inr ⟨g, 0, rfl, hb, (Array.getElem?_eq_some_iff.1 hh).1, fun k hk => ?_⟩
  obtain ⟨x0, x1, x2⟩ := hx k hk
  refine ⟨LA k, LC k, ?_, ?_, ?_, ?_⟩
  · rw [Nat.zero_add]; exact (ho.cellAt (k * 3) (by omega)).trans x0
  · rw [Nat.zero_add]; exact (ho.cellAt (k * 3 + 1) (by omega)).trans x1
  · rw [Nat.zero_add]; exact (ho.cellAt (k * 3 + 2) (by omega)).trans x2
  · obtain ⟨zs, hz, hzz⟩ := h.arg k hk
    by_cases hN : L.N k = 0
    · exact .inl hN
    · rcases hz.2 with ⟨_, h⟩ | ⟨g', cap', cur', e, hb', hh', _⟩
      · exact absurd h hN
      · injection e with e1 _ e3
        refine .inr ⟨g', 0, e1, hb', (Array.getElem?_eq_some_iff.1 hh').1, fun j hj => ?_⟩
        rw [Nat.zero_add]
        rw [e1] at hz
        exact (hz.cellAt j (by omega)).trans (hzz j hj)
/-- one symbol more -/
theorem YSt.push {w w6 : World} {lo : Nat} {v v' : Value} {n : Nat} {L : Sy} {LA : Nat → Option Addr} {LC : Nat → Nat} (h : YSt w lo v n L LA LC) {xs : List Value} (hx : ∀ k, k < n → xs[k * 3]? = some (.string (L.Nm k)) ∧ xs[k * 3 + 1]? = some (.slice (LA k) (L.N k) (LC k)) ∧ xs[k * 3 + 2]? = some (.int .i64 (L.S k))) (hlen : xs.length = n * 3)
    {nm : ByteArray} {a : Option Addr} {m c : Nat} {s : Int} {Z : Nat → Int} {zs : List Value} (ho : w.ownsRow lo 31 3 v n xs) (ha : w.ownsRow lo 3 1 (.slice a m c) m zs) (hz : ∀ j, j < m → zs[j]? = some (.int .i64 (Z j)))
    (hown : w6.ownsRow lo 31 3 v' (n + 1) (xs ++ [.string nm, .slice a m c, .int .i64 s])) (hg : w.grownBy w6 v.ownBlock) :
    YSt w6 lo v' (n + 1) ⟨fun k => if k = n then nm else L.Nm k, fun k => if k = n then m else L.N k, fun k => if k = n then Z else L.Z k, fun k => if k = n then s else L.S k⟩ (fun k => if k = n then a else LA k) (fun k => if k = n then c else LC k) := by
  have keep : ∀ {u : Value} {k : Nat} {ys : List Value}, w.ownsRow lo 3 1 u k ys → w6.ownsRow lo 3 1 u k ys := fun {u k ys} hu =>
    own_kpD (fun g hgu => hg.block g (hu.lt g hgu).2 (fun e => own_ne hu ho (by decide) hgu e.symm)) hu
  refine ⟨⟨_, hown, fun k hk => ?_⟩, fun k hk => ?_⟩
  · by_cases e : k = n
    · subst e
      simp only [if_true]
      rw [List.getElem?_append_right (by omega), List.getElem?_append_right (by omega), List.getElem?_append_right (by omega), hlen, show k * 3 - k * 3 = 0 by omega, show k * 3 + 1 - k * 3 = 1 by omega, show k * 3 + 2 - k * 3 = 2 by omega]
      exact ⟨rfl, rfl, rfl⟩
    · simp only [if_neg e]
      rw [List.getElem?_append_left (by omega), List.getElem?_append_left (by omega), List.getElem?_append_left (by omega)]
      exact hx k (by omega)
  · by_cases e : k = n
    · subst e
      simp only [if_true]
      exact ⟨zs, keep ha, hz⟩
    · simp only [if_neg e]
      obtain ⟨zs', hz', hzz⟩ := h.arg k (by omega)
      exact ⟨zs', keep hz', hzz⟩
end Go.Proofs.Ytbhagobkkobgfaa

namespace Go.Proofs.Ytbhagobkkobgfaa
set_option linter.unusedVariables false
set_option linter.unusedSimpArgs false
open Go.RowKit
/-- a vocabulary in memory, handed back -/
def SgNew (W : World) (e : Ending) (w' : World) : Prop :=
  ∃ A n c L, e = .returned (.agg #[.slice A n c]) ∧ SyB W.heap.size w' A n L ∧ SmB 2 n L ∧ n ≤ 64 ∧ n ≤ c ∧ c ≤ 9223372036854775807 ∧ Below W.heap.size W w'
def syL (T : List (ByteArray × List Int × Int)) : Sy := ⟨fun k => (T.getD k (⟨#[]⟩, [], 0)).1, fun k => (T.getD k (⟨#[]⟩, [], 0)).2.1.length, fun k j => (T.getD k (⟨#[]⟩, [], 0)).2.1.getD j 0, fun k => (T.getD k (⟨#[]⟩, [], 0)).2.2⟩
set_option maxRecDepth 100000 in
set_option maxHeartbeats 4000000 in
theorem lbase_0 (w : World) : Calls Try.prog 19 #[.int .i64 0] w (SgNew w) := by
  go_enter Try.func19, Try.ntmps19
  go_wp2
  refine bodyPost_ret (v := .agg #[.slice (some ⟨w.heap.size + 3, 0, none⟩) 5 5]) (by simp [results, Try.results19, go_sem]) rfl ?_
  refine ⟨_, _, _, syL [(⟨#[97]⟩, [], 0), (⟨#[98]⟩, [], 0), (⟨#[99]⟩, [], 0), (⟨#[102]⟩, [0], 0), (⟨#[103]⟩, [0, 0], 0)], rfl, .inr ⟨_, 0, rfl, by omega, by simp, fun k hk => ?_⟩, fun k hk => ?_, by decide, by decide, by decide, ?_⟩
  · match k, hk with
    | 0, _ => exact ⟨none, 0, by simp [go_sem, syL], by simp [go_sem, syL], by simp [go_sem, syL], .inl rfl⟩
    | 1, _ => exact ⟨none, 0, by simp [go_sem, syL], by simp [go_sem, syL], by simp [go_sem, syL], .inl rfl⟩
    | 2, _ => exact ⟨none, 0, by simp [go_sem, syL], by simp [go_sem, syL], by simp [go_sem, syL], .inl rfl⟩
    | 3, _ => exact ⟨some ⟨w.heap.size + 1, 0, none⟩, 1, by simp [go_sem, syL], by simp [go_sem, syL], by simp [go_sem, syL], .inr ⟨_, 0, rfl, by omega, by simp, fun j hj => by
        match j, hj with
        | 0, _ => simp [go_sem, syL]
      ⟩⟩
    | 4, _ => exact ⟨some ⟨w.heap.size + 2, 0, none⟩, 2, by simp [go_sem, syL], by simp [go_sem, syL], by simp [go_sem, syL], .inr ⟨_, 0, rfl, by omega, by simp, fun j hj => by
        match j, hj with
        | 0, _ => simp [go_sem, syL]
        | 1, _ => simp [go_sem, syL]
      ⟩⟩
  · match k, hk with
    | 0, _ => exact ⟨by decide, by decide⟩
    | 1, _ => exact ⟨by decide, by decide⟩
    | 2, _ => exact ⟨by decide, by decide⟩
    | 3, _ => exact ⟨by decide, by decide⟩
    | 4, _ => exact ⟨by decide, by decide⟩
  · (repeat first | with_reducible exact Below.refl _ _ | with_reducible assumption | with_reducible refine Below.drew ?_ | with_reducible refine bdn ?_ _ | with_reducible refine bal ?_ _ | (with_reducible refine bst ?_ ?_ _; rotate_left; (simp <;> omega)) | (with_reducible refine btr ?_ (by with_reducible assumption)))
set_option maxRecDepth 100000 in
set_option maxHeartbeats 4000000 in
theorem lbase_1 (w : World) : Calls Try.prog 19 #[.int .i64 1] w (SgNew w) := by
  go_enter Try.func19, Try.ntmps19
  go_wp2
  refine bodyPost_ret (v := .agg #[.slice (some ⟨w.heap.size + 2, 0, none⟩) 5 5]) (by simp [results, Try.results19, go_sem]) rfl ?_
  refine ⟨_, _, _, syL [(⟨#[97]⟩, [], 0), (⟨#[98]⟩, [], 0), (⟨#[104]⟩, [0], 1), (⟨#[120]⟩, [], 1), (⟨#[121]⟩, [], 1)], rfl, .inr ⟨_, 0, rfl, by omega, by simp, fun k hk => ?_⟩, fun k hk => ?_, by decide, by decide, by decide, ?_⟩
  · match k, hk with
    | 0, _ => exact ⟨none, 0, by simp [go_sem, syL], by simp [go_sem, syL], by simp [go_sem, syL], .inl rfl⟩
    | 1, _ => exact ⟨none, 0, by simp [go_sem, syL], by simp [go_sem, syL], by simp [go_sem, syL], .inl rfl⟩
    | 2, _ => exact ⟨some ⟨w.heap.size + 1, 0, none⟩, 1, by simp [go_sem, syL], by simp [go_sem, syL], by simp [go_sem, syL], .inr ⟨_, 0, rfl, by omega, by simp, fun j hj => by
        match j, hj with
        | 0, _ => simp [go_sem, syL]
      ⟩⟩
    | 3, _ => exact ⟨none, 0, by simp [go_sem, syL], by simp [go_sem, syL], by simp [go_sem, syL], .inl rfl⟩
    | 4, _ => exact ⟨none, 0, by simp [go_sem, syL], by simp [go_sem, syL], by simp [go_sem, syL], .inl rfl⟩
  · match k, hk with
    | 0, _ => exact ⟨by decide, by decide⟩
    | 1, _ => exact ⟨by decide, by decide⟩
    | 2, _ => exact ⟨by decide, by decide⟩
    | 3, _ => exact ⟨by decide, by decide⟩
    | 4, _ => exact ⟨by decide, by decide⟩
  · (repeat first | with_reducible exact Below.refl _ _ | with_reducible assumption | with_reducible refine Below.drew ?_ | with_reducible refine bdn ?_ _ | with_reducible refine bal ?_ _ | (with_reducible refine bst ?_ ?_ _; rotate_left; (simp <;> omega)) | (with_reducible refine btr ?_ (by with_reducible assumption)))
set_option maxRecDepth 100000 in
set_option maxHeartbeats 4000000 in
theorem lbase_2 (w : World) : Calls Try.prog 19 #[.int .i64 2] w (SgNew w) := by
  go_enter Try.func19, Try.ntmps19
  go_wp2
  refine bodyPost_ret (v := .agg #[.slice (some ⟨w.heap.size + 2, 0, none⟩) 4 4]) (by simp [results, Try.results19, go_sem]) rfl ?_
  refine ⟨_, _, _, syL [(⟨#[107]⟩, [1], 1), (⟨#[120]⟩, [], 1), (⟨#[121]⟩, [], 1), (⟨#[122]⟩, [], 1)], rfl, .inr ⟨_, 0, rfl, by omega, by simp, fun k hk => ?_⟩, fun k hk => ?_, by decide, by decide, by decide, ?_⟩
  · match k, hk with
    | 0, _ => exact ⟨some ⟨w.heap.size + 1, 0, none⟩, 1, by simp [go_sem, syL], by simp [go_sem, syL], by simp [go_sem, syL], .inr ⟨_, 0, rfl, by omega, by simp, fun j hj => by
        match j, hj with
        | 0, _ => simp [go_sem, syL]
      ⟩⟩
    | 1, _ => exact ⟨none, 0, by simp [go_sem, syL], by simp [go_sem, syL], by simp [go_sem, syL], .inl rfl⟩
    | 2, _ => exact ⟨none, 0, by simp [go_sem, syL], by simp [go_sem, syL], by simp [go_sem, syL], .inl rfl⟩
    | 3, _ => exact ⟨none, 0, by simp [go_sem, syL], by simp [go_sem, syL], by simp [go_sem, syL], .inl rfl⟩
  · match k, hk with
    | 0, _ => exact ⟨by decide, by decide⟩
    | 1, _ => exact ⟨by decide, by decide⟩
    | 2, _ => exact ⟨by decide, by decide⟩
    | 3, _ => exact ⟨by decide, by decide⟩
  · (repeat first | with_reducible exact Below.refl _ _ | with_reducible assumption | with_reducible refine Below.drew ?_ | with_reducible refine bdn ?_ _ | with_reducible refine bal ?_ _ | (with_reducible refine bst ?_ ?_ _; rotate_left; (simp <;> omega)) | (with_reducible refine btr ?_ (by with_reducible assumption)))
set_option maxRecDepth 100000 in
set_option maxHeartbeats 4000000 in
theorem lbase_3 (w : World) : Calls Try.prog 19 #[.int .i64 3] w (SgNew w) := by
  go_enter Try.func19, Try.ntmps19
  go_wp2
  refine bodyPost_ret (v := .agg #[.slice (some ⟨w.heap.size + 3, 0, none⟩) 5 5]) (by simp [results, Try.results19, go_sem]) rfl ?_
  refine ⟨_, _, _, syL [(⟨#[97]⟩, [], 0), (⟨#[117]⟩, [1], 0), (⟨#[118]⟩, [1, 0], 1), (⟨#[120]⟩, [], 1), (⟨#[121]⟩, [], 1)], rfl, .inr ⟨_, 0, rfl, by omega, by simp, fun k hk => ?_⟩, fun k hk => ?_, by decide, by decide, by decide, ?_⟩
  · match k, hk with
    | 0, _ => exact ⟨none, 0, by simp [go_sem, syL], by simp [go_sem, syL], by simp [go_sem, syL], .inl rfl⟩
    | 1, _ => exact ⟨some ⟨w.heap.size + 1, 0, none⟩, 1, by simp [go_sem, syL], by simp [go_sem, syL], by simp [go_sem, syL], .inr ⟨_, 0, rfl, by omega, by simp, fun j hj => by
        match j, hj with
        | 0, _ => simp [go_sem, syL]
      ⟩⟩
    | 2, _ => exact ⟨some ⟨w.heap.size + 2, 0, none⟩, 2, by simp [go_sem, syL], by simp [go_sem, syL], by simp [go_sem, syL], .inr ⟨_, 0, rfl, by omega, by simp, fun j hj => by
        match j, hj with
        | 0, _ => simp [go_sem, syL]
        | 1, _ => simp [go_sem, syL]
      ⟩⟩
    | 3, _ => exact ⟨none, 0, by simp [go_sem, syL], by simp [go_sem, syL], by simp [go_sem, syL], .inl rfl⟩
    | 4, _ => exact ⟨none, 0, by simp [go_sem, syL], by simp [go_sem, syL], by simp [go_sem, syL], .inl rfl⟩
  · match k, hk with
    | 0, _ => exact ⟨by decide, by decide⟩
    | 1, _ => exact ⟨by decide, by decide⟩
    | 2, _ => exact ⟨by decide, by decide⟩
    | 3, _ => exact ⟨by decide, by decide⟩
    | 4, _ => exact ⟨by decide, by decide⟩
  · (repeat first | with_reducible exact Below.refl _ _ | with_reducible assumption | with_reducible refine Below.drew ?_ | with_reducible refine bdn ?_ _ | with_reducible refine bal ?_ _ | (with_reducible refine bst ?_ ?_ _; rotate_left; (simp <;> omega)) | (with_reducible refine btr ?_ (by with_reducible assumption)))
set_option maxRecDepth 100000 in
set_option maxHeartbeats 4000000 in
theorem lbase_any (k : Int) (w : World) : Calls Try.prog 19 #[.int .i64 k] w (SgNew w) := by
  by_cases h0 : k = 0
  · subst h0; exact lbase_0 w
  by_cases h1 : k = 1
  · subst h1; exact lbase_1 w
  by_cases h2 : k = 2
  · subst h2; exact lbase_2 w
  by_cases h3 : k = 3
  · subst h3; exact lbase_3 w
  have d0 : (k == 0) = false := by simpa using h0
  have d1 : (k == 1) = false := by simpa using h1
  have d2 : (k == 2) = false := by simpa using h2
  have d3 : (k == 3) = false := by simpa using h3
  clear h0 h1 h2 h3
  go_enter Try.func19, Try.ntmps19
  go_wp2
  refine bodyPost_ret (v := .agg #[.slice (some ⟨w.heap.size + 1, 0, none⟩) 0 0]) (by simp [results, Try.results19, go_sem]) rfl ?_
  exact ⟨_, 0, 0, syL [], rfl, .inl rfl, fun k hk => absurd hk (Nat.not_lt_zero _), by decide, by decide, by decide, bal (bal (Below.refl _ _) _) _⟩
end Go.Proofs.Ytbhagobkkobgfaa

namespace Go.Proofs.Ytbhagobkkobgfaa
set_option linter.unusedVariables false
set_option linter.unusedSimpArgs false
open Go.RowKit
/-- a drawn vocabulary, handed back: its blocks from lo on, its sizes, what the draw turned -/
def SgDr (Bd lo b mx : Nat) (W : World) (g p : Nat) (e : Ending) (w' : World) : Prop :=
  ∃ A n c L q, e = .returned (.agg #[.slice A n c]) ∧ SyB lo w' A n L ∧ SmB b n L ∧ n ≤ mx ∧ n ≤ c ∧ c ≤ 9223372036854775807 ∧ W.grownBy w' (some g) ∧ RD Bd w' g q ∧ q ≤ p
theorem row_one (w : World) (x : Value) (t : TypeId) : (w.alloc (.cells #[x] t)).rowIs w.heap.size t 1 (fun _ => x) := World.rowIs_alloc w #[x] t _ (fun i hi => by
  have : i = 0 := by simpa using hi
  subst this; rfl)
theorem row_grow {w w' : World} {b m r : Nat} {t : TypeId} {f : Nat → Value} (h : w.rowIs b t m f) (hg : w.grownBy w' (some r)) (hr : b ≠ r) : w'.rowIs b t m f := h.of_block (hg.block b h.lt (fun e => hr (Option.some.inj e)))
set_option maxRecDepth 100000 in
set_option maxHeartbeats 4000000 in
theorem lsig_any (Bd : Nat) (w : World) (g p : Nat) (hR : RD Bd w g p) (hp : p ≤ 1000000) (hB : Bd ≤ w.heap.size) :
    Calls Try.prog 10 #[.pointer (some ⟨g, 0, none⟩)] w (SgDr Bd w.heap.size 2 64 w g (p + 1)) := by
  have hgl := hR.lt
  have hR2 := (hR.alloc (.cells #[.slice none 0 0] 25)).alloc (.cells #[.int .i64 0, .int .i64 0, .int .i64 1, .int .i64 1, .int .i64 2, .int .i64 3, .int .i64 1, .int .i64 4] 3)
  have hg2 : w.grownBy ((w.alloc (.cells #[.slice none 0 0] 25)).alloc (.cells #[.int .i64 0, .int .i64 0, .int .i64 1, .int .i64 1, .int .i64 2, .int .i64 3, .int .i64 1, .int .i64 4] 3)) (some g) := grow_alloc (grow_alloc (grow_refl _ _) _) _
  have hrow := (row_one w (.slice none 0 0) 25).alloc (.cells #[.int .i64 0, .int .i64 0, .int .i64 1, .int .i64 1, .int .i64 2, .int .i64 3, .int .i64 1, .int .i64 4] 3)
  have hN := num_any Bd _ g p (w.heap.size + 1) 8 8 [0, 0, 1, 1, 2, 3, 1, 4] hR2 (by omega) rfl (by decide) (by decide) (by omega) (fun k hk => by
    match k, hk with
    | 0, _ => simp [go_sem]
    | 1, _ => simp [go_sem]
    | 2, _ => simp [go_sem]
    | 3, _ => simp [go_sem]
    | 4, _ => simp [go_sem]
    | 5, _ => simp [go_sem]
    | 6, _ => simp [go_sem]
    | 7, _ => simp [go_sem])
  go_enter Try.func10, Try.ntmps10
  go_wp2_with fail
  refine hN.mono ?_
  rintro e w3 ⟨x, _, rfl, hg3, hR3⟩
  clear hN hR2
  have hrow3 := row_grow hrow hg3 (by omega)
  have hgw := grow_trans hg2 hg3
  clear hrow hg2 hg3
  go_wp2_with fail
  refine (lbase_any x w3).mono ?_
  rintro e w4 ⟨A, n, c, L, rfl, hS, hM, hn, hc1, hc2, hq⟩
  have hrow4 := row_below hrow3 hq
  have hR4 := hR3.below hq
  have hgw4 := grow_trans hgw (grow_of_below hq (some g))
  have c0 : w4.cell? ⟨w.heap.size, 0, none⟩ = some (.slice none 0 0) := hrow4.cell (i := 0) (by decide)
  have f0 : w4.frozen? ⟨w.heap.size, 0, none⟩ = false := hrow4.frozen 0
  have t0 : (w4.setCell ⟨w.heap.size, 0, none⟩ (.slice A n c)).cell? ⟨w.heap.size, 0, none⟩ = some (.slice A n c) := (hrow4.set 0 (.slice A n c)).cell (i := 0) (by decide)
  have hl3 : w.heap.size < w3.heap.size := hrow3.lt
  have hl4 := hrow4.lt
  have hS2 := hid ((hS.setL (p := w.heap.size) (o := 0) hl3 (.slice A n c)).mono (Nat.le_of_lt hl3))
  have hR5 := hid (hR4.set (q := w.heap.size) (by omega) hB 0 (.slice A n c))
  have hG5 := hid (grow_setNew hgw4 (q := w.heap.size) (Nat.le_refl _) 0 (.slice A n c))
  clear hrow3 hrow4 hS hR4 hR3 hgw hgw4 hq
  go_wp2
  refine bodyPost_ret (v := .agg #[.slice A n c]) (by simp [results, Try.results10, go_sem, t0]) rfl ?_
  exact ⟨A, n, c, L, p + 1, rfl, hS2.out, hM, hn, hc1, hc2, hG5.out, hR5.out, Nat.le_refl _⟩
end Go.Proofs.Ytbhagobkkobgfaa

namespace Go.Proofs.Ytbhagobkkobgfaa
set_option linter.unusedVariables false
set_option linter.unusedSimpArgs false
open Go.RowKit
theorem wpList_append_run {P : Program} {ops : Array Oper} {rest : List Oper} {o : Oper} {a : Act} {w : World} {Q : Exit → Act → World → Prop} (hgd : o.guard = none) (s x : Operand) (t : TypeId)
    (ho : o.op = .call { callee := .builtin .append, args := #[s, x], argTypes := #[t, t] }) (v u : Value) (hs : a.eval s = v) (hx : a.eval x = u) {v' : Value} {w' : World}
    (hr : (Builtin.append_ #[t, t] o.type #[v, u]).run P w = .ok v' w') (h : wpList P ops Q rest (a.put o.dst v') w') : wpList P ops Q (o :: rest) a w := by
  refine wpList_plain hgd fun K hK => ?_
  unfold Oper.wp execOp
  simp only [ho, resolve, invoke, builtin, Sem.run_bind, Sem.run_pure, Result.andThen_ok, List.map_toArray, List.map_cons, List.map_nil, hs, hx, hr]
  exact hK _ _ h
/-- numbers appended to an empty row of one's own -/
theorem app1_own (base g : Nat) (A4 : Option Addr) (c4 m : Nat) (Z : Nat → Int) (ty : TypeId) (w : World) (hm : m ≤ 1048576) (hI : Ints w A4 m Z) (hg : w.heap[g]? = some (Obj.cells #[] 3 (0, 0))) (hb : base ≤ g) (hbw : base ≤ w.heap.size) :
    ∃ a c w' zs, (Builtin.append_ #[29, 29] ty #[.slice (some ⟨g, 0, none⟩) 0 0, .slice A4 m c4]).run Try.prog w = .ok (.slice a m c) w' ∧ w.grownBy w' (some g) ∧ w'.ownsRow base 3 1 (.slice a m c) m zs ∧ (∀ j, j < m → zs[j]? = some (.int .i64 (Z j))) ∧ ∀ x, a.map (·.block) = some x → x = g ∨ x = w.heap.size := by
  obtain ⟨i0, hi, hz0, hz1, hz2⟩ := info_parts infoI
  have hown : w.ownsRow base 3 1 (.slice (some ⟨g, 0, none⟩) 0 0) 0 [] := ⟨by simp, .inr ⟨g, 0, #[], rfl, hb, hg, Nat.le_refl _, by decide, rfl, rfl⟩⟩
  by_cases h0 : m = 0
  · subst h0
    refine ⟨some ⟨g, 0, none⟩, 0, w, [], ?_, grow_refl _ _, hown, fun j hj => absurd hj (Nat.not_lt_zero _), fun x hx => .inl (by simpa using hx.symm)⟩
    cases A4 with
    | none => simp [Builtin.append_, run_underlying Try.underlying29, sizeOf, typeInfo, hi, Builtin.lenOf, Builtin.firstCells, storeCells]
    | some a =>
      have hf := run_firstCells_some (P := Try.prog) w i0.size 0 a 0 c4 [] (by simp) (fun j v h => by simp at h)
      simp [Builtin.append_, run_underlying Try.underlying29, sizeOf, typeInfo, hi, Builtin.lenOf, hf, storeCells]
  · rcases hI with h | ⟨g4, off, rfl, hg4, hc⟩
    · exact absurd h h0
    obtain ⟨v', w', hr, h2, h3, _, h5⟩ := run_append_own_at (P := Try.prog) w base 29 ty 3 i0 (.int .i64 0) 1 8 Try.underlying29 hi hz0 hz1 hz2 rfl (by decide) (.slice (some ⟨g, 0, none⟩) 0 0) 0 [] hown ⟨g4, off, none⟩ m c4 ((List.range m).map fun k => .int .i64 (Z k)) (by simp)
      (fun j v h => by
        rw [List.getElem?_map] at h
        by_cases hj : j < m
        · rw [List.getElem?_range hj] at h
          simp at h
          subst h
          have := hc j hj
          have e : (⟨g4, off, none⟩ : Addr).add j = ⟨g4, off + j, none⟩ := by cases j <;> simp [Addr.add]
          rw [e]; exact this
        · rw [List.getElem?_eq_none (by simp; omega)] at h
          simp at h) (fun u hu => by
        obtain ⟨k, _, rfl⟩ := List.mem_map.1 hu
        rfl) (by unfold maxLen; omega) (by omega) hbw
    rw [Nat.zero_add, List.nil_append] at h2
    have hs := h2
    obtain ⟨_, ⟨_, h⟩ | ⟨g', cap, cur, e, _⟩⟩ := hs
    · exact absurd h h0
    subst e
    refine ⟨_, cap, w', _, hr, h3, h2, fun j hj => by simp [hj], fun x hx => ?_⟩
    have hx' : g' = x := by simpa using hx
    subst hx'
    rcases h5 with h | h
    · exact .inl (by simpa [Value.ownBlock] using h)
    · exact .inr (by simpa [Value.ownBlock] using h)
theorem own_base {w : World} {b b' n size : Nat} {e : TypeId} {v : Value} {xs : List Value} (hb : b' ≤ b) (h : w.ownsRow b e size v n xs) : w.ownsRow b' e size v n xs := by
  refine ⟨h.1, ?_⟩
  rcases h.2 with hn | ⟨g, cap, cur, hv, h1, rest⟩
  · exact .inl hn
  · exact .inr ⟨g, cap, cur, hv, Nat.le_trans hb h1, rest⟩
/-- the rows of sorts lie apart -/
def YDis (n : Nat) (LA : Nat → Option Addr) : Prop := ∀ i j, i < n → j < n → i ≠ j → ∀ g, (LA i).map (·.block) = some g → (LA j).map (·.block) ≠ some g
theorem YDis.push {n N : Nat} {LA : Nat → Option Addr} {a : Option Addr} (h : YDis n LA) (h1 : ∀ i, i < n → ∀ g, (LA i).map (·.block) = some g → g < N) (h2 : ∀ g, a.map (·.block) = some g → N ≤ g) : YDis (n + 1) (fun k => if k = n then a else LA k) := by
  intro i j hi hj hij g hg
  by_cases ei : i = n
  · have ej : j ≠ n := by omega
    simp only [if_pos ei] at hg
    simp only [if_neg ej]
    intro e
    have := h1 j (by omega) g e
    have := h2 g hg
    omega
  · simp only [if_neg ei] at hg
    by_cases ej : j = n
    · simp only [if_pos ej]
      intro e
      have := h1 i (by omega) g hg
      have := h2 g e
      omega
    · simp only [if_neg ej]
      exact h i j (by omega) (by omega) hij g hg
theorem YSt.ltA {w : World} {lo : Nat} {v : Value} {n : Nat} {L : Sy} {LA : Nat → Option Addr} {LC : Nat → Nat} (h : YSt w lo v n L LA LC) : ∀ i, i < n → ∀ g, (LA i).map (·.block) = some g → lo ≤ g ∧ g < w.heap.size := fun i hi g hg => by
  obtain ⟨zs, hz, _⟩ := h.arg i hi
  refine hz.lt g ?_
  cases ha : LA i with
  | none => rw [ha] at hg; simp at hg
  | some a => rw [ha] at hg; simpa [Value.ownBlock] using hg
/-- what the copy keeps -/
structure BSt (Bd lo b : Nat) (wB : World) (g p : Nat) (po : Nat) (w : World) (v : Value) (n : Nat) (L : Sy) (LA : Nat → Option Addr) (LC : Nat → Nat) : Prop where
  y : YSt w lo v n L LA LC
  sm : SmB b n L
  box : w.rowIs po 25 1 (fun _ => v)
  grown : wB.grownBy w (some g)
  rd : RD Bd w g p
end Go.Proofs.Ytbhagobkkobgfaa

namespace Go.Proofs.Ytbhagobkkobgfaa
set_option linter.unusedVariables false
set_option linter.unusedSimpArgs false
open Go.RowKit
theorem set_at {xs : List Value} {n a b : Nat} {u : Value} (ha : a < xs.length) : (xs.set a u)[b]? = if b = a then some u else xs[b]? := by
  rw [List.getElem?_set]
  by_cases e : a = b
  · subst e; rw [if_pos rfl, if_pos rfl, if_pos ha]
  · rw [if_neg e, if_neg (fun h => e h.symm)]
theorem YSt.args_set {w : World} {lo gr cap n o : Nat} {L : Sy} {LA : Nat → Option Addr} {LC : Nat → Nat} (h : YSt w lo (.slice (some ⟨gr, 0, none⟩) n cap) n L LA LC) (u : Value) {m : Nat} {v : Value} {zs : List Value} (hz : w.ownsRow lo 3 1 v m zs) : (w.setCell ⟨gr, o, none⟩ u).ownsRow lo 3 1 v m zs := by
  obtain ⟨xs, ho, _⟩ := h.own
  exact own_kpD (fun g hg => Below.heap_setCell w ⟨gr, o, none⟩ u g (fun e => own_ne hz ho (by decide) hg (by have e' : g = gr := e; rw [e']; rfl))) hz
theorem YSt.putNm {w : World} {lo gr cap n j : Nat} {L : Sy} {LA : Nat → Option Addr} {LC : Nat → Nat} (h : YSt w lo (.slice (some ⟨gr, 0, none⟩) n cap) n L LA LC) (hj : j < n) (nm : ByteArray) :
    YSt (w.setCell ⟨gr, j * 3, none⟩ (.string nm)) lo (.slice (some ⟨gr, 0, none⟩) n cap) n ⟨fun k => if k = j then nm else L.Nm k, L.N, L.Z, L.S⟩ LA LC := by
  refine ⟨?_, fun k hk => ?_⟩
  · obtain ⟨xs, ho, hx⟩ := h.own
    have hl := ho.1
    refine ⟨_, (ho.stored (j * 3) _).1, fun k hk => ?_⟩
    obtain ⟨x0, x1, x2⟩ := hx k hk
    rw [set_at (n := n) (by omega), set_at (n := n) (by omega), set_at (n := n) (by omega), if_neg (by omega : ¬ k * 3 + 1 = j * 3), if_neg (by omega : ¬ k * 3 + 2 = j * 3)]
    refine ⟨?_, x1, x2⟩
    by_cases e : k = j
    · subst e; simp
    · simp only [if_neg e]; rw [if_neg (by omega)]; exact x0
  · obtain ⟨zs, hz, hzz⟩ := h.arg k hk
    exact ⟨zs, h.args_set _ hz, hzz⟩
theorem YSt.putS {w : World} {lo gr cap n j : Nat} {L : Sy} {LA : Nat → Option Addr} {LC : Nat → Nat} (h : YSt w lo (.slice (some ⟨gr, 0, none⟩) n cap) n L LA LC) (hj : j < n) (s : Int) :
    YSt (w.setCell ⟨gr, j * 3 + 2, none⟩ (.int .i64 s)) lo (.slice (some ⟨gr, 0, none⟩) n cap) n ⟨L.Nm, L.N, L.Z, fun k => if k = j then s else L.S k⟩ LA LC := by
  refine ⟨?_, fun k hk => ?_⟩
  · obtain ⟨xs, ho, hx⟩ := h.own
    have hl := ho.1
    refine ⟨_, (ho.stored (j * 3 + 2) _).1, fun k hk => ?_⟩
    obtain ⟨x0, x1, x2⟩ := hx k hk
    rw [set_at (n := n) (by omega), set_at (n := n) (by omega), set_at (n := n) (by omega), if_neg (by omega : ¬ k * 3 = j * 3 + 2), if_neg (by omega : ¬ k * 3 + 1 = j * 3 + 2)]
    refine ⟨x0, x1, ?_⟩
    by_cases e : k = j
    · subst e; simp
    · simp only [if_neg e]; rw [if_neg (by omega)]; exact x2
  · obtain ⟨zs, hz, hzz⟩ := h.arg k hk
    exact ⟨zs, h.args_set _ hz, hzz⟩
/-- the row of sorts of one symbol is another one, of which the other rows lie apart -/
theorem YSt.putA {w : World} {lo gr cap n j : Nat} {L : Sy} {LA : Nat → Option Addr} {LC : Nat → Nat} (h : ∃ xs, w.ownsRow lo 31 3 (.slice (some ⟨gr, 0, none⟩) n cap) n xs ∧ ∀ k, k < n → xs[k * 3]? = some (.string (L.Nm k)) ∧ xs[k * 3 + 1]? = some (.slice (LA k) (L.N k) (LC k)) ∧ xs[k * 3 + 2]? = some (.int .i64 (L.S k)))
    (harg : ∀ k, k < n → k ≠ j → ∃ zs, w.ownsRow lo 3 1 (.slice (LA k) (L.N k) (LC k)) (L.N k) zs ∧ ∀ i, i < L.N k → zs[i]? = some (.int .i64 (L.Z k i))) (hj : j < n) {a : Option Addr} {m c : Nat} {Z : Nat → Int} {zs : List Value} (ha : w.ownsRow lo 3 1 (.slice a m c) m zs) (hz : ∀ i, i < m → zs[i]? = some (.int .i64 (Z i))) :
    YSt (w.setCell ⟨gr, j * 3 + 1, none⟩ (.slice a m c)) lo (.slice (some ⟨gr, 0, none⟩) n cap) n ⟨L.Nm, fun k => if k = j then m else L.N k, fun k => if k = j then Z else L.Z k, L.S⟩ (fun k => if k = j then a else LA k) (fun k => if k = j then c else LC k) := by
  obtain ⟨xs, ho, hx⟩ := h
  have keep : ∀ {u : Value} {k : Nat} {ys : List Value}, w.ownsRow lo 3 1 u k ys → (w.setCell ⟨gr, j * 3 + 1, none⟩ (.slice a m c)).ownsRow lo 3 1 u k ys := fun {u k ys} hz =>
    own_kpD (fun g hg => Below.heap_setCell w ⟨gr, j * 3 + 1, none⟩ _ g (fun e => own_ne hz ho (by decide) hg (by have e' : g = gr := e; rw [e']; rfl))) hz
  refine ⟨?_, fun k hk => ?_⟩
  · have hl := ho.1
    refine ⟨_, (ho.stored (j * 3 + 1) _).1, fun k hk => ?_⟩
    obtain ⟨x0, x1, x2⟩ := hx k hk
    rw [set_at (n := n) (by omega), set_at (n := n) (by omega), set_at (n := n) (by omega), if_neg (by omega : ¬ k * 3 = j * 3 + 1), if_neg (by omega : ¬ k * 3 + 2 = j * 3 + 1)]
    refine ⟨x0, ?_, x2⟩
    by_cases e : k = j
    · subst e; simp
    · simp only [if_neg e]; rw [if_neg (by omega)]; exact x1
  · by_cases e : k = j
    · subst e
      simp only [if_true]
      exact ⟨zs, keep ha, hz⟩
    · simp only [if_neg e]
      obtain ⟨zs', hz', hzz⟩ := harg k hk e
      exact ⟨zs', keep hz', hzz⟩
/-- of a row that is not empty: where it lies, its cells -/
theorem YSt.row {w : World} {lo : Nat} {v : Value} {n : Nat} {L : Sy} {LA : Nat → Option Addr} {LC : Nat → Nat} (h : YSt w lo v n L LA LC) (hn : n ≠ 0) : ∃ gr cap, v = .slice (some ⟨gr, 0, none⟩) n cap ∧ n ≤ cap ∧ cap ≤ 9223372036854775807 ∧ lo ≤ gr ∧ gr < w.heap.size ∧ (∀ o, w.frozen? ⟨gr, o, none⟩ = false) ∧
    ∀ k, k < n → w.cell? ⟨gr, k * 3, none⟩ = some (.string (L.Nm k)) ∧ w.cell? ⟨gr, k * 3 + 1, none⟩ = some (.slice (LA k) (L.N k) (LC k)) ∧ w.cell? ⟨gr, k * 3 + 2, none⟩ = some (.int .i64 (L.S k)) := by
  obtain ⟨xs, ho, hx⟩ := h.own
  rcases ho.2 with ⟨_, h⟩ | ⟨gr, cap, cur, rfl, hb, hh, h1, h2, _⟩
  · exact absurd h hn
  · refine ⟨gr, cap, rfl, h1, by unfold maxLen at h2; omega, hb, (Array.getElem?_eq_some_iff.1 hh).1, fun o => ho.frozenAt o, fun k hk => ?_⟩
    obtain ⟨x0, x1, x2⟩ := hx k hk
    exact ⟨(ho.cellAt _ (by omega)).trans x0, (ho.cellAt _ (by omega)).trans x1, (ho.cellAt _ (by omega)).trans x2⟩
end Go.Proofs.Ytbhagobkkobgfaa

namespace Go.Proofs.Ytbhagobkkobgfaa
set_option linter.unusedVariables false
set_option linter.unusedSimpArgs false
open Go.RowKit
theorem YSt.app_block {w w7 : World} {lo gr cap n j po : Nat} {L : Sy} {LA : Nat → Option Addr} {LC : Nat → Nat} {cs : Array Value} {fr : Nat × Nat} (h : YSt w lo (.slice (some ⟨gr, 0, none⟩) n cap) n L LA LC) (hj : j < n) (hp : w.heap[po]? = some (Obj.cells cs 25 fr))
    (hg : w.grownBy w7 (Value.slice (LA j) (L.N j) (LC j)).ownBlock) : w7.heap[gr]? = w.heap[gr]? ∧ w7.heap[po]? = w.heap[po]? := by
  obtain ⟨xs, ho, _⟩ := h.own
  obtain ⟨zs, hz, _⟩ := h.arg j hj
  exact ⟨hg.block gr (ho.lt gr rfl).2 (fun e => own_ne ho hz (by decide) rfl e.symm), hg.block po (Array.getElem?_eq_some_iff.1 hp).1 (fun e => own_typ hz hp (by decide) e.symm)⟩
theorem BSt.putA {Bd lo b b' : Nat} {wB : World} {g q po gr cap n j : Nat} {w w7 : World} {L : Sy} {LA : Nat → Option Addr} {LC : Nat → Nat} (h : BSt Bd lo b wB g q po w (.slice (some ⟨gr, 0, none⟩) n cap) n L LA LC) (hd : YDis n LA) (hj : j < n) (h1 : wB.heap.size ≤ gr) (h2 : gr ≠ g) (h3 : Bd ≤ gr) (hl : wB.heap.size ≤ lo) (hl2 : Bd ≤ lo) (hgl : g < lo)
    (hg : w.grownBy w7 (Value.slice (LA j) (L.N j) (LC j)).ownBlock) {a : Option Addr} {m c : Nat} {Z : Nat → Int} {zs : List Value} (ha : w7.ownsRow lo 3 1 (.slice a m c) m zs) (hz : ∀ i, i < m → zs[i]? = some (.int .i64 (Z i))) (hm : m ≤ b') (hb : b ≤ b') :
    BSt Bd lo b' wB g q po (w7.setCell ⟨gr, j * 3 + 1, none⟩ (.slice a m c)) (.slice (some ⟨gr, 0, none⟩) n cap) n ⟨L.Nm, fun k => if k = j then m else L.N k, fun k => if k = j then Z else L.Z k, L.S⟩ (fun k => if k = j then a else LA k) (fun k => if k = j then c else LC k) := by
  obtain ⟨xs, ho, hx⟩ := h.y.own
  obtain ⟨zj, hzj, _⟩ := h.y.arg j hj
  obtain ⟨cs, hcs, hbx⟩ := h.box
  obtain ⟨k1, k2⟩ := h.y.app_block hj hcs hg
  have hpo : po ≠ gr := fun e => own_typ ho hcs (by decide) (by rw [e]; rfl)
  have hlt := fun r (e : (Value.slice (LA j) (L.N j) (LC j)).ownBlock = some r) => (hzj.lt r e).1
  have ho7 : w7.ownsRow lo 31 3 (.slice (some ⟨gr, 0, none⟩) n cap) n xs := own_kpD (fun g' e => by
    have e' : gr = g' := by simpa [Value.ownBlock] using e
    subst e'; exact k1) ho
  have hox : w7.rowIs po 25 1 (fun _ => .slice (some ⟨gr, 0, none⟩) n cap) := h.box.of_block k2
  refine ⟨YSt.putA ⟨xs, ho7, hx⟩ (fun k hk hkj => ?_) hj ha hz, fun k hk => ?_, hox.setOther (a := ⟨gr, j * 3 + 1, none⟩) (by simpa using hpo) _, grow_setNew ?_ h1 _ _, (h.rd.grow hg (fun r e => by have := hlt r e; omega)).set (q := gr) h2 h3 _ _⟩
  · obtain ⟨ys, hy, hyy⟩ := h.y.arg k hk
    refine ⟨ys, own_kpD (fun g' e => ?_) hy, hyy⟩
    refine hg.block g' (hy.lt g' e).2 (fun e2 => ?_)
    have e3 : (LA j).map (·.block) = some g' := by
      cases ha : LA j with
      | none => rw [ha] at e2; simp [Value.ownBlock] at e2
      | some x => rw [ha] at e2; simpa [Value.ownBlock] using e2.symm
    have e4 : (LA k).map (·.block) = some g' := by
      cases ha : LA k with
      | none => rw [ha] at e; simp [Value.ownBlock] at e
      | some x => rw [ha] at e; simpa [Value.ownBlock] using e
    exact hd k j hk hj hkj g' e4 e3
  · have := h.sm k hk
    refine ⟨?_, this.2⟩
    simp only
    split
    · exact hm
    · omega
  · exact ⟨hg.os.trans h.grown.os, hg.tape.trans h.grown.tape, hg.output.trans h.grown.output, Nat.le_trans h.grown.size hg.size, fun k hk hne => (hg.block k (Nat.lt_of_lt_of_le hk h.grown.size) (fun e => by have := hlt k e.symm; omega)).trans (h.grown.block k hk hne)⟩
/-- append to a row of one's own: what lay in the row stays where it lay -/
theorem run_append_stay {P : Program} (w : World) (base : Nat) (t ty e : TypeId) (i : TypeInfo) (z : Value) (size bytes : Nat) (ht : P.underlying t = some (.slice e)) (hi : P.info? e = some i) (hz : i.zero = some z)
    (hsize : i.size = size) (hby : i.bytes = bytes) (hzs : z.cells.size = size) (hsz : 0 < size)
    (g0 cap n : Nat) (xs : List Value) (hown : w.ownsRow base e size (.slice (some ⟨g0, 0, none⟩) n cap) n xs)
    (a : Addr) (m c : Nat) (news : List Value) (hl : news.length = m * size) (hnews : ∀ j u, news[j]? = some u → w.cell? (a.add j) = some u) (h1 : ∀ u ∈ news, u.oneCell' = true)
    (h63 : n + m ≤ maxLen) (hbytes : (n + m) * bytes ≤ 140737488355328) (hbase : base ≤ w.heap.size) :
    ∃ v' w', (Builtin.append_ #[t, t] ty #[.slice (some ⟨g0, 0, none⟩) n cap, .slice (some a) m c]).run P w = .ok v' w' ∧ w'.ownsRow base e size v' (n + m) (xs ++ news) ∧ w.grownBy w' (some g0) ∧ ∀ o, o < n * size → w'.cell? ⟨g0, o, none⟩ = w.cell? ⟨g0, o, none⟩ := by
  obtain ⟨v', w', hr, h2, h3, h4⟩ := run_append_own (P := P) w base t ty e i z size bytes ht hi hz hsize hby hzs hsz _ n xs hown a m c news hl hnews h1 h63 hbytes hbase
  refine ⟨v', w', hr, h2, h3, ?_⟩
  have hmx : maxLen ≤ 9223372036854775807 := by unfold maxLen; omega
  obtain ⟨hlx, ⟨h, _⟩ | ⟨g1, cap1, cur, hv, hbg, hg, hnc, hcm, hcs, htake⟩⟩ := id hown
  · cases h
  injection hv with hv1 _ hv3
  injection hv1 with hv1
  injection hv1 with hv1 _ _
  subst hv1 hv3
  subst hsize
  by_cases hroom : n + m ≤ cap
  · have hfit : n * i.size + news.length ≤ cur.size := by rw [hl, hcs, ← Nat.add_mul]; exact Nat.mul_le_mul_right _ hroom
    have hr2 := run_append_room (P := P) w t ty e i ht hi g0 n cap cur hg a m c news hl hnews h1 hroom hfit
    rw [hr] at hr2
    injection hr2 with e1 e2
    subst e1
    intro o ho
    have hn : o < (n + m) * i.size := Nat.lt_of_lt_of_le ho (Nat.mul_le_mul_right _ (Nat.le_add_right _ _))
    rw [hown.cellAt o ho, h2.cellAt o hn, List.getElem?_append_left (by omega)]
  · have holds : ∀ j u, xs[j]? = some u → w.cell? ((⟨g0, 0, none⟩ : Addr).add j) = some u := hown.cells (g := g0) rfl
    subst hby
    have hr2 := run_append_grow (P := P) w t ty e i z ht hi hz ⟨g0, 0, none⟩ n cap xs hown.1 holds a m c news hl hnews (by omega) (by omega) (growslice_fits (by omega) hbytes)
    rw [hr] at hr2
    injection hr2 with e1 e2
    subst e2
    intro o ho
    exact World.cell?_of_block (heap_alloc_old w.drew _ (Array.getElem?_eq_some_iff.1 hg).1)
theorem run_load3o {P : Program} {o : Oper} {ty : TypeId} {x : Operand} (ho : o.op = .load ty x) {a : Act} {b s : Nat} (hx : a.eval x = .pointer (some ⟨b, s, none⟩)) {d : TypeDesc} (hu : P.underlying ty = some d) (hd : d.isRow = true) (hi : (P.info? ty).map (·.size) = some 3) {x0 x1 x2 : Value} {w : World}
    (h0 : w.cell? ⟨b, s, none⟩ = some x0) (h1 : w.cell? ⟨b, s + 1, none⟩ = some x1) (h2 : w.cell? ⟨b, s + 2, none⟩ = some x2) : (execOp a.eval o).run P w = .ok (.value (.agg #[x0, x1, x2])) w := by
  have hc : w.rangeAt b s [x0, x1, x2] := fun j v hv => by
    match j, hv with
    | 0, hv => simp at hv; subst hv; simpa using h0
    | 1, hv => simp at hv; subst hv; simpa using h1
    | 2, hv => simp at hv; subst hv; simpa using h2
    | j + 3, hv => simp at hv
  have hl := run_loadVar_mid (P := P) w b s ty [x0, x1, x2] d hc hu hd hi
  unfold execOp
  simp only [ho, hx, Instr.loadAt, Instr.sureAddr, Sem.run_bind, Sem.run_pure, Result.andThen_ok, hl]
/-- one symbol more, behind an append -/
theorem BSt.push {Bd lo b : Nat} {wB : World} {g q po gr cap n : Nat} {w w9 : World} {L : Sy} {LA : Nat → Option Addr} {LC : Nat → Nat} (h : BSt Bd lo b wB g q po w (.slice (some ⟨gr, 0, none⟩) n cap) n L LA LC) {xs : List Value}
    (ho : w.ownsRow lo 31 3 (.slice (some ⟨gr, 0, none⟩) n cap) n xs) (hx : ∀ k, k < n → xs[k * 3]? = some (.string (L.Nm k)) ∧ xs[k * 3 + 1]? = some (.slice (LA k) (L.N k) (LC k)) ∧ xs[k * 3 + 2]? = some (.int .i64 (L.S k)))
    {nm : ByteArray} {a : Option Addr} {m c : Nat} {s : Int} {Z : Nat → Int} {zs : List Value} (ha : w.ownsRow lo 3 1 (.slice a m c) m zs) (hz : ∀ j, j < m → zs[j]? = some (.int .i64 (Z j))) (hm : m ≤ b) (hnm : nm.size ≤ 1048576)
    {v' : Value} (hown : w9.ownsRow lo 31 3 v' (n + 1) (xs ++ [.string nm, .slice a m c, .int .i64 s])) (hg : w.grownBy w9 (some gr)) (h1 : wB.heap.size ≤ gr) (h2 : gr ≠ g) (h3 : Bd ≤ gr) (h4 : wB.heap.size ≤ po) (h5 : po ≠ g) (h6 : Bd ≤ po) :
    BSt Bd lo b wB g q po (w9.setCell ⟨po, 0, none⟩ v') v' (n + 1) ⟨fun k => if k = n then nm else L.Nm k, fun k => if k = n then m else L.N k, fun k => if k = n then Z else L.Z k, fun k => if k = n then s else L.S k⟩ (fun k => if k = n then a else LA k) (fun k => if k = n then c else LC k) := by
  obtain ⟨cs, hcs, hbx⟩ := h.box
  have hpo : po ≠ gr := fun e => own_typ ho hcs (by decide) (by rw [e]; rfl)
  have hb9 : w9.heap[po]? = w.heap[po]? := hg.block po (Array.getElem?_eq_some_iff.1 hcs).1 (fun e => hpo (Option.some.inj e))
  have hox := h.box.of_block hb9
  have hcs9 := hb9.trans hcs
  refine ⟨(YSt.push h.y hx ho.1 ho ha hz hown hg).setT hcs9 (by decide) (by decide) _, fun k hk => ?_, (hox.set 0 _).congr fun i hi => (if_pos (by omega)), grow_setNew ?_ h4 _ _, (h.rd.grow hg (fun r e => by cases e; omega)).set (q := po) h5 h6 _ _⟩
  · by_cases e : k = n
    · simp only [if_pos e]; exact ⟨hm, hnm⟩
    · simp only [if_neg e]; exact h.sm k (by omega)
  · exact ⟨hg.os.trans h.grown.os, hg.tape.trans h.grown.tape, hg.output.trans h.grown.output, Nat.le_trans h.grown.size hg.size, fun k hk hne => (hg.block k (Nat.lt_of_lt_of_le hk h.grown.size) (fun e => by cases e; omega)).trans (h.grown.block k hk hne)⟩
/-- how long the list in a box is -/
def yln (w : World) (p : Nat) : Nat := match w.cell? ⟨p, 0, none⟩ with
  | some (.slice _ n _) => n
  | _ => 0
theorem yln_eq {w : World} {p n c : Nat} {a : Option Addr} (h : w.cell? ⟨p, 0, none⟩ = some (.slice a n c)) : yln w p = n := by unfold yln; rw [h]
end Go.Proofs.Ytbhagobkkobgfaa

namespace Go.Proofs.Ytbhagobkkobgfaa
set_option linter.unusedVariables false
set_option linter.unusedSimpArgs false
open Go.RowKit
def rowOf3 (x y z : Value) (i : Nat) : Value := if i = 0 then x else if i = 1 then y else z
theorem rowOf3_ok (x y z : Value) : ∀ i, i < (#[x, y, z] : Array Value).size → (#[x, y, z] : Array Value)[i]? = some (rowOf3 x y z i) := by
  intro i hi
  match i, hi with
  | 0, _ => rfl
  | 1, _ => rfl
  | 2, _ => rfl
theorem heap_newD (w : World) (cs : Array Value) (t : TypeId) : (w.alloc (.cells cs t)).heap[w.heap.size]? = some (Obj.cells cs t (0, 0)) := heap_alloc_new w _
theorem new3c (w : World) (x0 x1 x2 : Value) (t : TypeId) : ∀ (j : Nat) (u : Value), ([x0, x1, x2] : List Value)[j]? = some u → (w.alloc (.cells #[x0, x1, x2] t)).cell? ((⟨w.heap.size, 0, none⟩ : Addr).add j) = some u := by
  intro j u h
  match j with
  | 0 => simp at h; subst h; simp [go_sem, Addr.add]
  | 1 => simp at h; subst h; simp [go_sem, Addr.add]
  | 2 => simp at h; subst h; simp [go_sem, Addr.add]
  | j + 3 => simp at h
theorem below_growD {b : Nat} {w w' w'' : World} {r : Option Nat} (h : Below b w w') (hg : w'.grownBy w'' r) (hr : ∀ k, r = some k → b ≤ k) (hbw : b ≤ w.heap.size) : Below b w w'' :=
  ⟨hg.os.trans h.os, hg.tape.trans h.tape, hg.output.trans h.output, Nat.le_trans h.size hg.size, fun i hi => (hg.block i (Nat.lt_of_lt_of_le (Nat.lt_of_lt_of_le hi hbw) h.size) (fun e => by have := hr i e.symm; omega)).trans (h.block i hi)⟩
theorem own_slD {w : World} {b n size : Nat} {e : TypeId} {v : Value} {xs : List Value} (h : w.ownsRow b e size v (n + 1) xs) : ∃ a c, v = .slice a (n + 1) c := by
  obtain ⟨_, ⟨_, h0⟩ | ⟨g, cap, cur, h, _⟩⟩ := h
  · exact absurd h0 (by omega)
  · exact ⟨_, _, h⟩
def syPut (L : Sy) (n : Nat) (nm : ByteArray) (m : Nat) (Z : Nat → Int) (s : Int) : Sy := ⟨fun k => if k = n then nm else L.Nm k, fun k => if k = n then m else L.N k, fun k => if k = n then Z else L.Z k, fun k => if k = n then s else L.S k⟩
theorem SmB.put {b n : Nat} {L : Sy} {nm : ByteArray} {m : Nat} {Z : Nat → Int} {s : Int} (h : SmB b n L) (h1 : m ≤ b) (h2 : nm.size ≤ 1048576) : SmB b (n + 1) (syPut L n nm m Z s) := by
  intro k hk
  by_cases e : k = n
  · simp only [syPut, if_pos e]; exact ⟨h1, h2⟩
  · simp only [syPut, if_neg e]; exact h k (by omega)
theorem grow_row {a w w' : World} {g : Nat} {row : Option Nat} (h : a.grownBy w (some g)) (hg : w.grownBy w' row) (hr : ∀ r, row = some r → a.heap.size ≤ r) : a.grownBy w' (some g) :=
  ⟨hg.os.trans h.os, hg.tape.trans h.tape, hg.output.trans h.output, Nat.le_trans h.size hg.size, fun k hk hne => (hg.block k (Nat.lt_of_lt_of_le hk h.size) (fun e => by have := hr k e.symm; omega)).trans (h.block k hk hne)⟩
theorem SmB.mono {b b' n : Nat} {L : Sy} (h : SmB b n L) (hb : b ≤ b') : SmB b' n L := fun k hk => ⟨Nat.le_trans (h k hk).1 hb, (h k hk).2⟩
theorem BSt.mono {Bd lo b b' : Nat} {wB : World} {g p po : Nat} {w : World} {v : Value} {n : Nat} {L : Sy} {LA : Nat → Option Addr} {LC : Nat → Nat} (h : BSt Bd lo b wB g p po w v n L LA LC) (hb : b ≤ b') : BSt Bd lo b' wB g p po w v n L LA LC := ⟨h.y, h.sm.mono hb, h.box, h.grown, h.rd⟩
/-- the reader goes on -/
theorem BSt.go {Bd lo b : Nat} {wB : World} {g p q po : Nat} {w w' : World} {v : Value} {n : Nat} {L : Sy} {LA : Nat → Option Addr} {LC : Nat → Nat} (h : BSt Bd lo b wB g p po w v n L LA LC) (hg : w.grownBy w' (some g)) (hR : RD Bd w' g q) (h1 : g < lo) (h2 : po ≠ g) : BSt Bd lo b wB g q po w' v n L LA LC :=
  ⟨h.y.grow hg h1, h.sm, row_grow h.box hg h2, grow_trans h.grown hg, hR⟩
theorem exec_append {P : Program} {o : Oper} {a : Act} {w : World} {s x : Operand} {t : TypeId} (ho : o.op = .call { callee := .builtin .append, args := #[s, x], argTypes := #[t, t] }) {v u v' : Value} {w' : World} (hs : a.eval s = v) (hx : a.eval x = u)
    (hr : (Builtin.append_ #[t, t] o.type #[v, u]).run P w = .ok v' w') : (execOp a.eval o).run P w = .ok (.value v') w' := by
  unfold execOp
  simp only [ho, resolve, invoke, builtin, Sem.run_bind, Sem.run_pure, Result.andThen_ok, List.map_toArray, List.map_cons, List.map_nil, hs, hx, hr]
theorem BSt.ne {Bd lo b : Nat} {wB : World} {g q po gr cap n : Nat} {w : World} {L : Sy} {LA : Nat → Option Addr} {LC : Nat → Nat} (h : BSt Bd lo b wB g q po w (.slice (some ⟨gr, 0, none⟩) n cap) n L LA LC) : po ≠ gr := by
  obtain ⟨xs, ho, _⟩ := h.y.own
  obtain ⟨cs, hcs, _⟩ := h.box
  intro e
  exact own_typ ho hcs (by decide) (by rw [e]; rfl)
/-- a symbol is turned -/
theorem BSt.put {Bd lo b b' : Nat} {wB : World} {g q po gr cap n : Nat} {w : World} {L L' : Sy} {LA LA' : Nat → Option Addr} {LC LC' : Nat → Nat} (h : BSt Bd lo b wB g q po w (.slice (some ⟨gr, 0, none⟩) n cap) n L LA LC) {o : Nat} {u : Value} (h1 : wB.heap.size ≤ gr) (h2 : gr ≠ g) (h3 : Bd ≤ gr)
    (hy : YSt (w.setCell ⟨gr, o, none⟩ u) lo (.slice (some ⟨gr, 0, none⟩) n cap) n L' LA' LC') (hs : SmB b' n L') : BSt Bd lo b' wB g q po (w.setCell ⟨gr, o, none⟩ u) (.slice (some ⟨gr, 0, none⟩) n cap) n L' LA' LC' :=
  ⟨hy, hs, h.box.setOther (a := ⟨gr, o, none⟩) (by simpa using h.ne) u, grow_setNew h.grown h1 o u, h.rd.set (q := gr) h2 h3 o u⟩
/-- what is handed back -/
theorem bent_fin {Bd b n p : Nat} {w wB W : World} {g q : Nat} {a : Option Addr} {n' c' : Nat} {L : Sy} {LA : Nat → Option Addr} {LC : Nat → Nat} (hGB : w.grownBy wB (some g)) (hzB : wB.heap.size = w.heap.size + 2) (hgl : g < w.heap.size) (hB : Bd ≤ w.heap.size) (h : BSt Bd (w.heap.size + 2) (b + 1) wB g q (w.heap.size + 3) W (.slice a n' c') n' L LA LC) (hn : n' ≤ n + 10) (hq : q ≤ p + 20) :
    SgDr Bd (w.heap.size + 2) (b + 1) (n + 10) w g (p + 20) (.returned (.agg #[.slice a n' c'])) (W.setCell ⟨w.heap.size + 1, 0, none⟩ (.slice a n' c')) := by
  obtain ⟨a1, c1, e, m1, m2⟩ := h.y.slice
  injection e with e1 _ e3
  subst e1 e3
  exact ⟨a, n', c', L, q, rfl, (h.y.syb rfl).setL (by omega) _, h.sm, hn, m1, m2, grow_setNew (grow_trans hGB h.grown) (Nat.le_succ _) _ _, h.rd.set (q := w.heap.size + 1) (by omega) (by omega) _ _, hq⟩
set_option maxRecDepth 100000 in
set_option maxHeartbeats 16000000 in
theorem lbent_any (Bd lo0 b : Nat) (w : World) (g p : Nat) (A : Option Addr) (n c : Nat) (L : Sy) (hR : RD Bd w g p) (hp : p ≤ 100000) (hB : Bd ≤ w.heap.size) (hS : SyB lo0 w A n L) (hlo : g < lo0) (hM : SmB b n L) (hb : b ≤ 1000) (hn : n ≤ 100) :
    Calls Try.prog 9 #[.pointer (some ⟨g, 0, none⟩), .agg #[.slice A n c]] w (SgDr Bd (w.heap.size + 2) (b + 1) (n + 10) w g (p + 20)) := by
  have hgl := hR.lt
  have hGB : w.grownBy ((w.alloc (.cells #[.slice A n c] 25)).alloc (.cells #[.slice none 0 0] 25)) (some g) := grow_alloc (grow_alloc (grow_refl _ _) _) _
  have hzB : ((w.alloc (.cells #[.slice A n c] 25)).alloc (.cells #[.slice none 0 0] 25)).heap.size = w.heap.size + 2 := by simp
  have rs := (row_one w (.slice A n c) 25).alloc (.cells #[.slice none 0 0] 25)
  have rr := row_one (w.alloc (.cells #[.slice A n c] 25)) (.slice none 0 0) 25
  rw [World.size_alloc] at rr
  have ro := row_one (((w.alloc (.cells #[.slice A n c] 25)).alloc (.cells #[.slice none 0 0] 25)).alloc (.cells #[] 31)) (.slice (some ⟨w.heap.size + 2, 0, none⟩) 0 0) 25
  have hz3 : (((w.alloc (.cells #[.slice A n c] 25)).alloc (.cells #[.slice none 0 0] 25)).alloc (.cells #[] 31)).heap.size = w.heap.size + 3 := by simp
  rw [hz3] at ro
  have hy0 : ((((w.alloc (.cells #[.slice A n c] 25)).alloc (.cells #[.slice none 0 0] 25)).alloc (.cells #[] 31)).alloc (.cells #[.slice (some ⟨w.heap.size + 2, 0, none⟩) 0 0] 25)).ownsRow (w.heap.size + 2) 31 3 (.slice (some ⟨w.heap.size + 2, 0, none⟩) 0 0) 0 [] := by
    have h := (World.ownsRow_made ((w.alloc (.cells #[.slice A n c] 25)).alloc (.cells #[.slice none 0 0] 25)) (base := w.heap.size + 2) (e := 31) (size := 3) #[] 0 (Nat.le_of_eq hzB.symm) (by decide) rfl).alloc (.cells #[.slice (some ⟨w.heap.size + 2, 0, none⟩) 0 0] 25)
    rw [hzB] at h
    exact h
  have hG1 : ((w.alloc (.cells #[.slice A n c] 25)).alloc (.cells #[.slice none 0 0] 25)).grownBy ((((w.alloc (.cells #[.slice A n c] 25)).alloc (.cells #[.slice none 0 0] 25)).alloc (.cells #[] 31)).alloc (.cells #[.slice (some ⟨w.heap.size + 2, 0, none⟩) 0 0] 25)) (some g) := grow_alloc (grow_alloc (grow_refl _ _) _) _
  have hR1 : RD Bd ((((w.alloc (.cells #[.slice A n c] 25)).alloc (.cells #[.slice none 0 0] 25)).alloc (.cells #[] 31)).alloc (.cells #[.slice (some ⟨w.heap.size + 2, 0, none⟩) 0 0] 25)) g p := (((hR.alloc _).alloc _).alloc _).alloc _
  have hS1 := hid hS
  have HM := hid hM
  clear hM hS
  go_enter Try.func9, Try.ntmps9
  go_upto_region 2 with fail
  generalize hWB : ((w.alloc (.cells #[.slice A n c] 25)).alloc (.cells #[.slice none 0 0] 25)) = wB at *
  have HWB := hid hWB
  clear hWB
  generalize (wB.alloc (.cells #[] 31)).alloc (.cells #[.slice (some ⟨w.heap.size + 2, 0, none⟩) 0 0] 25) = w1 at *
  obtain ⟨v0, hv0⟩ : ∃ v, v = Value.slice (some ⟨w.heap.size + 2, 0, none⟩) 0 0 := ⟨_, rfl⟩
  rw [← hv0] at hy0 ro
  have HST : Hid (BSt Bd (w.heap.size + 2) b wB g p (w.heap.size + 3) w1 v0 0 ⟨fun _ => ⟨#[]⟩, fun _ => 0, fun _ _ => 0, fun _ => 0⟩ (fun _ => none) (fun _ => 0)) := hid ⟨⟨⟨[], hy0, fun k hk => absurd hk (Nat.not_lt_zero _)⟩, fun k hk => absurd hk (Nat.not_lt_zero _)⟩, fun k hk => absurd hk (Nat.not_lt_zero _), ro, hG1, hR1⟩
  have HGB := hid hGB; have HRS := hid rs; have HRR := hid rr; have HZB := hid hzB
  clear hGB rs rr ro hy0 hG1 hR1 hR hz3 hzB hv0
  go_wp2
  go_loopw [6] (fun i wr => ∃ (k : Nat) (v : Value) (L' : Sy) (LA : Nat → Option Addr) (LC : Nat → Nat), k ≤ n ∧ i = .int .i64 k ∧ BSt Bd (w.heap.size + 2) b wB g p (w.heap.size + 3) wr v k L' LA LC ∧ YDis k LA) (fun i _ => n - (intOf i).toNat)
  case atStart => exact ⟨0, v0, _, _, _, Nat.zero_le _, rfl, HST.out, fun i j hi => absurd hi (Nat.not_lt_zero _)⟩
  case round =>
    obtain ⟨k, v, L', LA, LC, hk, rfl, hST, hYD⟩ := hrel
    have HS := hid hST; have HYD := hid hYD
    clear hST hYD HST
    have s0 : wr.cell? ⟨w.heap.size, 0, none⟩ = some (.slice A n c) := (row_grow HRS.out HS.out.grown (by omega)).cell (i := 0) (by decide)
    have l0 : w.heap.size < wr.heap.size := cell_lt s0
    obtain ⟨va, vc, hve, hvc1, hvc2⟩ := HS.out.y.slice
    subst hve
    have y0 : wr.cell? ⟨w.heap.size + 3, 0, none⟩ = some (.slice va k vc) := HS.out.box.cell (i := 0) (by decide)
    have ly : w.heap.size + 3 < wr.heap.size := cell_lt y0
    by_cases hlt : k < n
    · have hSr := hS1.out.grow (grow_trans HGB.out HS.out.grown) hlo
      rcases hSr with h0 | ⟨gs, off, rfl, _, hgs, hcA⟩
      · omega
      obtain ⟨a9, c9, a0, a1, a2, hI9⟩ := hcA k hlt
      have hI9' : Ints wr a9 (L.N k) (L.Z k) := by
        rcases hI9 with h | ⟨g9, o9, e, _, h1, h2⟩
        · exact .inl h
        · exact .inr ⟨g9, o9, e, h1, h2⟩
      have hMk := HM.out k hlt
      clear hcA hI9
      have bX := bal (bal (Below.refl wr.heap.size wr) (.cells #[.string (L.Nm k), .slice a9 (L.N k) c9, .int .i64 (L.S k)] 31)) (.cells #[] 3)
      have rx := (World.rowIs_alloc wr #[.string (L.Nm k), .slice a9 (L.N k) c9, .int .i64 (L.S k)] 31 (rowOf3 (.string (L.Nm k)) (.slice a9 (L.N k) c9) (.int .i64 (L.S k))) (rowOf3_ok _ _ _)).alloc (.cells #[] 3)
      have hgE : ((wr.alloc (.cells #[.string (L.Nm k), .slice a9 (L.N k) c9, .int .i64 (L.S k)] 31)).alloc (.cells #[] 3)).heap[wr.heap.size + 1]? = some (Obj.cells #[] 3 (0, 0)) := by
        have h := heap_newD (wr.alloc (.cells #[.string (L.Nm k), .slice a9 (L.N k) c9, .int .i64 (L.S k)] 31)) #[] 3
        rw [World.size_alloc] at h
        exact h
      obtain ⟨a8, c8, w4, zs, hr4, hg4, ho4, hz4, hb4⟩ := app1_own (wr.heap.size + 1) (wr.heap.size + 1) a9 c9 (L.N k) (L.Z k) 29 ((wr.alloc (.cells #[.string (L.Nm k), .slice a9 (L.N k) c9, .int .i64 (L.S k)] 31)).alloc (.cells #[] 3)) (by omega) (hI9'.below bX) hgE (Nat.le_refl _) (by simp)
      have HB4 := hid (show Below wr.heap.size wr w4 from below_growD bX hg4 (fun r e => by cases e; exact Nat.le_succ _) (Nat.le_refl _))
      have HRX := hid (row_grow rx hg4 (by omega))
      have HO4 := hid ho4; have HZ4 := hid hz4; have HBB := hid hb4
      have x0 : w4.cell? ⟨wr.heap.size, 0, none⟩ = some (.string (L.Nm k)) := HRX.out.cell (i := 0) (show 0 < 3 by decide)
      have x1 : w4.cell? ⟨wr.heap.size, 1, none⟩ = some (.slice a9 (L.N k) c9) := HRX.out.cell (i := 1) (show 1 < 3 by decide)
      have x2 : w4.cell? ⟨wr.heap.size, 2, none⟩ = some (.int .i64 (L.S k)) := HRX.out.cell (i := 2) (show 2 < 3 by decide)
      have fx1 : w4.frozen? ⟨wr.heap.size, 1, none⟩ = false := HRX.out.frozen _
      have lx : wr.heap.size < w4.heap.size := HRX.out.lt
      have y4 := carry HB4.out y0
      clear bX rx hgE hg4 ho4 hz4 hb4 hI9'
      obtain ⟨i0, hi, hz0, hz1, hz2⟩ := info_parts infoSy
      have rx5 := HRX.out.set 1 (.slice a8 (L.N k) c8)
      have b5 : Below wr.heap.size wr (w4.setCell ⟨wr.heap.size, 1, none⟩ (.slice a8 (L.N k) c8)) := bst HB4.out (p := ⟨wr.heap.size, 1, none⟩) (Nat.le_refl _) _
      have b6 := btr b5 (bal (Below.refl (w4.setCell ⟨wr.heap.size, 1, none⟩ (.slice a8 (L.N k) c8)).heap.size (w4.setCell ⟨wr.heap.size, 1, none⟩ (.slice a8 (L.N k) c8))) (.cells #[.string (L.Nm k), .slice a8 (L.N k) c8, .int .i64 (L.S k)] 31))
      have z0 : (w4.setCell ⟨wr.heap.size, 1, none⟩ (.slice a8 (L.N k) c8)).cell? ⟨wr.heap.size, 0, none⟩ = some (.string (L.Nm k)) := rx5.cell (i := 0) (show 0 < 3 by decide)
      have z1 : (w4.setCell ⟨wr.heap.size, 1, none⟩ (.slice a8 (L.N k) c8)).cell? ⟨wr.heap.size, 1, none⟩ = some (.slice a8 (L.N k) c8) := rx5.cell (i := 1) (show 1 < 3 by decide)
      have z2 : (w4.setCell ⟨wr.heap.size, 1, none⟩ (.slice a8 (L.N k) c8)).cell? ⟨wr.heap.size, 2, none⟩ = some (.int .i64 (L.S k)) := rx5.cell (i := 2) (show 2 < 3 by decide)
      have y5 : (w4.setCell ⟨wr.heap.size, 1, none⟩ (.slice a8 (L.N k) c8)).cell? ⟨w.heap.size + 3, 0, none⟩ = some (.slice va k vc) := carry b5 y0
      have hY6 := HS.out.y.below b6
      obtain ⟨xs, hown0, hxs⟩ := hY6.own
      have hlo6 : w.heap.size + 2 ≤ ((w4.setCell ⟨wr.heap.size, 1, none⟩ (.slice a8 (L.N k) c8)).alloc (.cells #[.string (L.Nm k), .slice a8 (L.N k) c8, .int .i64 (L.S k)] 31)).heap.size := by have := b6.size; omega
      have hnews := new3c (w4.setCell ⟨wr.heap.size, 1, none⟩ (.slice a8 (L.N k) c8)) (.string (L.Nm k)) (.slice a8 (L.N k) c8) (.int .i64 (L.S k)) 31
      have hzz : (w4.setCell ⟨wr.heap.size, 1, none⟩ (.slice a8 (L.N k) c8)).heap.size = w4.heap.size := by simp [World.setCell]
      rw [hzz] at hnews
      have hone : ∀ u ∈ ([.string (L.Nm k), .slice a8 (L.N k) c8, .int .i64 (L.S k)] : List Value), u.oneCell' = true := fun u hu => by simp at hu; rcases hu with rfl | rfl | rfl <;> rfl
      have HXS := hid hxs
      have HY6 := hid hY6
      have HBX := hid (row_below HS.out.box b6)
      have HB6 := hid b6
      clear hxs hY6 b5 b6 rx5 hzz
      go_wp2_with (first | (at_builtin; refine wpList_append_run rfl _ _ 29 rfl (.slice (some ⟨wr.heap.size + 1, 0, none⟩) 0 0) (.slice a9 (L.N k) c9) rfl rfl hr4 ?_) | (at_builtin; go_loud (refine wpList_append_own_at _ rfl _ _ 23 rfl (w.heap.size + 2) 31 i0 _ 3 48 Try.underlying23 hi hz0 hz1 hz2 rfl (by decide) (.slice va k vc) k xs rfl hown0 ⟨w4.heap.size, 0, none⟩ 1 1 [.string (L.Nm k), .slice a8 (L.N k) c8, .int .i64 (L.S k)] rfl rfl hnews hone (by unfold maxLen; omega) (by omega) hlo6 ?_); intro v' w7 hown7 hgrow7 _ hat7; obtain ⟨va', vc', hve'⟩ := own_slD hown7; subst hve'; have hbx7 := HBX.out.of_block (hgrow7.block _ HBX.out.lt (fun e => by obtain ⟨cs, hcs, _⟩ := HBX.out; exact own_typ hown0 hcs (by decide) e.symm)); have y7 : w7.cell? ⟨w.heap.size + 3, 0, none⟩ = some (.slice va k vc) := hbx7.cell (i := 0) (by decide); have fy7 : w7.frozen? ⟨w.heap.size + 3, 0, none⟩ = false := hbx7.frozen _))
      have HOWN7 := hid hown7; have HGR7 := hid hgrow7; have HBX7 := hid hbx7; have HOWN0 := hid hown0
      go_roundw
      case rel =>
        have hrl := fun r (e : (Value.slice va k vc).ownBlock = some r) => HOWN0.out.lt r e
        have ha6 : ((w4.setCell ⟨wr.heap.size, 1, none⟩ (.slice a8 (L.N k) c8)).alloc (.cells #[.string (L.Nm k), .slice a8 (L.N k) c8, .int .i64 (L.S k)] 31)).ownsRow (w.heap.size + 2) 3 1 (.slice a8 (L.N k) c8) (L.N k) zs := by
          refine own_base (show w.heap.size + 2 ≤ wr.heap.size + 1 by omega) (own_kpD (fun g hg => ?_) HO4.out)
          have hl := HO4.out.lt g hg
          exact ((bal (Below.refl (w4.setCell ⟨wr.heap.size, 1, none⟩ (.slice a8 (L.N k) c8)).heap.size _) _).block g (by simp [World.setCell]; omega)).trans (Below.heap_setCell w4 ⟨wr.heap.size, 1, none⟩ _ g (fun e => by have e' : g = wr.heap.size := e; omega))
        have hzb := HZB.out
        obtain ⟨cs, hcs, _⟩ := HBX7.out
        have hg6 := grow_row (grow_trans HS.out.grown (grow_of_below HB6.out (some g))) HGR7.out (fun r e => by have := (hrl r e).1; omega)
        have hr6 := (HS.out.rd.below HB6.out).grow HGR7.out (fun r e => by have := (hrl r e).1; omega)
        refine ⟨k + 1, .slice va' (k + 1) vc', syPut L' k (L.Nm k) (L.N k) (L.Z k) (L.S k), _, _, by omega, by go_num, ⟨(YSt.push HY6.out HXS.out HOWN0.out.1 HOWN0.out ha6 HZ4.out HOWN7.out HGR7.out).setT hcs (by decide) (by decide) _, HS.out.sm.put hMk.1 hMk.2, (HBX7.out.set 0 _).congr fun i hi => (if_pos (by omega)), grow_setNew hg6 (by omega) _ _, hr6.set (q := w.heap.size + 3) (by omega) (by omega) _ _⟩, HYD.out.push (N := wr.heap.size) (fun i hi g hg => (HS.out.y.ltA i hi g hg).2) (fun g hg => ?_)⟩
        rcases HBB.out g hg with h | h
        · omega
        · rw [h]; simp; omega
      case measure => simp [intOf]; omega
    · have hke : k = n := by omega
      subst hke
      have z1 : wr.cell? ⟨w.heap.size + 1, 0, none⟩ = some (.slice none 0 0) := (row_grow HRR.out HS.out.grown (by omega)).cell (i := 0) (by decide)
      have fz1 : wr.frozen? ⟨w.heap.size + 1, 0, none⟩ = false := (row_grow HRR.out HS.out.grown (by omega)).frozen _
      have t1 : (wr.setCell ⟨w.heap.size + 1, 0, none⟩ (.slice va k vc)).cell? ⟨w.heap.size + 1, 0, none⟩ = some (.slice va k vc) := ((row_grow HRR.out HS.out.grown (by omega)).set 0 (.slice va k vc)).cell (i := 0) (by decide)
      go_upto_region 9 with fail
      by_cases h0 : k = 0
      · have d0 : ((k : Int) == 0) = true := by simp; omega
        have HF := hid (bent_fin (n := k) (p := p) HGB.out HZB.out hgl hB (HS.out.mono (Nat.le_succ b)) (by omega) (by omega))
        clear h0
        go_wp2
        refine bodyPost_ret (v := .agg #[.slice va k vc]) (by simp [results, Try.results9, go_sem, t1]) rfl HF.out
      have d0 : ((k : Int) == 0) = false := by simp; omega
      have H0 := hid h0
      clear h0
      have hP8 := pick_any Bd wr g p 8 HS.out.rd (by omega) (by omega)
      go_wp2_with fail
      refine hP8.mono ?_
      rintro e w2 ⟨x, x0, x1, rfl, hg2, hR2⟩
      have HS2 := hid (HS.out.go hg2 hR2 (by omega) (by omega))
      clear hP8 hg2 hR2 y0 ly z1 fz1 t1 s0 l0 HS
      have y0 : w2.cell? ⟨w.heap.size + 3, 0, none⟩ = some (.slice va k vc) := HS2.out.box.cell (i := 0) (by decide)
      have ly : w.heap.size + 3 < w2.heap.size := cell_lt y0
      have z1 : w2.cell? ⟨w.heap.size + 1, 0, none⟩ = some (.slice none 0 0) := (row_grow HRR.out HS2.out.grown (by omega)).cell (i := 0) (by decide)
      have fz1 : w2.frozen? ⟨w.heap.size + 1, 0, none⟩ = false := (row_grow HRR.out HS2.out.grown (by omega)).frozen _
      have t1 : (w2.setCell ⟨w.heap.size + 1, 0, none⟩ (.slice va k vc)).cell? ⟨w.heap.size + 1, 0, none⟩ = some (.slice va k vc) := ((row_grow HRR.out HS2.out.grown (by omega)).set 0 (.slice va k vc)).cell (i := 0) (by decide)
      by_cases hx : 0 < x
      · skip
        have HF := hid (bent_fin (n := k) (p := p) HGB.out HZB.out hgl hB (HS2.out.mono (Nat.le_succ b)) (by omega) (by omega))
        go_wp2
        refine bodyPost_ret (v := .agg #[.slice va k vc]) (by simp [results, Try.results9, go_sem, t1]) rfl HF.out
      have hPk := pick_any Bd w2 g (p + 1) (k : Int) HS2.out.rd (by omega) (by have := H0.out; omega)
      go_wp2_with fail
      refine hPk.mono ?_
      rintro e w3 ⟨jj, j0, j1, rfl, hg3, hR3⟩
      obtain ⟨j, rfl⟩ := Int.eq_ofNat_of_zero_le j0
      have hj : j < k := by omega
      have HS3 := hid (HS2.out.go hg3 hR3 (by omega) (by omega))
      clear hPk hg3 hR3 y0 ly z1 fz1 t1 HS2 x0 x1 hx j0 j1
      have hP5 := pick_any Bd w3 g (p + 2) 5 HS3.out.rd (by omega) (by omega)
      go_wp2_with fail
      refine hP5.mono ?_
      rintro e w4 ⟨d, d0', d1', rfl, hg4, hR4⟩
      have HS4 := hid (HS3.out.go hg4 hR4 (by omega) (by omega))
      clear hP5 hg4 hR4 HS3
      obtain ⟨gr, cap, hve, hc1, hc2, hlgr, hgrl, hfz, hce⟩ := HS4.out.y.row H0.out
      injection hve with hve1 _ hve3
      subst hve1 hve3
      have hgrg : gr ≠ g := by omega
      have hzb := HZB.out
      have y0 : w4.cell? ⟨w.heap.size + 3, 0, none⟩ = some (.slice (some ⟨gr, 0, none⟩) k vc) := HS4.out.box.cell (i := 0) (by decide)
      have ly : w.heap.size + 3 < w4.heap.size := cell_lt y0
      have z1 : w4.cell? ⟨w.heap.size + 1, 0, none⟩ = some (.slice none 0 0) := (row_grow HRR.out HS4.out.grown (by omega)).cell (i := 0) (by decide)
      have fz1 : w4.frozen? ⟨w.heap.size + 1, 0, none⟩ = false := (row_grow HRR.out HS4.out.grown (by omega)).frozen _
      have t1 : (w4.setCell ⟨w.heap.size + 1, 0, none⟩ (.slice (some ⟨gr, 0, none⟩) k vc)).cell? ⟨w.heap.size + 1, 0, none⟩ = some (.slice (some ⟨gr, 0, none⟩) k vc) := ((row_grow HRR.out HS4.out.grown (by omega)).set 0 (.slice (some ⟨gr, 0, none⟩) k vc)).cell (i := 0) (by decide)
      have HL4 := hid (show KcL [(w.heap.size + 3, 0, .slice (some ⟨gr, 0, none⟩) k vc)] w4 from ⟨y0, trivial⟩)
      by_cases hd : d = 0
      · subst hd
        clear d0' d1'
        go_upto_region 16 with fail
        clear y0 ly z1 fz1 t1
        have hD := (Below.refl w4.heap.size w4).drew
        refine region_planC (fun w' => KcL [(w.heap.size + 3, 0, .slice (some ⟨gr, 0, none⟩) k vc)] w') (.takes [0, 1, 2, 3] (.make 4 (.make 5 (.takes [6, 7] .fin)))) 8 rfl (by kernel_rfl) (HL4.out.below hD) ?_
        refine plan_takes ?_; simp only [pickOps, List.getElem?_cons_zero, List.getElem?_cons_succ]
        refine quiet_doC rfl (.pointer (some ⟨w.heap.size + 3, 0, none⟩)) (fun w' hw' => by simp [execOp, go_sem]) ?_
        refine quiet_doC rfl (.slice (some ⟨gr, 0, none⟩) k vc) (fun w' hw' => by have h0 := hw'.1; simp only at h0; simp [execOp, go_sem, h0]) ?_
        refine quiet_doC rfl (.int .i64 j) (fun w' hw' => by simp [execOp, go_sem]) ?_
        refine quiet_doC rfl (.pointer (some ⟨g, 0, none⟩)) (fun w' hw' => by simp [execOp, go_sem]) ?_
        refine wpQuiet_nil ?_
        have HL5 := HL4.out.below hD
        have HS5 := HS4.out.go (grow_of_below hD (some g)) (HS4.out.rd.below hD) (by omega) (by omega)
        clear hD
        generalize w4.drew = u at *
        have bX := bal (Below.refl u.heap.size u) (.cells #[.string ⟨#[]⟩, .string ⟨#[65]⟩, .string ⟨#[97, 98, 99]⟩, .string ⟨#[122, 122]⟩, .string ⟨#[97]⟩] 9)
        refine planC_val rfl rfl (.slice (some ⟨u.heap.size, 0, none⟩) 5 5) (w'' := u.alloc (.cells #[.string ⟨#[]⟩, .string ⟨#[65]⟩, .string ⟨#[97, 98, 99]⟩, .string ⟨#[122, 122]⟩, .string ⟨#[97]⟩] 9)) (by simp [execOp, go_sem]) (HL5.below bX) ?_
        have HS6 := HS5.go (grow_of_below bX (some g)) (HS5.rd.below bX) (by omega) (by omega)
        have hgu : u.heap.size ≠ g := by have := HS5.rd.lt; omega
        refine planC_call rfl rfl 17 #[.pointer (some ⟨g, 0, none⟩), .slice (some ⟨u.heap.size, 0, none⟩) 5 5] (by kernel_rfl) ?_
        refine (ofs_any Bd (u.alloc (.cells #[.string ⟨#[]⟩, .string ⟨#[65]⟩, .string ⟨#[97, 98, 99]⟩, .string ⟨#[122, 122]⟩, .string ⟨#[97]⟩] 9)) g (p + 3) u.heap.size 5 5 [⟨#[]⟩, ⟨#[65]⟩, ⟨#[97, 98, 99]⟩, ⟨#[122, 122]⟩, ⟨#[97]⟩] HS6.rd (by omega) rfl (by decide) (by decide) hgu (fun k hk => by
          match k, hk with
          | 0, _ => simp [go_sem]
          | 1, _ => simp [go_sem]
          | 2, _ => simp [go_sem]
          | 3, _ => simp [go_sem]
          | 4, _ => simp [go_sem]
          )).mono ?_
        rintro e w6 ⟨tt, htt, rfl, hg6, hR6⟩
        have HL6 := (HL5.below bX).keep hg6 (fun e he r hr => by simp at he; subst he; cases hr; simp only; omega)
        refine ⟨_, rfl, HL6, ?_⟩
        have HS7 := HS6.go hg6 hR6 (by omega) (by omega)
        clear HS5 HS6 HL5 bX hg6 hR6 HS4 HL4
        refine plan_takes ?_; simp only [pickOps, List.getElem?_cons_zero, List.getElem?_cons_succ]
        refine quiet_doC rfl (.pointer (some ⟨gr, j * 3, none⟩)) (fun w' hw' => by simp [execOp, go_sem, hj]) ?_
        refine quiet_doC rfl (.pointer (some ⟨gr, j * 3, none⟩)) (fun w' hw' => by simp [execOp, go_sem]) ?_
        refine wpQuiet_nil ?_
        refine plan_fin ?_
        simp only [List.drop_succ_cons, List.drop_zero, Act.put, List.setIfInBounds_toArray, List.set_cons_succ, List.set_cons_zero]
        obtain ⟨gr', cap', hve, _, _, hlgr', hgrl', hfz', hce'⟩ := HS7.y.row H0.out
        injection hve with hve1 _ hve3
        injection hve1 with hve1
        injection hve1 with hve1 _ _
        subst hve1 hve3
        obtain ⟨e0, e1, e2⟩ := hce' j hj
        have ef := hfz' (j * 3)
        have HS8 := hid (HS7.put (b' := b) (by omega) hgrg (by omega) (HS7.y.putNm hj tt) (fun k hk => by have hM1 := HS7.sm k hk; refine ⟨hM1.1, ?_⟩; simp only; split; (simp at htt; rcases htt with rfl | rfl | rfl | rfl | rfl <;> decide); exact hM1.2))
        clear HS7 hce hce' hfz hfz'
        have y0 : (w6.setCell ⟨gr, j * 3, none⟩ (.string tt)).cell? ⟨w.heap.size + 3, 0, none⟩ = some (.slice (some ⟨gr, 0, none⟩) k vc) := HS8.out.box.cell (i := 0) (by decide)
        have ly : w.heap.size + 3 < (w6.setCell ⟨gr, j * 3, none⟩ (.string tt)).heap.size := cell_lt y0
        have z1 : (w6.setCell ⟨gr, j * 3, none⟩ (.string tt)).cell? ⟨w.heap.size + 1, 0, none⟩ = some (.slice none 0 0) := (row_grow HRR.out HS8.out.grown (by omega)).cell (i := 0) (by decide)
        have fz1 : (w6.setCell ⟨gr, j * 3, none⟩ (.string tt)).frozen? ⟨w.heap.size + 1, 0, none⟩ = false := (row_grow HRR.out HS8.out.grown (by omega)).frozen _
        have t1 : ((w6.setCell ⟨gr, j * 3, none⟩ (.string tt)).setCell ⟨w.heap.size + 1, 0, none⟩ (.slice (some ⟨gr, 0, none⟩) k vc)).cell? ⟨w.heap.size + 1, 0, none⟩ = some (.slice (some ⟨gr, 0, none⟩) k vc) := ((row_grow HRR.out HS8.out.grown (by omega)).set 0 (.slice (some ⟨gr, 0, none⟩) k vc)).cell (i := 0) (by decide)
        have HF := hid (bent_fin (n := k) (p := p) HGB.out HZB.out hgl hB (HS8.out.mono (Nat.le_succ b)) (by omega) (by omega))
        go_wp2
        refine bodyPost_ret (v := .agg #[.slice (some ⟨gr, 0, none⟩) k vc]) (by simp [results, Try.results9, go_sem, t1]) rfl HF.out
      by_cases hd : d = 2
      · subst hd
        clear d0' d1'
        go_upto_region 20 with fail
        clear y0 ly z1 fz1 t1
        have hD := (Below.refl w4.heap.size w4).drew
        refine region_planC (fun w' => KcL [(w.heap.size + 3, 0, .slice (some ⟨gr, 0, none⟩) k vc)] w') (.takes [0, 1, 2, 3] (.make 4 (.make 5 (.takes [6, 7] .fin)))) 8 rfl (by kernel_rfl) (HL4.out.below hD) ?_
        refine plan_takes ?_; simp only [pickOps, List.getElem?_cons_zero, List.getElem?_cons_succ]
        refine quiet_doC rfl (.pointer (some ⟨w.heap.size + 3, 0, none⟩)) (fun w' hw' => by simp [execOp, go_sem]) ?_
        refine quiet_doC rfl (.slice (some ⟨gr, 0, none⟩) k vc) (fun w' hw' => by have h0 := hw'.1; simp only at h0; simp [execOp, go_sem, h0]) ?_
        refine quiet_doC rfl (.int .i64 j) (fun w' hw' => by simp [execOp, go_sem]) ?_
        refine quiet_doC rfl (.pointer (some ⟨g, 0, none⟩)) (fun w' hw' => by simp [execOp, go_sem]) ?_
        refine wpQuiet_nil ?_
        have HL5 := HL4.out.below hD
        have HS5 := HS4.out.go (grow_of_below hD (some g)) (HS4.out.rd.below hD) (by omega) (by omega)
        clear hD
        generalize w4.drew = u at *
        have bX := bal (Below.refl u.heap.size u) (.cells #[.int .i64 1, .int .i64 2, .int .i64 (-1), .int .i64 0] 3)
        refine planC_val rfl rfl (.slice (some ⟨u.heap.size, 0, none⟩) 4 4) (w'' := u.alloc (.cells #[.int .i64 1, .int .i64 2, .int .i64 (-1), .int .i64 0] 3)) (by simp [execOp, go_sem]) (HL5.below bX) ?_
        have HS6 := HS5.go (grow_of_below bX (some g)) (HS5.rd.below bX) (by omega) (by omega)
        have hgu : u.heap.size ≠ g := by have := HS5.rd.lt; omega
        refine planC_call rfl rfl 18 #[.pointer (some ⟨g, 0, none⟩), .slice (some ⟨u.heap.size, 0, none⟩) 4 4] (by kernel_rfl) ?_
        refine (num_any Bd (u.alloc (.cells #[.int .i64 1, .int .i64 2, .int .i64 (-1), .int .i64 0] 3)) g (p + 3) u.heap.size 4 4 [1, 2, -1, 0] HS6.rd (by omega) rfl (by decide) (by decide) hgu (fun k hk => by
          match k, hk with
          | 0, _ => simp [go_sem]
          | 1, _ => simp [go_sem]
          | 2, _ => simp [go_sem]
          | 3, _ => simp [go_sem]
          )).mono ?_
        rintro e w6 ⟨tt, htt, rfl, hg6, hR6⟩
        have HL6 := (HL5.below bX).keep hg6 (fun e he r hr => by simp at he; subst he; cases hr; simp only; omega)
        refine ⟨_, rfl, HL6, ?_⟩
        have HS7 := HS6.go hg6 hR6 (by omega) (by omega)
        clear HS5 HS6 HL5 bX hg6 hR6 HS4 HL4
        refine plan_takes ?_; simp only [pickOps, List.getElem?_cons_zero, List.getElem?_cons_succ]
        refine quiet_doC rfl (.pointer (some ⟨gr, j * 3, none⟩)) (fun w' hw' => by simp [execOp, go_sem, hj]) ?_
        refine quiet_doC rfl (.pointer (some ⟨gr, j * 3 + 2, none⟩)) (fun w' hw' => by simp [execOp, go_sem]) ?_
        refine wpQuiet_nil ?_
        refine plan_fin ?_
        simp only [List.drop_succ_cons, List.drop_zero, Act.put, List.setIfInBounds_toArray, List.set_cons_succ, List.set_cons_zero]
        obtain ⟨gr', cap', hve, _, _, hlgr', hgrl', hfz', hce'⟩ := HS7.y.row H0.out
        injection hve with hve1 _ hve3
        injection hve1 with hve1
        injection hve1 with hve1 _ _
        subst hve1 hve3
        obtain ⟨e0, e1, e2⟩ := hce' j hj
        have ef := hfz' (j * 3 + 2)
        have HS8 := hid (HS7.put (b' := b) (by omega) hgrg (by omega) (HS7.y.putS hj tt) (fun k hk => HS7.sm k hk))
        clear HS7 hce hce' hfz hfz'
        have y0 : (w6.setCell ⟨gr, j * 3 + 2, none⟩ (.int .i64 tt)).cell? ⟨w.heap.size + 3, 0, none⟩ = some (.slice (some ⟨gr, 0, none⟩) k vc) := HS8.out.box.cell (i := 0) (by decide)
        have ly : w.heap.size + 3 < (w6.setCell ⟨gr, j * 3 + 2, none⟩ (.int .i64 tt)).heap.size := cell_lt y0
        have z1 : (w6.setCell ⟨gr, j * 3 + 2, none⟩ (.int .i64 tt)).cell? ⟨w.heap.size + 1, 0, none⟩ = some (.slice none 0 0) := (row_grow HRR.out HS8.out.grown (by omega)).cell (i := 0) (by decide)
        have fz1 : (w6.setCell ⟨gr, j * 3 + 2, none⟩ (.int .i64 tt)).frozen? ⟨w.heap.size + 1, 0, none⟩ = false := (row_grow HRR.out HS8.out.grown (by omega)).frozen _
        have t1 : ((w6.setCell ⟨gr, j * 3 + 2, none⟩ (.int .i64 tt)).setCell ⟨w.heap.size + 1, 0, none⟩ (.slice (some ⟨gr, 0, none⟩) k vc)).cell? ⟨w.heap.size + 1, 0, none⟩ = some (.slice (some ⟨gr, 0, none⟩) k vc) := ((row_grow HRR.out HS8.out.grown (by omega)).set 0 (.slice (some ⟨gr, 0, none⟩) k vc)).cell (i := 0) (by decide)
        have HF := hid (bent_fin (n := k) (p := p) HGB.out HZB.out hgl hB (HS8.out.mono (Nat.le_succ b)) (by omega) (by omega))
        go_wp2
        refine bodyPost_ret (v := .agg #[.slice (some ⟨gr, 0, none⟩) k vc]) (by simp [results, Try.results9, go_sem, t1]) rfl HF.out
      by_cases hd : d = 1
      · subst hd
        clear d0' d1'
        go_upto_region 18 with fail
        clear y0 ly z1 fz1 t1
        have hD := (Below.refl w4.heap.size w4).drew
        have HM4 := hid (show KcL [(w.heap.size + 3, 0, .slice (some ⟨gr, 0, none⟩) k vc), (gr, j * 3 + 1, .slice (LA j) (L'.N j) (LC j))] w4 from ⟨HL4.out.1, (hce j hj).2.1, trivial⟩)
        refine region_planC (fun w' => KcL [(w.heap.size + 3, 0, .slice (some ⟨gr, 0, none⟩) k vc), (gr, j * 3 + 1, .slice (LA j) (L'.N j) (LC j))] w') (.takes [0, 1, 2, 3, 4, 5, 6, 7, 8, 9] (.make 10 (.make 11 (.make 12 (.make 13 (.takes [14, 15] .fin)))))) 16 rfl (by kernel_rfl) (HM4.out.below hD) ?_
        refine plan_takes ?_; simp only [pickOps, List.getElem?_cons_zero, List.getElem?_cons_succ]
        refine quiet_doC rfl (.pointer (some ⟨w.heap.size + 3, 0, none⟩)) (fun w' hw' => by simp [execOp, go_sem]) ?_
        refine quiet_doC rfl (.slice (some ⟨gr, 0, none⟩) k vc) (fun w' hw' => by have h0 := hw'.1; simp only at h0; simp [execOp, go_sem, h0]) ?_
        refine quiet_doC rfl (.int .i64 j) (fun w' hw' => by simp [execOp, go_sem]) ?_
        refine quiet_doC rfl (.pointer (some ⟨w.heap.size + 3, 0, none⟩)) (fun w' hw' => by simp [execOp, go_sem]) ?_
        refine quiet_doC rfl (.slice (some ⟨gr, 0, none⟩) k vc) (fun w' hw' => by have h0 := hw'.1; simp only at h0; simp [execOp, go_sem, h0]) ?_
        refine quiet_doC rfl (.int .i64 j) (fun w' hw' => by simp [execOp, go_sem]) ?_
        refine quiet_doC rfl (.pointer (some ⟨gr, j * 3, none⟩)) (fun w' hw' => by simp [execOp, go_sem, hj]) ?_
        refine quiet_doC rfl (.pointer (some ⟨gr, j * 3 + 1, none⟩)) (fun w' hw' => by simp [execOp, go_sem]) ?_
        refine quiet_doC rfl (.slice (LA j) (L'.N j) (LC j)) (fun w' hw' => by have h0 := hw'.2.1; simp only at h0; simp [execOp, go_sem, h0]) ?_
        refine quiet_doC rfl (.pointer (some ⟨g, 0, none⟩)) (fun w' hw' => by simp [execOp, go_sem]) ?_
        refine wpQuiet_nil ?_
        have HL5 := HM4.out.below hD
        have HS5 := HS4.out.go (grow_of_below hD (some g)) (HS4.out.rd.below hD) (by omega) (by omega)
        clear hD
        generalize w4.drew = u at *
        have bX := bal (Below.refl u.heap.size u) (.cells #[.int .i64 0, .int .i64 2, .int .i64 (-1), .int .i64 1] 3)
        refine planC_val rfl rfl (.slice (some ⟨u.heap.size, 0, none⟩) 4 4) (w'' := u.alloc (.cells #[.int .i64 0, .int .i64 2, .int .i64 (-1), .int .i64 1] 3)) (by simp [execOp, go_sem]) (HL5.below bX) ?_
        have HS6 := HS5.go (grow_of_below bX (some g)) (HS5.rd.below bX) (by omega) (by omega)
        have hgu : u.heap.size ≠ g := by have := HS5.rd.lt; omega
        refine planC_call rfl rfl 18 #[.pointer (some ⟨g, 0, none⟩), .slice (some ⟨u.heap.size, 0, none⟩) 4 4] (by kernel_rfl) ?_
        refine (num_any Bd (u.alloc (.cells #[.int .i64 0, .int .i64 2, .int .i64 (-1), .int .i64 1] 3)) g (p + 3) u.heap.size 4 4 [0, 2, -1, 1] HS6.rd (by omega) rfl (by decide) (by decide) hgu (fun k hk => by
          match k, hk with
          | 0, _ => simp [go_sem]
          | 1, _ => simp [go_sem]
          | 2, _ => simp [go_sem]
          | 3, _ => simp [go_sem]
          )).mono ?_
        rintro e w6 ⟨tt, htt, rfl, hg6, hR6⟩
        have HL6 := (HL5.below bX).keep hg6 (fun e he r hr => by simp at he; rcases he with rfl | rfl <;> (cases hr; simp only; omega))
        refine ⟨_, rfl, HL6, ?_⟩
        have HS7 := HS6.go hg6 hR6 (by omega) (by omega)
        clear HS5 HS6 HL5 bX hg6 hR6 HS4 HL4 HM4
        have bY := bal (Below.refl w6.heap.size w6) (.cells #[.int .i64 tt] 3)
        have HL8 := HL6.below bY
        refine planC_val rfl rfl (.slice (some ⟨w6.heap.size, 0, none⟩) 1 1) (w'' := w6.alloc (.cells #[.int .i64 tt] 3)) (by simp [execOp, go_sem]) HL8 ?_
        have HS8 := HS7.go (grow_of_below bY (some g)) (HS7.rd.below bY) (by omega) (by omega)
        obtain ⟨zs, hz, hzz⟩ := HS8.y.arg j hj
        have hNj := (HS8.sm j hj).1
        obtain ⟨xs, hox, hxx⟩ := HS8.y.own
        obtain ⟨cs, hcs, _⟩ := HS8.box
        obtain ⟨i0, hi, hz0, hz1, hz2⟩ := info_parts infoI
        obtain ⟨v', w9, hr, hown9, hg9, _⟩ := run_append_own_at (P := Try.prog) (w6.alloc (.cells #[.int .i64 tt] 3)) (w.heap.size + 2) 29 29 3 i0 (.int .i64 0) 1 8 Try.underlying29 hi hz0 hz1 hz2 rfl (by decide) (.slice (LA j) (L'.N j) (LC j)) (L'.N j) zs hz ⟨w6.heap.size, 0, none⟩ 1 1 [.int .i64 tt] (by simp)
          (fun i v h => by
            match i, h with
            | 0, h => simp at h; subst h; simp [go_sem]
            | i + 1, h => simp at h) (fun u hu => by simp at hu; subst hu; rfl) (by unfold maxLen; omega) (by omega) (by have := HS8.y.own; have := hox.lt gr rfl; omega)
        obtain ⟨k1, k2⟩ := HS8.y.app_block hj hcs hg9
        have HL9 : KcL [(w.heap.size + 3, 0, .slice (some ⟨gr, 0, none⟩) k vc), (gr, j * 3 + 1, .slice (LA j) (L'.N j) (LC j))] w9 := ⟨(World.cell?_of_block k2).trans HL8.1, (World.cell?_of_block k1).trans HL8.2.1, trivial⟩
        obtain ⟨av, ac, hve'⟩ := own_slD hown9
        subst hve'
        simp only [List.drop_succ_cons, List.drop_zero, Act.put, List.setIfInBounds_toArray, List.set_cons_succ, List.set_cons_zero]
        refine planC_val rfl rfl (.slice av (L'.N j + 1) ac) (w'' := w9) (exec_append rfl rfl rfl hr) HL9 ?_
        refine plan_takes ?_; simp only [pickOps, List.getElem?_cons_zero, List.getElem?_cons_succ]
        refine quiet_doC rfl (.pointer (some ⟨gr, j * 3, none⟩)) (fun w' hw' => by simp [execOp, go_sem, hj]) ?_
        refine quiet_doC rfl (.pointer (some ⟨gr, j * 3 + 1, none⟩)) (fun w' hw' => by simp [execOp, go_sem]) ?_
        refine wpQuiet_nil ?_
        refine plan_fin ?_
        simp only [List.drop_succ_cons, List.drop_zero, Act.put, List.setIfInBounds_toArray, List.set_cons_succ, List.set_cons_zero]
        have HS9 := hid (HS8.putA (b' := b + 1) HYD.out hj (by omega) hgrg (by omega) (by omega) (by omega) (by omega) hg9 hown9 (Z := fun i => if i < L'.N j then L'.Z j i else tt) (fun i hi => by
          by_cases e : i < L'.N j
          · rw [List.getElem?_append_left (by have := hz.1; omega), if_pos e]; exact hzz i e
          · have e2 : i = L'.N j := by omega
            have e3 : zs.length = i := by have := hz.1; omega
            rw [if_neg e, List.getElem?_append_right (by omega), e3, Nat.sub_self]; rfl) (by omega) (by omega))
        have e1 := HL9.2.1
        have ef : w9.frozen? ⟨gr, j * 3 + 1, none⟩ = false := (own_kpD (fun g' e => by
          have e' : gr = g' := by simpa [Value.ownBlock] using e
          subst e'; exact k1) hox).frozenAt _
        have hl9 : gr < w9.heap.size := cell_lt e1
        clear HS7 HS8 hce hfz HL6 HL8 HL9 hown9 hz hzz hox hxx hr hg9 k1 k2
        have y0 : (w9.setCell ⟨gr, j * 3 + 1, none⟩ (.slice av (L'.N j + 1) ac)).cell? ⟨w.heap.size + 3, 0, none⟩ = some (.slice (some ⟨gr, 0, none⟩) k vc) := HS9.out.box.cell (i := 0) (by decide)
        have ly : w.heap.size + 3 < (w9.setCell ⟨gr, j * 3 + 1, none⟩ (.slice av (L'.N j + 1) ac)).heap.size := cell_lt y0
        have z1 : (w9.setCell ⟨gr, j * 3 + 1, none⟩ (.slice av (L'.N j + 1) ac)).cell? ⟨w.heap.size + 1, 0, none⟩ = some (.slice none 0 0) := (row_grow HRR.out HS9.out.grown (by omega)).cell (i := 0) (by decide)
        have fz1 : (w9.setCell ⟨gr, j * 3 + 1, none⟩ (.slice av (L'.N j + 1) ac)).frozen? ⟨w.heap.size + 1, 0, none⟩ = false := (row_grow HRR.out HS9.out.grown (by omega)).frozen _
        have t1 : ((w9.setCell ⟨gr, j * 3 + 1, none⟩ (.slice av (L'.N j + 1) ac)).setCell ⟨w.heap.size + 1, 0, none⟩ (.slice (some ⟨gr, 0, none⟩) k vc)).cell? ⟨w.heap.size + 1, 0, none⟩ = some (.slice (some ⟨gr, 0, none⟩) k vc) := ((row_grow HRR.out HS9.out.grown (by omega)).set 0 (.slice (some ⟨gr, 0, none⟩) k vc)).cell (i := 0) (by decide)
        have HF := hid (bent_fin (n := k) (p := p) HGB.out HZB.out hgl hB HS9.out (by omega) (by omega))
        go_wp2
        refine bodyPost_ret (v := .agg #[.slice (some ⟨gr, 0, none⟩) k vc]) (by simp [results, Try.results9, go_sem, t1]) rfl HF.out
      by_cases hd : d = 3
      · subst hd
        clear d0' d1'
        go_upto_region 22 with fail
        clear y0 ly z1 fz1 t1
        have hD := (Below.refl w4.heap.size w4).drew
        have HM4 := hid (show KcL [(w.heap.size + 3, 0, .slice (some ⟨gr, 0, none⟩) k vc), (gr, j * 3, .string (L'.Nm j)), (gr, j * 3 + 1, .slice (LA j) (L'.N j) (LC j)), (gr, j * 3 + 2, .int .i64 (L'.S j))] w4 from ⟨HL4.out.1, (hce j hj).1, (hce j hj).2.1, (hce j hj).2.2, trivial⟩)
        refine region_planC (fun w' => KcL [(w.heap.size + 3, 0, .slice (some ⟨gr, 0, none⟩) k vc), (gr, j * 3, .string (L'.Nm j)), (gr, j * 3 + 1, .slice (LA j) (L'.N j) (LC j)), (gr, j * 3 + 2, .int .i64 (L'.S j))] w') (.takes [0, 1, 2, 3, 4, 5, 6] (.make 7 (.make 8 (.takes [9] .fin)))) 10 rfl (by kernel_rfl) (HM4.out.below hD) ?_
        refine plan_takes ?_; simp only [pickOps, List.getElem?_cons_zero, List.getElem?_cons_succ]
        refine quiet_doC rfl (.pointer (some ⟨w.heap.size + 3, 0, none⟩)) (fun w' hw' => by simp [execOp, go_sem]) ?_
        refine quiet_doC rfl (.slice (some ⟨gr, 0, none⟩) k vc) (fun w' hw' => by have h0 := hw'.1; simp only at h0; simp [execOp, go_sem, h0]) ?_
        refine quiet_doC rfl (.pointer (some ⟨w.heap.size + 3, 0, none⟩)) (fun w' hw' => by simp [execOp, go_sem]) ?_
        refine quiet_doC rfl (.slice (some ⟨gr, 0, none⟩) k vc) (fun w' hw' => by have h0 := hw'.1; simp only at h0; simp [execOp, go_sem, h0]) ?_
        refine quiet_doC rfl (.int .i64 j) (fun w' hw' => by simp [execOp, go_sem]) ?_
        refine quiet_doC rfl (.pointer (some ⟨gr, j * 3, none⟩)) (fun w' hw' => by simp [execOp, go_sem, hj]) ?_
        refine quiet_doC rfl (.agg #[.string (L'.Nm j), .slice (LA j) (L'.N j) (LC j), .int .i64 (L'.S j)]) (fun w' hw' => run_load3o rfl (by kernel_rfl) Try.underlying31 rfl (by kernel_rfl) hw'.2.1 hw'.2.2.1 hw'.2.2.2.1) ?_
        refine wpQuiet_nil ?_
        have HL5 := HM4.out.below hD
        have HS5 := HS4.out.go (grow_of_below hD (some g)) (HS4.out.rd.below hD) (by omega) (by omega)
        clear hD
        generalize w4.drew = u at *
        have bX := bal (Below.refl u.heap.size u) (.cells #[.string (L'.Nm j), .slice (LA j) (L'.N j) (LC j), .int .i64 (L'.S j)] 31)
        have HL8 := HL5.below bX
        refine planC_val rfl rfl (.slice (some ⟨u.heap.size, 0, none⟩) 1 1) (w'' := u.alloc (.cells #[.string (L'.Nm j), .slice (LA j) (L'.N j) (LC j), .int .i64 (L'.S j)] 31)) (by simp [execOp, go_sem]) HL8 ?_
        have HS8 := HS5.go (grow_of_below bX (some g)) (HS5.rd.below bX) (by omega) (by omega)
        obtain ⟨zs, hz, hzz⟩ := HS8.y.arg j hj
        have hMj := HS8.sm j hj
        obtain ⟨xs, hox, hxx⟩ := HS8.y.own
        obtain ⟨cs, hcs, _⟩ := HS8.box
        obtain ⟨i0, hi, hz0, hz1, hz2⟩ := info_parts infoSy
        obtain ⟨v', w9, hr, hown9, hg9, hst⟩ := run_append_stay (P := Try.prog) (u.alloc (.cells #[.string (L'.Nm j), .slice (LA j) (L'.N j) (LC j), .int .i64 (L'.S j)] 31)) (w.heap.size + 2) 23 23 31 i0 _ 3 48 Try.underlying23 hi hz0 hz1 hz2 rfl (by decide) gr _ k xs hox ⟨u.heap.size, 0, none⟩ 1 1 [.string (L'.Nm j), .slice (LA j) (L'.N j) (LC j), .int .i64 (L'.S j)] (by simp) (new3c u _ _ _ 31) (fun u hu => by simp at hu; rcases hu with rfl | rfl | rfl <;> rfl) (by unfold maxLen; omega) (by omega) (by have := hox.lt gr rfl; omega)
        have k2 : w9.heap[w.heap.size + 3]? = _ := hg9.block (w.heap.size + 3) (cell_lt HL8.1) (fun e => own_typ hox hcs (by decide) (e.symm))
        have HL9 : KcL [(w.heap.size + 3, 0, .slice (some ⟨gr, 0, none⟩) k vc), (gr, j * 3, .string (L'.Nm j)), (gr, j * 3 + 1, .slice (LA j) (L'.N j) (LC j)), (gr, j * 3 + 2, .int .i64 (L'.S j))] w9 := ⟨(World.cell?_of_block k2).trans HL8.1, (hst (j * 3) (by omega)).trans HL8.2.1, (hst (j * 3 + 1) (by omega)).trans HL8.2.2.1, (hst (j * 3 + 2) (by omega)).trans HL8.2.2.2.1, trivial⟩
        obtain ⟨av, ac, hve'⟩ := own_slD hown9
        subst hve'
        simp only [List.drop_succ_cons, List.drop_zero, Act.put, List.setIfInBounds_toArray, List.set_cons_succ, List.set_cons_zero]
        refine planC_val rfl rfl (.slice av (k + 1) ac) (w'' := w9) (exec_append rfl rfl rfl hr) HL9 ?_
        refine plan_takes ?_; simp only [pickOps, List.getElem?_cons_zero, List.getElem?_cons_succ]
        refine quiet_doC rfl (.pointer (some ⟨w.heap.size + 3, 0, none⟩)) (fun w' hw' => by simp [execOp, go_sem]) ?_
        refine wpQuiet_nil ?_
        refine plan_fin ?_
        simp only [List.drop_succ_cons, List.drop_zero, Act.put, List.setIfInBounds_toArray, List.set_cons_succ, List.set_cons_zero]
        have HS9 := hid (HS8.push hox hxx hz hzz hMj.1 hMj.2 hown9 hg9 (by omega) hgrg (by omega) (by omega) (by omega) (by omega))
        have e0 := HL9.1
        have ef : w9.frozen? ⟨w.heap.size + 3, 0, none⟩ = false := (HS8.box.of_block k2).frozen _
        have hl9 : w.heap.size + 3 < w9.heap.size := cell_lt e0
        clear HS5 HS8 hce hfz HL5 HL8 HL9 HM4 HL4 HS4 hown9 hz hzz hox hxx hr hg9 k2 hst
        have y0 : (w9.setCell ⟨w.heap.size + 3, 0, none⟩ (.slice av (k + 1) ac)).cell? ⟨w.heap.size + 3, 0, none⟩ = some (.slice av (k + 1) ac) := HS9.out.box.cell (i := 0) (by decide)
        have ly : w.heap.size + 3 < (w9.setCell ⟨w.heap.size + 3, 0, none⟩ (.slice av (k + 1) ac)).heap.size := cell_lt y0
        have z1 : (w9.setCell ⟨w.heap.size + 3, 0, none⟩ (.slice av (k + 1) ac)).cell? ⟨w.heap.size + 1, 0, none⟩ = some (.slice none 0 0) := (row_grow HRR.out HS9.out.grown (by omega)).cell (i := 0) (by decide)
        have fz1 : (w9.setCell ⟨w.heap.size + 3, 0, none⟩ (.slice av (k + 1) ac)).frozen? ⟨w.heap.size + 1, 0, none⟩ = false := (row_grow HRR.out HS9.out.grown (by omega)).frozen _
        have t1 : ((w9.setCell ⟨w.heap.size + 3, 0, none⟩ (.slice av (k + 1) ac)).setCell ⟨w.heap.size + 1, 0, none⟩ (.slice av (k + 1) ac)).cell? ⟨w.heap.size + 1, 0, none⟩ = some (.slice av (k + 1) ac) := ((row_grow HRR.out HS9.out.grown (by omega)).set 0 (.slice av (k + 1) ac)).cell (i := 0) (by decide)
        have HF := hid (bent_fin (n := k) (p := p) HGB.out HZB.out hgl hB (HS9.out.mono (Nat.le_succ b)) (by omega) (by omega))
        go_wp2
        refine bodyPost_ret (v := .agg #[.slice av (k + 1) ac]) (by simp [results, Try.results9, go_sem, t1]) rfl HF.out
      have q0 : (d == 0) = false := by simp; omega
      have q1 : (d == 1) = false := by simp; omega
      have q2 : (d == 2) = false := by simp; omega
      have q3 : (d == 3) = false := by simp; omega
      clear hce hfz HL4 y0 ly z1 fz1 t1
      go_wp2
      go_loopw [] (fun wr => ∃ (m q : Nat) (v : Value) (L' : Sy) (LA : Nat → Option Addr) (LC : Nat → Nat), k ≤ m ∧ m ≤ k + 8 ∧ q ≤ p + 3 + (m - k) ∧ BSt Bd (w.heap.size + 2) b wB g q (w.heap.size + 3) wr v m L' LA LC) (fun wr => 8 - yln wr (w.heap.size + 3))
      case atStart => exact ⟨k, p + 3, _, _, _, _, Nat.le_refl _, by omega, by omega, HS4.out⟩
      case round =>
        obtain ⟨m, q, v, L2, LA2, LC2, hm1, hm2, hq, hST⟩ := hrel
        have HSR := hid hST
        clear hST HS4
        have hk0 := H0.out
        obtain ⟨gm, vm, hve, hc1m, hc2m, hlgm, hgml, hfz, hce⟩ := HSR.out.y.row (by omega)
        subst hve
        clear hfz hce
        have hgmg : gm ≠ g := by omega
        have y0 : wr.cell? ⟨w.heap.size + 3, 0, none⟩ = some (.slice (some ⟨gm, 0, none⟩) m vm) := HSR.out.box.cell (i := 0) (by decide)
        have ly : w.heap.size + 3 < wr.heap.size := cell_lt y0
        have z1 : wr.cell? ⟨w.heap.size + 1, 0, none⟩ = some (.slice none 0 0) := (row_grow HRR.out HSR.out.grown (by omega)).cell (i := 0) (by decide)
        have fz1 : wr.frozen? ⟨w.heap.size + 1, 0, none⟩ = false := (row_grow HRR.out HSR.out.grown (by omega)).frozen _
        have t1 : (wr.setCell ⟨w.heap.size + 1, 0, none⟩ (.slice (some ⟨gm, 0, none⟩) m vm)).cell? ⟨w.heap.size + 1, 0, none⟩ = some (.slice (some ⟨gm, 0, none⟩) m vm) := ((row_grow HRR.out HSR.out.grown (by omega)).set 0 (.slice (some ⟨gm, 0, none⟩) m vm)).cell (i := 0) (by decide)

        by_cases hm7 : m ≤ 7
        · have HLm := hid (show KcL [(w.heap.size + 3, 0, .slice (some ⟨gm, 0, none⟩) m vm)] wr from ⟨y0, trivial⟩)
          go_upto_region 14 with fail
          clear z1 fz1 t1 ly
          have hD := (Below.refl wr.heap.size wr).drew
          refine region_planC (fun w' => KcL [(w.heap.size + 3, 0, .slice (some ⟨gm, 0, none⟩) m vm)] w') (.takes [0, 1, 2] (.make 3 (.make 4 (.takes [5, 6] (.make 7 (.make 8 (.takes [9] .fin))))))) 10 rfl (by kernel_rfl) (HLm.out.below hD) ?_
          refine plan_takes ?_; simp only [pickOps, List.getElem?_cons_zero, List.getElem?_cons_succ]
          refine quiet_doC rfl (.pointer (some ⟨w.heap.size + 3, 0, none⟩)) (fun w' hw' => by simp [execOp, go_sem]) ?_
          refine quiet_doC rfl (.slice (some ⟨gm, 0, none⟩) m vm) (fun w' hw' => by have h0 := hw'.1; simp only at h0; simp [execOp, go_sem, h0]) ?_
          refine quiet_doC rfl (.pointer (some ⟨g, 0, none⟩)) (fun w' hw' => by simp [execOp, go_sem]) ?_
          refine wpQuiet_nil ?_
          have HL5 := HLm.out.below hD
          have HS5 := HSR.out.go (grow_of_below hD (some g)) (HSR.out.rd.below hD) (by omega) (by omega)
          clear hD
          generalize wr.drew = u at *
          have bX := bal (Below.refl u.heap.size u) (.cells #[.string ⟨#[97]⟩, .string ⟨#[98]⟩, .string ⟨#[122]⟩] 9)
          refine planC_val rfl rfl (.slice (some ⟨u.heap.size, 0, none⟩) 3 3) (w'' := u.alloc (.cells #[.string ⟨#[97]⟩, .string ⟨#[98]⟩, .string ⟨#[122]⟩] 9)) (by simp [execOp, go_sem]) (HL5.below bX) ?_
          have HS6 := HS5.go (grow_of_below bX (some g)) (HS5.rd.below bX) (by omega) (by omega)
          have hgu : u.heap.size ≠ g := by have := HS5.rd.lt; omega
          refine planC_call rfl rfl 17 #[.pointer (some ⟨g, 0, none⟩), .slice (some ⟨u.heap.size, 0, none⟩) 3 3] (by kernel_rfl) ?_
          refine (ofs_any Bd (u.alloc (.cells #[.string ⟨#[97]⟩, .string ⟨#[98]⟩, .string ⟨#[122]⟩] 9)) g q u.heap.size 3 3 [⟨#[97]⟩, ⟨#[98]⟩, ⟨#[122]⟩] HS6.rd (by omega) rfl (by decide) (by decide) hgu (fun k hk => by
            match k, hk with
            | 0, _ => simp [go_sem]
            | 1, _ => simp [go_sem]
            | 2, _ => simp [go_sem]
            )).mono ?_
          rintro e w6 ⟨tt, htt, rfl, hg6, hR6⟩
          have hts1 : tt.size ≤ 1 := by
            simp at htt
            rcases htt with rfl | rfl | rfl <;> decide
          have hts : (⟨#[122]⟩ ++ tt : ByteArray).size ≤ 1048576 := by
            rw [ByteArray.size_append]
            have : (⟨#[122]⟩ : ByteArray).size = 1 := by decide
            omega
          have HL6 := (HL5.below bX).keep hg6 (fun e he r hr => by simp at he; subst he; cases hr; simp only; omega)
          refine ⟨_, rfl, HL6, ?_⟩
          have HS7 := HS6.go hg6 hR6 (by omega) (by omega)
          clear HS5 HS6 HL5 bX hg6 hR6
          refine plan_takes ?_; simp only [pickOps, List.getElem?_cons_zero, List.getElem?_cons_succ]
          refine quiet_doC rfl (.string (⟨#[122]⟩ ++ tt)) (fun w' hw' => by simp [execOp, go_sem]; omega) ?_
          refine quiet_doC rfl (.agg #[.string (⟨#[122]⟩ ++ tt), .slice none 0 0, .int .i64 0]) (fun w' hw' => by simp [execOp, go_sem]) ?_
          refine wpQuiet_nil ?_
          have bY := bal (Below.refl w6.heap.size w6) (.cells #[.string (⟨#[122]⟩ ++ tt), .slice none 0 0, .int .i64 0] 31)
          have HL8 := HL6.below bY
          refine planC_val rfl rfl (.slice (some ⟨w6.heap.size, 0, none⟩) 1 1) (w'' := w6.alloc (.cells #[.string (⟨#[122]⟩ ++ tt), .slice none 0 0, .int .i64 0] 31)) (by simp [execOp, go_sem]) HL8 ?_
          have HS8 := HS7.go (grow_of_below bY (some g)) (HS7.rd.below bY) (by omega) (by omega)
          obtain ⟨xs, hox, hxx⟩ := HS8.y.own
          obtain ⟨cs, hcs, _⟩ := HS8.box
          obtain ⟨i0, hi, hz0, hz1, hz2⟩ := info_parts infoSy
          obtain ⟨v', w9, hr, hown9, hg9, hst⟩ := run_append_stay (P := Try.prog) (w6.alloc (.cells #[.string (⟨#[122]⟩ ++ tt), .slice none 0 0, .int .i64 0] 31)) (w.heap.size + 2) 23 23 31 i0 _ 3 48 Try.underlying23 hi hz0 hz1 hz2 rfl (by decide) gm _ m xs hox ⟨w6.heap.size, 0, none⟩ 1 1 [.string (⟨#[122]⟩ ++ tt), .slice none 0 0, .int .i64 0] (by simp) (new3c w6 _ _ _ 31) (fun u hu => by simp at hu; rcases hu with rfl | rfl | rfl <;> rfl) (by unfold maxLen; omega) (by omega) (by have := hox.lt gm rfl; omega)
          have k2 : w9.heap[w.heap.size + 3]? = _ := hg9.block (w.heap.size + 3) (cell_lt HL8.1) (fun e => own_typ hox hcs (by decide) e.symm)
          have HL9 : KcL [(w.heap.size + 3, 0, .slice (some ⟨gm, 0, none⟩) m vm)] w9 := ⟨(World.cell?_of_block k2).trans HL8.1, trivial⟩
          obtain ⟨av, ac, hve'⟩ := own_slD hown9
          subst hve'
          simp only [List.drop_succ_cons, List.drop_zero, Act.put, List.setIfInBounds_toArray, List.set_cons_succ, List.set_cons_zero]
          refine planC_val rfl rfl (.slice av (m + 1) ac) (w'' := w9) (exec_append rfl rfl rfl hr) HL9 ?_
          refine plan_takes ?_; simp only [pickOps, List.getElem?_cons_zero, List.getElem?_cons_succ]
          refine quiet_doC rfl (.pointer (some ⟨w.heap.size + 3, 0, none⟩)) (fun w' hw' => by simp [execOp, go_sem]) ?_
          refine wpQuiet_nil ?_
          refine plan_fin ?_
          simp only [List.drop_succ_cons, List.drop_zero, Act.put, List.setIfInBounds_toArray, List.set_cons_succ, List.set_cons_zero]
          have HS9 := hid (HS8.push hox hxx (World.ownsRow_nil _ _ _ _) (Z := fun _ => 0) (fun j hj => absurd hj (Nat.not_lt_zero _)) (Nat.zero_le _) hts hown9 hg9 (by omega) hgmg (by omega) (by omega) (by omega) (by omega))
          have e0 := HL9.1
          have ef : w9.frozen? ⟨w.heap.size + 3, 0, none⟩ = false := (HS8.box.of_block k2).frozen _
          have hl9 : w.heap.size + 3 < w9.heap.size := cell_lt e0
          have hyl : yln wr (w.heap.size + 3) = m := yln_eq y0
          clear HS7 HS8 HL6 HL8 HL9 HLm HSR hown9 hox hxx hr hg9 k2 hst y0
          go_wp2
          go_roundw
          case rel => exact ⟨m + 1, q + 1, _, _, _, _, by omega, by omega, by omega, HS9.out⟩
          case measure =>
            rw [hyl, yln_eq (HS9.out.box.cell (i := 0) (by decide))]
            omega
        · skip
          have HF := hid (bent_fin (n := k) (p := p) HGB.out HZB.out hgl hB (HSR.out.mono (Nat.le_succ b)) (by omega) (by omega))
          go_wp2
          refine bodyPost_ret (v := .agg #[.slice (some ⟨gm, 0, none⟩) m vm]) (by simp [results, Try.results9, go_sem, t1]) rfl HF.out

end Go.Proofs.Ytbhagobkkobgfaa

namespace Go.Proofs.Ytbhagobkkobgfaa
set_option linter.unusedVariables false
set_option linter.unusedSimpArgs false
open Go.RowKit
def SigD (w : World) (e : Ending) (w' : World) : Prop :=
  ∃ A n c L A2 n2 c2 L2, e = .returned (.tuple #[.agg #[.slice A n c], .agg #[.slice A2 n2 c2]]) ∧ SyB w.heap.size w' A n L ∧ SmB 2 n L ∧ n ≤ 64 ∧ SyB w.heap.size w' A2 n2 L2 ∧ SmB 5 n2 L2 ∧ n2 ≤ 94 ∧ n ≤ c ∧ c ≤ 9223372036854775807 ∧ n2 ≤ c2 ∧ c2 ≤ 9223372036854775807 ∧ Below w.heap.size w w'
end Go.Proofs.Ytbhagobkkobgfaa

namespace Go.Proofs.Ytbhagobkkobgfaa
set_option linter.unusedVariables false
set_option linter.unusedSimpArgs false
open Go.RowKit
theorem Bytes.weak {B B' : Nat} {w : World} {a : Option Addr} {n : Nat} (h : Bytes B w a n) (hb : B ≤ B') : Bytes B' w a n := by
  rcases h with h | ⟨b, off, zs, e, h1, h2⟩
  · exact .inl h
  · exact .inr ⟨b, off, zs, e, Nat.lt_of_lt_of_le h1 hb, h2⟩
theorem sigE_self (n : Nat) (L : Sy) : sigE n L n L = true := sigE_iff.2 ⟨rfl, fun k _ => symE_iff.2 ⟨rfl, eqI_self _ _, rfl⟩⟩
theorem eqI_symm (n m : Nat) (Z Y : Nat → Int) : eqI m Y n Z = eqI n Z m Y := by
  rw [Bool.eq_iff_iff, eqI_iff, eqI_iff]
  constructor
  · rintro ⟨rfl, h⟩; exact ⟨rfl, fun k hk => (h k hk).symm⟩
  · rintro ⟨rfl, h⟩; exact ⟨rfl, fun k hk => (h k hk).symm⟩
theorem sigE_symm (n m : Nat) (L M : Sy) : sigE m M n L = sigE n L m M := by
  have e : ∀ {n m : Nat} {L M : Sy}, sigE n L m M = true → sigE m M n L = true := fun {n m L M} h => by
    obtain ⟨h0, h1⟩ := sigE_iff.1 h
    refine sigE_iff.2 ⟨h0.symm, fun k hk => ?_⟩
    obtain ⟨a, b, c⟩ := symE_iff.1 (h1 k (by omega))
    exact symE_iff.2 ⟨a.symm, by rw [eqI_symm]; exact b, c.symm⟩
  rw [Bool.eq_iff_iff]
  exact ⟨e, e⟩
theorem sigE_longer (n : Nat) (L M : Sy) : sigE n L (n + 1) M = false := sigE_no (fun h => by omega)
theorem SmB.smy {b n : Nat} {L : Sy} (h : SmB b n L) (hb : b ≤ 1048576) : SmY n L := fun k hk => ⟨Nat.le_trans (h k hk).1 hb, (h k hk).2⟩
theorem own_syms {w : World} {base m c : Nat} {a : Option Addr} {xs : List Value} {M : Sy} (h : w.ownsRow base 31 3 (.slice a m c) m xs)
    (hx : ∀ k, k < m → ∃ la lc, xs[k * 3]? = some (.string (M.Nm k)) ∧ xs[k * 3 + 1]? = some (.slice la (M.N k) lc) ∧ xs[k * 3 + 2]? = some (.int .i64 (M.S k)) ∧ Ints w la (M.N k) (M.Z k)) (hsz : SmY m M) : Syms w a m M := by
  by_cases h0 : m = 0
  · exact .inl h0
  rcases h.2 with ⟨_, h⟩ | ⟨g, cap, cur, e, hb, hh, _⟩
  · exact absurd h h0
  injection e with e1 _ e3
  subst e1 e3
  refine .inr ⟨g, 0, rfl, (Array.getElem?_eq_some_iff.1 hh).1, fun k hk => ?_⟩
  obtain ⟨la, lc, x0, x1, x2, hI⟩ := hx k hk
  have := hsz k hk
  refine ⟨la, lc, ?_, ?_, ?_, by omega, by omega, hI⟩
  · rw [Nat.zero_add]; exact (h.cellAt (k * 3) (by omega)).trans x0
  · rw [Nat.zero_add]; exact (h.cellAt (k * 3 + 1) (by omega)).trans x1
  · rw [Nat.zero_add]; exact (h.cellAt (k * 3 + 2) (by omega)).trans x2
def flY (n : Nat) (L : Sy) (f : Nat → Option Addr × Nat) : List Value := (List.range (n * 3)).map fun j => if j % 3 = 0 then .string (L.Nm (j / 3)) else if j % 3 = 1 then .slice (f (j / 3)).1 (L.N (j / 3)) (f (j / 3)).2 else .int .i64 (L.S (j / 3))
theorem flY_len (n : Nat) (L : Sy) (f : Nat → Option Addr × Nat) : (flY n L f).length = n * 3 := by simp [flY]
theorem flY_at {n j : Nat} {L : Sy} {f : Nat → Option Addr × Nat} (h : j < n * 3) : (flY n L f)[j]? = some (if j % 3 = 0 then .string (L.Nm (j / 3)) else if j % 3 = 1 then .slice (f (j / 3)).1 (L.N (j / 3)) (f (j / 3)).2 else .int .i64 (L.S (j / 3))) := by
  simp [flY, h]
theorem flY_at3 {n k : Nat} {L : Sy} {f : Nat → Option Addr × Nat} (h : k < n) : (flY n L f)[k * 3]? = some (.string (L.Nm k)) ∧ (flY n L f)[k * 3 + 1]? = some (.slice (f k).1 (L.N k) (f k).2) ∧ (flY n L f)[k * 3 + 2]? = some (.int .i64 (L.S k)) := by
  rw [flY_at (by omega), flY_at (by omega), flY_at (by omega), show k * 3 % 3 = 0 by omega, show (k * 3 + 1) % 3 = 1 by omega, show (k * 3 + 2) % 3 = 2 by omega, show k * 3 / 3 = k by omega, show (k * 3 + 1) / 3 = k by omega, show (k * 3 + 2) / 3 = k by omega]
  exact ⟨rfl, rfl, rfl⟩
/-- symbols appended to an empty row of one's own -/
theorem appY_own (lo base g : Nat) (A : Option Addr) (c n : Nat) (L : Sy) (ty : TypeId) (W0 w : World) (hn : n ≤ 1048576) (hS : SyB lo W0 A n L) (hb0 : Below W0.heap.size W0 w) (hg : w.heap[g]? = some (Obj.cells #[] 31 (0, 0))) (hb : base ≤ g) (hbw : base ≤ w.heap.size) :
    ∃ a c' w' xs, (Builtin.append_ #[23, 23] ty #[.slice (some ⟨g, 0, none⟩) 0 0, .slice A n c]).run Try.prog w = .ok (.slice a n c') w' ∧ w.grownBy w' (some g) ∧ w'.ownsRow base 31 3 (.slice a n c') n xs ∧ ∀ k, k < n → ∃ la lc, xs[k * 3]? = some (.string (L.Nm k)) ∧ xs[k * 3 + 1]? = some (.slice la (L.N k) lc) ∧ xs[k * 3 + 2]? = some (.int .i64 (L.S k)) ∧ Ints W0 la (L.N k) (L.Z k) := by
  obtain ⟨i0, hi, hz0, hz1, hz2⟩ := info_parts infoSy
  have hown : w.ownsRow base 31 3 (.slice (some ⟨g, 0, none⟩) 0 0) 0 [] := ⟨by simp, .inr ⟨g, 0, #[], rfl, hb, hg, Nat.le_refl _, by decide, rfl, rfl⟩⟩
  by_cases h0 : n = 0
  · subst h0
    refine ⟨some ⟨g, 0, none⟩, 0, w, [], ?_, grow_refl _ _, hown, fun k hk => absurd hk (Nat.not_lt_zero _)⟩
    cases A with
    | none => simp [Builtin.append_, run_underlying Try.underlying23, sizeOf, typeInfo, hi, Builtin.lenOf, Builtin.firstCells, storeCells]
    | some a =>
      have hf := run_firstCells_some (P := Try.prog) w i0.size 0 a 0 c [] (by simp) (fun j v h => by simp at h)
      simp [Builtin.append_, run_underlying Try.underlying23, sizeOf, typeInfo, hi, Builtin.lenOf, hf, storeCells]
  · rcases hS with h | ⟨gs, off, rfl, hlo, hgs, hc⟩
    · exact absurd h h0
    have hsk : ∀ k, ∃ ac : Option Addr × Nat, k < n → W0.cell? ⟨gs, off + k * 3, none⟩ = some (.string (L.Nm k)) ∧ W0.cell? ⟨gs, off + k * 3 + 1, none⟩ = some (.slice ac.1 (L.N k) ac.2) ∧ W0.cell? ⟨gs, off + k * 3 + 2, none⟩ = some (.int .i64 (L.S k)) ∧ IntsB lo W0 ac.1 (L.N k) (L.Z k) := fun k => by
      by_cases hk : k < n
      · obtain ⟨a, c, h⟩ := hc k hk
        exact ⟨(a, c), fun _ => h⟩
      · exact ⟨(none, 0), fun h => absurd h hk⟩
    obtain ⟨f, hf⟩ := Classical.axiomOfChoice hsk
    obtain ⟨v', w', hr, h2, h3, _, _⟩ := run_append_own_at (P := Try.prog) w base 23 ty 31 i0 _ 3 48 Try.underlying23 hi hz0 hz1 hz2 rfl (by decide) (.slice (some ⟨g, 0, none⟩) 0 0) 0 [] hown ⟨gs, off, none⟩ n c (flY n L f) (flY_len n L f)
      (fun j v h => by
        have hj : j < n * 3 := by
          have := (List.getElem?_eq_some_iff.1 h).1
          rwa [flY_len] at this
        rw [flY_at hj] at h
        have h' := Option.some.inj h
        subst h'
        have e : (⟨gs, off, none⟩ : Addr).add j = ⟨gs, off + j, none⟩ := by cases j <;> simp [Addr.add]
        rw [e]
        obtain ⟨x0, x1, x2, _⟩ := hf (j / 3) (by omega)
        have hj3 : j % 3 = 0 ∨ j % 3 = 1 ∨ j % 3 = 2 := by omega
        rcases hj3 with e | e | e
        · rw [if_pos e, show off + j = off + j / 3 * 3 by omega]; exact carry hb0 x0
        · rw [if_neg (by omega), if_pos e, show off + j = off + j / 3 * 3 + 1 by omega]; exact carry hb0 x1
        · rw [if_neg (by omega), if_neg (by omega), show off + j = off + j / 3 * 3 + 2 by omega]; exact carry hb0 x2)
      (fun u hu => by
        obtain ⟨j, _, rfl⟩ := List.mem_map.1 hu
        split
        · rfl
        · split <;> rfl) (by unfold maxLen; omega) (by omega) hbw
    rw [Nat.zero_add, List.nil_append] at h2
    obtain ⟨a, c', e⟩ := own_slice h2
    subst e
    refine ⟨a, c', w', _, hr, h3, h2, fun k hk => ?_⟩
    obtain ⟨x0, x1, x2⟩ := flY_at3 (L := L) (f := f) hk
    obtain ⟨_, _, _, hI⟩ := hf k hk
    refine ⟨_, _, x0, x1, x2, ?_⟩
    rcases hI with h | ⟨g', off', ha', _, r⟩
    · exact .inl h
    · exact .inr ⟨g', off', ha', r⟩
/-- a list with an empty symbol behind it -/
def syMore (n : Nat) (L : Sy) : Sy := ⟨fun k => if k < n then L.Nm k else ⟨#[]⟩, fun k => if k < n then L.N k else 0, fun k => if k < n then L.Z k else fun _ => 0, fun k => if k < n then L.S k else 0⟩
theorem more_syms {w w6 : World} {base n c2 : Nat} {a2 : Option Addr} {L : Sy} {xs : List Value} (hlen : xs.length = n * 3) (h : w6.ownsRow base 31 3 (.slice a2 (n + 1) c2) (n + 1) (xs ++ [.string ⟨#[]⟩, .slice none 0 0, .int .i64 0]))
    (hx : ∀ k, k < n → ∃ la lc, xs[k * 3]? = some (.string (L.Nm k)) ∧ xs[k * 3 + 1]? = some (.slice la (L.N k) lc) ∧ xs[k * 3 + 2]? = some (.int .i64 (L.S k)) ∧ Ints w la (L.N k) (L.Z k)) (hb : Below w.heap.size w w6) (hL : SmY n L) : Syms w6 a2 (n + 1) (syMore n L) ∧ SmY (n + 1) (syMore n L) := by
  have hs : SmY (n + 1) (syMore n L) := fun k hk => by
    by_cases e : k < n
    · simp only [syMore, if_pos e]; exact hL k e
    · simp only [syMore, if_neg e]; exact ⟨Nat.zero_le _, by decide⟩
  refine ⟨own_syms h (fun k hk => ?_) hs, hs⟩
  by_cases e : k < n
  · obtain ⟨la, lc, x0, x1, x2, hI⟩ := hx k e
    simp only [syMore, if_pos e]
    rw [List.getElem?_append_left (by omega), List.getElem?_append_left (by omega), List.getElem?_append_left (by omega)]
    exact ⟨la, lc, x0, x1, x2, hI.below hb⟩
  · have e2 : k = n := by omega
    subst e2
    simp only [syMore, if_neg e]
    rw [List.getElem?_append_right (by omega), List.getElem?_append_right (by omega), List.getElem?_append_right (by omega), hlen, show k * 3 - k * 3 = 0 by omega, show k * 3 + 1 - k * 3 = 1 by omega, show k * 3 + 2 - k * 3 = 2 by omega]
    exact ⟨none, 0, rfl, rfl, rfl, .inl rfl⟩
end Go.Proofs.Ytbhagobkkobgfaa
