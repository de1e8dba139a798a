/- slices.Grow and slices.Concat of lists of clauses. -/
import Derived.Test.YtjnngijilkdhbaaC2
import Derived.Lib.AppendZeros
import Derived.Deep.Slices
namespace Go.Proofs.Ytjnngijilkdhbaa
set_option linter.unusedVariables false
set_option linter.unusedSimpArgs false
open Go.RowKit
def catL (n : Nat) (L M : Lls) : Lls := ⟨fun k => if k < n then L.N k else M.N (k - n), fun k => if k < n then L.Z k else M.Z (k - n)⟩
/-- a row of one's own whose rows are read in w0 -/
def RS (w0 W : World) (base : Nat) (v : Value) (n : Nat) (L : Lls) : Prop :=
  ∃ xs, W.ownsRow base 38 1 v n xs ∧ ∀ k, k < n → ∃ a c, xs[k]? = some (.slice a (L.N k) c) ∧ L.N k ≤ 9223372036854775807 ∧ Ints w0 a (L.N k) (L.Z k)
theorem RS.nil (w0 W : World) (base : Nat) (L : Lls) : RS w0 W base (.slice none 0 0) 0 L := ⟨[], World.ownsRow_nil _ _ _ _, fun k hk => by omega⟩
theorem RS.congr {w0 W : World} {base n : Nat} {v : Value} {L M : Lls} (h : RS w0 W base v n L) (hN : ∀ k, k < n → M.N k = L.N k) (hZ : ∀ k, k < n → M.Z k = L.Z k) : RS w0 W base v n M := by
  obtain ⟨xs, h1, h2⟩ := h
  refine ⟨xs, h1, fun k hk => ?_⟩
  rw [hN k hk, hZ k hk]
  exact h2 k hk
theorem RS.slice {w0 W : World} {base n : Nat} {v : Value} {L : Lls} (h : RS w0 W base v n L) : ∃ a c, v = .slice a n c ∧ n ≤ c := by
  obtain ⟨xs, h1, _⟩ := h
  rcases h1.2 with ⟨rfl, h0⟩ | ⟨g, cap, cur, rfl, _, _, h3, _⟩
  · exact ⟨none, 0, by rw [h0], by omega⟩
  · exact ⟨_, cap, rfl, h3⟩
theorem RS.intss {w0 W : World} {base n c : Nat} {A : Option Addr} {L : Lls} (h : RS w0 W base (.slice A n c) n L) (hb : Below w0.heap.size w0 W) : IntSS W A n L := by
  obtain ⟨xs, h1, hx⟩ := h
  by_cases h0 : n = 0
  · exact .inl h0
  rcases h1.2 with ⟨_, h⟩ | ⟨g, cap, cur, e, hgb, hh, _⟩
  · exact absurd h h0
  injection e with e1 _ e3
  subst e1 e3
  refine .inr ⟨g, 0, rfl, (Array.getElem?_eq_some_iff.1 hh).1, fun k hk => ?_⟩
  obtain ⟨a, cc, e, hN, hI⟩ := hx k hk
  rw [Nat.zero_add, h1.cellAt k (by omega), e]
  exact ⟨a, cc, rfl, hN, hI.below hb⟩
theorem RS.app {w0 W : World} {base n c m : Nat} {v : Value} {A : Option Addr} {L M : Lls} (ty : TypeId) (h : RS w0 W base v n L) (hA : IntSS w0 A m M) (hb : Below w0.heap.size w0 W) (hnm : n + m ≤ 100000) (hbase : base ≤ W.heap.size) :
    ∃ v' w', (Builtin.append_ #[22, 22] ty #[v, .slice A m c]).run Try.prog W = .ok v' w' ∧ RS w0 w' base v' (n + m) (catL n L M) ∧ W.grownBy w' v.ownBlock := by
  obtain ⟨i0, hi, hz0, hz1, hz2⟩ := info_parts infoIS
  obtain ⟨xs, hown, hx⟩ := h
  by_cases h0 : m = 0
  · subst h0
    obtain ⟨a', c', rfl, hc'⟩ := RS.slice ⟨xs, hown, hx⟩
    have hr2 : (Builtin.append_ #[22, 22] ty #[.slice a' n c', .slice A 0 c]).run Try.prog W = .ok (.slice a' n c') W := by
      cases A with
      | none => simp [Builtin.append_, run_underlying Try.underlying22, sizeOf, typeInfo, hi, Builtin.lenOf, Builtin.firstCells, storeCells, hc']; cases a' <;> simp
      | some a =>
        have hf := run_firstCells_some (P := Try.prog) W i0.size 0 a 0 c [] (by simp) (fun j v h => by simp at h)
        simp [Builtin.append_, run_underlying Try.underlying22, sizeOf, typeInfo, hi, Builtin.lenOf, hf, storeCells, hc']; cases a' <;> simp
    exact ⟨_, W, hr2, RS.congr ⟨xs, hown, hx⟩ (fun k hk => if_pos hk) (fun k hk => if_pos hk), grow_refl _ _⟩
  · rcases hA with h | ⟨ga, off, rfl, hg, hc⟩
    · exact absurd h h0
    obtain ⟨q, hq⟩ := Go.Deep.choose_lt (p := fun k (q : Option Addr × Nat) => w0.cell? ⟨ga, off + k, none⟩ = some (.slice q.1 (M.N k) q.2) ∧ M.N k ≤ 9223372036854775807 ∧ Ints w0 q.1 (M.N k) (M.Z k)) (fun k hk => by
      obtain ⟨a, cc, h⟩ := hc k hk
      exact ⟨(a, cc), h⟩)
    obtain ⟨news, hnw⟩ : ∃ news : List Value, news = (List.range m).map fun k => Value.slice (q k).1 (M.N k) (q k).2 := ⟨_, rfl⟩
    have hnl : news.length = m := by rw [hnw, List.length_map, List.length_range]
    have hna : ∀ k, k < m → news[k]? = some (.slice (q k).1 (M.N k) (q k).2) := fun k hk => by
      rw [hnw, List.getElem?_map, List.getElem?_range hk]; rfl
    have hnews : ∀ j u, news[j]? = some u → W.cell? ((⟨ga, off, none⟩ : Addr).add j) = some u := fun j u hj => by
      have hjl : j < m := by have := (List.getElem?_eq_some_iff.1 hj).1; omega
      rw [hna j hjl] at hj
      rw [← Option.some.inj hj, show (⟨ga, off, none⟩ : Addr).add j = ⟨ga, off + j, none⟩ by unfold Addr.add; split <;> simp_all]
      exact carry hb (hq j hjl).1
    obtain ⟨v', w', hr, h2, h3, h4⟩ := run_append_freshU (P := Try.prog) W base 22 ty 38 i0 (.slice none 0 0) 1 24 Try.underlying22 hi hz0 hz1 hz2 rfl (by decide) v n xs hown ⟨ga, off, none⟩ m c news (by omega) hnews (fun u hu => by rw [hnw] at hu; obtain ⟨z, _, rfl⟩ := List.mem_map.1 hu; rfl) (by unfold maxLen; omega) (by omega) hbase
    refine ⟨v', w', hr, ⟨_, h2, fun k hk => ?_⟩, h3⟩
    have hxl : xs.length = n := by have := hown.1; omega
    by_cases hkn : k < n
    · simp only [catL, if_pos hkn]
      rw [List.getElem?_append_left (by omega)]
      exact hx k hkn
    · simp only [catL, if_neg hkn]
      rw [List.getElem?_append_right (by omega), hxl]
      exact ⟨_, _, hna (k - n) (by omega), (hq (k - n) (by omega)).2⟩
theorem RS.below {w0 W W' : World} {base n : Nat} {v : Value} {L : Lls} (h : RS w0 W base v n L) (hb : Below W.heap.size W W') : RS w0 W' base v n L := by
  obtain ⟨xs, h1, h2⟩ := h
  exact ⟨xs, own_belowU hb h1, h2⟩
theorem RS.ge {w0 W : World} {base n : Nat} {v : Value} {L : Lls} (h : RS w0 W base v n L) : ∀ r, v.ownBlock = some r → base ≤ r := by
  obtain ⟨xs, h1, _⟩ := h
  exact fun r e => (h1.lt r e).1
def catN (n m k : Nat) : Nat := if k = 0 then 0 else if k = 1 then n else n + m
def catK (n : Nat) (L M : Lls) (k : Nat) : Lls := if k = 2 then catL n L M else L
theorem catK_one (n : Nat) (L M : Lls) {v : Value} {w0 W : World} {base : Nat} (h : RS w0 W base v (catN n 0 0 + n) (catL (catN n 0 0) L L)) : RS w0 W base v n L := by
  simp only [catN, if_true, Nat.zero_add] at h
  exact h.congr (fun k hk => by simp [catL]) (fun k hk => by simp [catL])
set_option maxHeartbeats 4000000 in
/-- slices.Grow of nothing -/
theorem grow_nil (n : Nat) (w0 w : World) (L : Lls) (hn : n ≤ 100000) :
    Calls Try.prog 50 #[.slice none 0 0, .int .i64 n] w fun e w' => ∃ v, e = .returned v ∧ RS w0 w' w.heap.size v 0 L ∧ Below w.heap.size w w' := by
  obtain ⟨i0, hi, hz0, hz1, hz2⟩ := info_parts infoIS
  by_cases h0 : 0 < n
  · have hr := Lib.run_append_nil_zeros (P := Try.prog) w 22 3 22 38 i0 (.slice none 0 0) .i64 .i64 Try.underlying22 Try.underlying3 hi hz0 n h0 (by omega) (by omega) (by rw [hz2]; omega)
    have d1 : decide ((n : Int) < 0) = false := decide_eq_false (by omega)
    have d2 : decide ((0 : Int) < (n : Int)) = true := decide_eq_true (by omega)
    have hge := grownCap_ge w n 0 38
    have hO := World.ownsRow_made (e := 38) (size := 1) (base := w.heap.size) w.drew (Builtin.zeroCells (Value.slice none 0 0).cells n ++ Builtin.zeroCells (Value.slice none 0 0).cells (grownCap w n 0 38 - n)) (grownCap w n 0 38) (by simp) (grownCap_le_maxLen w n 0 _ (by unfold maxLen; omega)) (by rw [Array.size_append, size_zeroCells, size_zeroCells]; simp [Value.cells]; omega)
    have q0 := bal (Below.refl w.heap.size w).drew (.cells (Builtin.zeroCells (Value.slice none 0 0).cells n ++ Builtin.zeroCells (Value.slice none 0 0).cells (grownCap w n 0 38 - n)) 38)
    generalize w.drew.alloc (.cells (Builtin.zeroCells (Value.slice none 0 0).cells n ++ Builtin.zeroCells (Value.slice none 0 0).cells (grownCap w n 0 38 - n)) 38) = w1 at *
    generalize grownCap w n 0 38 = cap at *
    clear hi hz0 hz1 hz2
    go_enter Try.func50, Try.ntmps50
    go_wp2_with (at_builtin; refine Lib.wpList_append_run _ rfl _ _ _ _ rfl _ _ rfl rfl _ _ hr ?_)
    go_ret
    exact ⟨_, rfl, ⟨[], hO, fun k hk => by omega⟩, q0⟩
  · obtain rfl : n = 0 := by omega
    go_enter Try.func50, Try.ntmps50
    go_wp2
    go_ret
    exact ⟨_, rfl, RS.nil _ _ _ _, Below.refl _ _⟩
set_option maxHeartbeats 8000000 in
set_option maxRecDepth 100000 in
/-- slices.Concat of two lists -/
theorem concat_any {w : World} {A B : Option Addr} {n m c d p : Nat} {L M : Lls} (c0 : w.cell? ⟨p, 0, none⟩ = some (.slice A n c)) (c1 : w.cell? ⟨p, 1, none⟩ = some (.slice B m d)) (hA : IntSS w A n L) (hB : IntSS w B m M) (hn : n ≤ 1000) (hm : m ≤ 1000) :
    Calls Try.prog 36 #[.slice (some ⟨p, 0, none⟩) 2 2] w fun e w' => ∃ v, e = .returned v ∧ RS w w' w.heap.size v (n + m) (catL n L M) ∧ Below w.heap.size w w' := by
  have hG := grow_nil (n + m) w w L (by omega)
  rw [Int.natCast_add] at hG
  have y0 := cell_lt c0
  go_enter Try.func36, Try.ntmps36
  go_wp2
  go_loopw [3, 11] (fun s i wr => ∃ k : Nat, k ≤ 2 ∧ i = .int .i64 (k : Int) ∧ s = .int .i64 (catN n m k : Int) ∧ wr = w) (fun _ i _ => 2 - (intOf i).toNat)
  case atStart => exact ⟨0, by omega, rfl, rfl, rfl⟩
  case round =>
    obtain ⟨k, hk, rfl, rfl, rfl⟩ := hrel
    by_cases hlt : k < 2
    · rcases (show k = 0 ∨ k = 1 by omega) with rfl | rfl
      · have d1 : decide ((n : Int) < 0) = false := decide_eq_false (by omega)
        simp only [catN, if_pos] 
        go_wp2
        go_roundw
        case rel => exact ⟨1, by omega, rfl, by simp [catN], by simp⟩
        case measure => simp [intOf]
      · have d1 : decide ((n : Int) + (m : Int) < 0) = false := decide_eq_false (by omega)
        simp only [catN]
        go_wp2
        go_roundw
        case rel => exact ⟨2, by omega, rfl, by simp [catN], by simp⟩
        case measure => simp [intOf]
    · obtain rfl : k = 2 := by omega
      rw [show ((catN n m 2 : Nat) : Int) = (n : Int) + (m : Int) by simp [catN]]
      go_wp2_with fail
      refine hG.mono ?_
      rintro e w1 ⟨v1, rfl, hR1, q1⟩
      clear hG
      replace c0 := carry q1 c0
      replace c1 := carry q1 c1
      have y1 := cell_lt c0
      go_wp2
      go_loopw [6, 27] (fun v i wr' => ∃ k : Nat, k ≤ 2 ∧ i = .int .i64 (k : Int) ∧ RS wr wr' wr.heap.size v (catN n m k) (catK n L M k) ∧ Below wr.heap.size wr wr' ∧ wr'.cell? ⟨p, 0, none⟩ = some (.slice A n c) ∧ wr'.cell? ⟨p, 1, none⟩ = some (.slice B m d)) (fun _ i _ => 2 - (intOf i).toNat)
      case atStart => exact ⟨0, by omega, rfl, hR1, q1, c0, c1⟩
      case round =>
        clear c0 c1 y1 q1 hR1
        obtain ⟨k, hk, rfl, hR, q2, c0, c1⟩ := hrel
        by_cases hlt : k < 2
        · rcases (show k = 0 ∨ k = 1 by omega) with rfl | rfl
          · obtain ⟨v', w', hr, hR', hg'⟩ := RS.app (c := c) 22 hR hA q2 (by simp [catN]; omega) q2.size
            have hge := hR.ge
            have q3 := q2.grown hg' q2.size hge
            have z0 := hg'.cell c0 (fun e => by have := hge p e.symm; omega)
            have z1 := hg'.cell c1 (fun e => by have := hge p e.symm; omega)
            replace hR' := catK_one n L M hR'
            have y1 := cell_lt c0
            go_wp2_with (at_builtin; refine Lib.wpList_append_run _ rfl _ _ _ _ rfl _ _ rfl rfl _ _ hr ?_)
            go_roundw
            case rel => exact ⟨1, by omega, rfl, hR', q3, z0, z1⟩
            case measure => simp [intOf]
          · obtain ⟨v', w', hr, hR', hg'⟩ := RS.app (c := d) 22 hR hB q2 (by simp [catN]; omega) q2.size
            have hge := hR.ge
            have q3 := q2.grown hg' q2.size hge
            have z0 := hg'.cell c0 (fun e => by have := hge p e.symm; omega)
            have z1 := hg'.cell c1 (fun e => by have := hge p e.symm; omega)
            have y1 := cell_lt c0
            go_wp2_with (at_builtin; refine Lib.wpList_append_run _ rfl _ _ _ _ rfl _ _ rfl rfl _ _ hr ?_)
            go_roundw
            case rel => exact ⟨2, by omega, rfl, hR', q3, z0, z1⟩
            case measure => simp [intOf]
        · obtain rfl : k = 2 := by omega
          go_wp2
          go_ret
          exact ⟨_, rfl, hR, q2⟩
end Go.Proofs.Ytjnngijilkdhbaa
