/- A text cut at a sign, as lists; a number's text read again: plain mathematics. -/
import Derived.Test.YthcabejfmoedfaaDoorCutA
import Derived.Test.YthcabejfmoedfaaDoorNumD
import Derived.Lib.AtoiAll
import Derived.Lib.IndexMore
namespace Go.Proofs.YthcabejfmoedfaaDoor
set_option linter.unusedVariables false
set_option linter.unusedSimpArgs false
open Go.Shelf Go.RowKit Go.Joins
/-- the pieces of a list between signs c -/
def splitL (c : UInt8) : List UInt8 → List (List UInt8)
  | [] => [[]]
  | x :: l => if x = c then [] :: splitL c l else (x :: (splitL c l).headD []) :: (splitL c l).tail
theorem split_ne (c : UInt8) : ∀ l, splitL c l ≠ []
  | [] => by simp [splitL]
  | x :: l => by unfold splitL; split <;> simp
theorem split_no {c : UInt8} : ∀ {u : List UInt8}, c ∉ u → splitL c u = [u]
  | [], _ => rfl
  | x :: u, h => by
    have hx : ¬ x = c := fun e => h (by simp [e])
    rw [splitL, if_neg hx, split_no (u := u) (fun hm => h (by simp [hm]))]
    rfl
theorem split_at {c : UInt8} (v : List UInt8) : ∀ {u : List UInt8}, c ∉ u → splitL c (u ++ c :: v) = u :: splitL c v
  | [], _ => by show splitL c (c :: v) = _; rw [splitL, if_pos rfl]
  | x :: u, h => by
    have hx : ¬ x = c := fun e => h (by simp [e])
    show splitL c (x :: (u ++ c :: v)) = _
    rw [splitL, if_neg hx, split_at v (u := u) (fun hm => h (by simp [hm]))]
    rfl
theorem bytes_list {l : List UInt8} : (⟨l.toArray⟩ : ByteArray).data.toList = l := by simp
theorem list_bytes (s : ByteArray) : (⟨s.data.toList.toArray⟩ : ByteArray) = s := by cases s; simp
theorem ba_ext {s t : ByteArray} (h : s.data.toList = t.data.toList) : s = t := by rw [← list_bytes s, ← list_bytes t, h]
theorem ex_list (s : ByteArray) (a b : Nat) : (s.extract a b).data.toList = (s.data.toList.drop a).take (b - a) := by
  rw [ByteArray.data_extract, Array.toList_extract]
theorem cut_split (s : ByteArray) (c : UInt8) : ∀ k, k ≤ s.size → splitL c s.data.toList = (cutW s c.toNat k).1.map (fun t => t.data.toList) ++ splitL c (s.data.toList.drop (cutW s c.toNat k).2) ∧ (∀ j, (cutW s c.toNat k).2 ≤ j → j < k → s.data.toList[j]? ≠ some c)
  | 0, _ => ⟨by simp [cutW], fun j h1 h2 => absurd h2 (by omega)⟩
  | k + 1, hk => by
    obtain ⟨ih1, ih2⟩ := cut_split s c k (by omega)
    have hle := (cutW_le s c.toNat k).1
    have hk2 : k < s.size := by omega
    have hkl : k < s.data.toList.length := by simpa using hk2
    have hg : s.data.toList[k]? = some (s[k]'hk2) := by rw [List.getElem?_eq_getElem hkl]; rfl
    by_cases hc : s[k]'hk2 = c
    · have hy : k = s.size ∨ ((s[k]!).toNat : Int) = c.toNat := .inr (by rw [get_bang hk2, hc])
      rw [cutW_yes hy]
      refine ⟨?_, fun j h1 h2 => absurd h2 (by show ¬ j < k + 1; have : k + 1 ≤ j := h1; omega)⟩
      rw [ih1]
      show _ = List.map _ ((cutW s c.toNat k).1 ++ [s.extract (cutW s c.toNat k).2 k]) ++ splitL c (s.data.toList.drop (k + 1))
      rw [List.map_append, List.append_assoc]
      congr 1
      have hd : s.data.toList.drop (cutW s c.toNat k).2 = (s.data.toList.drop (cutW s c.toNat k).2).take (k - (cutW s c.toNat k).2) ++ c :: s.data.toList.drop (k + 1) := by
        conv => lhs; rw [← List.take_append_drop (k - (cutW s c.toNat k).2) (s.data.toList.drop (cutW s c.toNat k).2)]
        congr 1
        rw [List.drop_drop, show (cutW s c.toNat k).2 + (k - (cutW s c.toNat k).2) = k by omega, List.drop_eq_getElem_cons hkl]
        congr 1
      rw [hd, split_at]
      · simp [ex_list]
      · intro hm
        obtain ⟨j, hj⟩ := List.mem_iff_getElem?.1 hm
        rw [List.getElem?_take] at hj
        split at hj
        · rw [List.getElem?_drop] at hj
          exact ih2 _ (by omega) (by omega) hj
        · cases hj
    · have hn : ¬ (k = s.size ∨ ((s[k]!).toNat : Int) = c.toNat) := by
        rw [get_bang hk2]
        rintro (h | h)
        · omega
        · exact hc (UInt8.toNat_inj.1 (by omega))
      rw [cutW_no hn]
      refine ⟨ih1, fun j h1 h2 => ?_⟩
      by_cases hj : j = k
      · subst hj; rw [hg]; intro e; exact hc (Option.some.inj e)
      · exact ih2 j h1 (by omega)
theorem cut_all (s : ByteArray) (c : UInt8) : (cutW s c.toNat (s.size + 1)).1.map (fun t => t.data.toList) = splitL c s.data.toList := by
  obtain ⟨h1, h2⟩ := cut_split s c s.size (Nat.le_refl _)
  have hle := (cutW_le s c.toNat s.size).1
  rw [cutW_yes (.inl rfl), h1, List.map_append]
  congr 1
  rw [split_no]
  · show [(s.extract (cutW s c.toNat s.size).2 s.size).data.toList] = _
    rw [ex_list, List.take_of_length_le (by rw [List.length_drop]; simp)]
  · intro hm
    obtain ⟨j, hj⟩ := List.mem_iff_getElem?.1 hm
    rw [List.getElem?_drop] at hj
    have : (cutW s c.toNat s.size).2 + j < s.data.toList.length := (List.getElem?_eq_some_iff.1 hj).1
    exact h2 _ (by omega) (by simpa using this) hj
/-- the pieces as texts -/
theorem cut_texts (s : ByteArray) (c : UInt8) : (cutW s c.toNat (s.size + 1)).1 = (splitL c s.data.toList).map (fun l => ⟨l.toArray⟩) := by
  rw [← cut_all, List.map_map]
  conv => lhs; rw [← List.map_id (cutW s c.toNat (s.size + 1)).1]
  apply List.map_congr_left
  intro t _
  exact (list_bytes t).symm
theorem index_one (c : UInt8) (v : List UInt8) : ∀ {u : List UInt8}, c ∉ u → Lib.index (u ++ c :: v) [c] = u.length
  | [], _ => by show Lib.index (c :: v) [c] = 0; unfold Lib.index; simp
  | x :: u, h => by
    have hx : ¬ c = x := fun e => h (by simp [e])
    have ih := index_one c v (u := u) (fun hm => h (by simp [hm]))
    show Lib.index (x :: (u ++ c :: v)) [c] = _
    unfold Lib.index
    have hp : List.isPrefixOf [c] (x :: (u ++ c :: v)) = false := by simp [List.isPrefixOf, hx]
    rw [hp, ih]
    simp
theorem index_none (c : UInt8) : ∀ {u : List UInt8}, c ∉ u → Lib.index u [c] = -1
  | [], _ => rfl
  | x :: u, h => by
    have hx : ¬ c = x := fun e => h (by simp [e])
    have ih := index_none c (u := u) (fun hm => h (by simp [hm]))
    unfold Lib.index
    have hp : List.isPrefixOf [c] (x :: u) = false := by simp [List.isPrefixOf, hx]
    rw [hp, ih]
    rfl
theorem cut_one {c : UInt8} {u v : List UInt8} (h : c ∉ u) : Lib.cut (u ++ c :: v) [c] = (u, v, true) := by
  unfold Lib.cut
  rw [index_one c v h, if_pos (by omega)]
  simp
theorem cut_none {c : UInt8} {u : List UInt8} (h : c ∉ u) : Lib.cut u [c] = (u, [], false) := by
  unfold Lib.cut
  rw [index_none c h, if_neg (by omega)]
theorem mem_itoa {n : Int} {c : UInt8} (h : c ∈ Lib.itoa n) : c.toNat = 45 ∨ 48 ≤ c.toNat ∧ c.toNat ≤ 57 := by
  have hd : ∀ (m : Nat), c ∈ Lib.decDigits m → 48 ≤ c.toNat ∧ c.toNat ≤ 57 := by
    intro m
    induction m using Nat.strongRecOn with
    | _ m ih =>
      intro hm
      by_cases h10 : m < 10
      · rw [dec_small h10] at hm
        simp only [List.mem_singleton] at hm
        subst hm
        rw [dig_val h10]; omega
      · rw [dec_big h10, List.mem_append] at hm
        rcases hm with hm | hm
        · exact ih (m / 10) (by omega) hm
        · simp only [List.mem_singleton] at hm
          subst hm
          rw [dig_val (Nat.mod_lt _ (by omega))]
          have := Nat.mod_lt m (show 0 < 10 by omega)
          omega
  by_cases h0 : n < 0
  · rw [itoa_neg h0] at h
    rcases List.mem_cons.1 h with h | h
    · left; rw [h]; rfl
    · right; exact hd _ h
  · obtain ⟨m, rfl⟩ : ∃ m : Nat, n = (m : Int) := ⟨n.toNat, by omega⟩
    rw [itoa_nat] at h
    right; exact hd _ h
theorem itoa_no {n : Int} {c : UInt8} (h : c.toNat ≠ 45 ∧ (c.toNat < 48 ∨ 57 < c.toNat)) : c ∉ Lib.itoa n := fun hm => by have := mem_itoa hm; omega
theorem digs_le : ∀ (l : List UInt8) (a m : Nat), digs a l = some m → a ≤ m
  | [], a, m, h => by simp only [digs, Option.some.injEq] at h; omega
  | c :: r, a, m, h => by
    by_cases hc : 48 ≤ c.toNat ∧ c.toNat ≤ 57
    · rw [digs_ok hc] at h
      have := digs_le r _ _ h
      omega
    · rw [digs_bad hc] at h; cases h
theorem parse_digs : ∀ (l : List UInt8) (a m : Nat), digs a l = some m → m ≤ 1000000000000000000 → Lib.parseUint10 a l = .ok m
  | [], a, m, h, _ => by simp only [digs, Option.some.injEq] at h; rw [h]; rfl
  | c :: r, a, m, h, hm => by
    by_cases hc : 48 ≤ c.toNat ∧ c.toNat ≤ 57
    · rw [digs_ok hc] at h
      have hle := digs_le r _ _ h
      unfold Lib.parseUint10
      rw [if_pos hc, if_neg (by omega), if_neg (by omega)]
      exact parse_digs r _ _ h hm
    · rw [digs_bad hc] at h; cases h
theorem atoi_itoa (n : Int) (h : -1000000000000000000 ≤ n ∧ n ≤ 1000000000000000000) : Lib.atoiAll (Lib.itoa n) = .ok n := by
  by_cases h0 : n < 0
  · rw [itoa_neg h0]
    obtain ⟨c, r, e, _⟩ := dec_head n.natAbs
    have hp : Lib.parseMag (Lib.decDigits n.natAbs) = .ok n.natAbs := by
      unfold Lib.parseMag
      rw [if_neg (by rw [e]; simp)]
      exact parse_digs _ _ _ (digs_dec _) (by omega)
    unfold Lib.atoiAll
    show (match Lib.parseMag (if (45 : UInt8).toNat = 43 ∨ (45 : UInt8).toNat = 45 then Lib.decDigits n.natAbs else _) with | .syntax => _ | .range => _ | .ok u => _) = _
    rw [if_pos (by decide), hp]
    show (if ¬ (45 : UInt8).toNat = 45 ∧ _ then _ else _) = _
    rw [if_neg (by simp), if_neg (by simp; omega), if_pos (by decide)]
    congr 1; omega
  · obtain ⟨m, rfl⟩ : ∃ m : Nat, n = (m : Int) := ⟨n.toNat, by omega⟩
    rw [itoa_nat]
    have hd := digs_dec m
    obtain ⟨c, r, e, h1, _⟩ := dec_head m
    have hp : Lib.parseMag (Lib.decDigits m) = .ok m := by
      unfold Lib.parseMag
      rw [if_neg (by rw [e]; simp)]
      exact parse_digs _ _ _ hd (by omega)
    rw [e] at hd hp ⊢
    have hc : 48 ≤ c.toNat ∧ c.toNat ≤ 57 := by
      by_cases hc : 48 ≤ c.toNat ∧ c.toNat ≤ 57
      · exact hc
      · rw [digs_bad hc] at hd; cases hd
    unfold Lib.atoiAll
    show (match Lib.parseMag (if c.toNat = 43 ∨ c.toNat = 45 then r else c :: r) with | .syntax => _ | .range => _ | .ok u => _) = _
    rw [if_neg (by omega), hp]
    show (if ¬ c.toNat = 45 ∧ 9223372036854775808 ≤ m then _ else if c.toNat = 45 ∧ 9223372036854775808 < m then _ else Lib.NumEnd.ok (if c.toNat = 45 then -(m : Int) else m)) = _
    rw [if_neg (by omega), if_neg (by omega), if_neg h1]
/-- the text is that of the fraction n/d -/
def RdOk (s : ByteArray) (n d : Int) : Prop := okB n d = true ∧ s = ⟨(ratTxt n d).toArray⟩
theorem no47 (n : Int) : (47 : UInt8) ∉ Lib.itoa n := itoa_no (by decide)
theorem rd_split {s : ByteArray} {n d : Int} (h : RdOk s n d) : (d = 1 ∧ s.data.toList = Lib.itoa n) ∨ (d ≠ 1 ∧ s.data.toList = Lib.itoa n ++ 47 :: Lib.itoa d) := by
  obtain ⟨h1, rfl⟩ := h
  by_cases hd : d = 1
  · left; refine ⟨hd, ?_⟩; rw [bytes_list]; unfold ratTxt; rw [if_pos h1, if_pos hd, List.append_nil]
  · right; refine ⟨hd, ?_⟩; rw [bytes_list]; unfold ratTxt; rw [if_pos h1, if_neg hd]
theorem itoa_inj {a b : Int} (ha : -1000000000000000000 ≤ a ∧ a ≤ 1000000000000000000) (hb : -1000000000000000000 ≤ b ∧ b ≤ 1000000000000000000) (h : Lib.itoa a = Lib.itoa b) : a = b := by
  have h1 := atoi_itoa a ha
  rw [h, atoi_itoa b hb] at h1
  injection h1 with h1
  exact h1.symm
theorem rd_inj {s : ByteArray} {n d n' d' : Int} (h : RdOk s n d) (h' : RdOk s n' d') : n = n' ∧ d = d' := by
  have b1 := ok_b h.1; have b2 := ok_b h'.1
  rcases rd_split h with ⟨e1, f1⟩ | ⟨e1, f1⟩ <;> rcases rd_split h' with ⟨e2, f2⟩ | ⟨e2, f2⟩
  · rw [f1] at f2; exact ⟨itoa_inj (by omega) (by omega) f2, by omega⟩
  · have c1 := cut_none (no47 n); have c2 := cut_one (v := Lib.itoa d') (no47 n')
    rw [← f1] at c1; rw [← f2, c1] at c2; injection c2 with _ c2; injection c2 with _ c2; cases c2
  · have c1 := cut_none (no47 n'); have c2 := cut_one (v := Lib.itoa d) (no47 n)
    rw [← f2] at c1; rw [← f1, c1] at c2; injection c2 with _ c2; injection c2 with _ c2; cases c2
  · have c1 := cut_one (v := Lib.itoa d) (no47 n); have c2 := cut_one (v := Lib.itoa d') (no47 n')
    rw [← f1] at c1; rw [← f2, c1] at c2; injection c2 with c2 c3; injection c3 with c3 _
    exact ⟨itoa_inj (by omega) (by omega) c2, itoa_inj (by omega) (by omega) c3⟩
/-- what RatRead answers -/
def RdP (s : ByteArray) (e : Ending) : Prop := (∃ n d, RdOk s n d ∧ e = .returned (.tuple #[.agg #[.int .i64 n, .int .i64 d], .bool true])) ∨ ((∀ n d, ¬ RdOk s n d) ∧ e = .returned (.tuple #[.agg #[.int .i64 0, .int .i64 0], .bool false]))
end Go.Proofs.YthcabejfmoedfaaDoor
