/- A text cut at a sign: mathematics, contract of the model's l16Cut. -/
import Derived.Test.YtcnlolocppbcjaaDoorLinU
import Derived.Laws.DeepStrings4
namespace Go.Proofs.YtcnlolocppbcjaaDoor
set_option linter.unusedVariables false
set_option linter.unusedSimpArgs false
open Go.RowKit
/-- the words and where the next begins, when i places are passed -/
def cutW (s : ByteArray) (c : Int) : Nat → List ByteArray × Nat
  | 0 => ([], 0)
  | i + 1 => if i = s.size ∨ ((s[i]!).toNat : Int) = c then ((cutW s c i).1 ++ [s.extract (cutW s c i).2 i], i + 1) else cutW s c i
theorem cutW_yes {s : ByteArray} {c : Int} {i : Nat} (h : i = s.size ∨ ((s[i]!).toNat : Int) = c) : cutW s c (i + 1) = ((cutW s c i).1 ++ [s.extract (cutW s c i).2 i], i + 1) := by rw [cutW, if_pos h]
theorem cutW_no {s : ByteArray} {c : Int} {i : Nat} (h : ¬ (i = s.size ∨ ((s[i]!).toNat : Int) = c)) : cutW s c (i + 1) = cutW s c i := by rw [cutW, if_neg h]
theorem cutW_le (s : ByteArray) (c : Int) : ∀ i, (cutW s c i).2 ≤ i ∧ (cutW s c i).1.length ≤ i
  | 0 => ⟨Nat.le_refl _, Nat.le_refl _⟩
  | i + 1 => by
    have ih := cutW_le s c i
    by_cases h : i = s.size ∨ ((s[i]!).toNat : Int) = c
    · rw [cutW_yes h]; exact ⟨Nat.le_refl _, by rw [List.length_append]; simp; omega⟩
    · rw [cutW_no h]; omega
theorem get_bang {s : ByteArray} {k : Nat} (hk : k < s.size) : s[k]! = s[k] := getElem!_pos s k hk
/-- a list of texts of new memory, handed back -/
def NewWs (w : World) (ws : List ByteArray) (e : Ending) (w' : World) : Prop :=
  ∃ v, e = .returned v ∧ w'.ownsRow w.heap.size 9 1 v ws.length (ws.map Value.string) ∧ Below w.heap.size w w'
theorem infoStr : (Tryd.prog.info? 9).map (fun i => (i.zero, i.size, i.bytes)) = some (some (.string ⟨#[]⟩), 1, 16) := by kernel_rfl
theorem own_emptyS (w : World) (t : TypeId) (size : Nat) : (w.alloc (.cells #[] t)).ownsRow w.heap.size t size (.slice (some ⟨w.heap.size, 0, none⟩) 0 0) 0 [] :=
  ⟨by simp, .inr ⟨w.heap.size, 0, #[], rfl, Nat.le_refl _, Deep.blk_alloc_new _ _, Nat.le_refl _, by unfold maxLen; omega, by simp, by simp⟩⟩
theorem new_oneS (w : World) (x : Value) (t : TypeId) : ∀ (j : Nat) (u : Value), ([x] : List Value)[j]? = some u → (w.alloc (.cells #[x] t)).cell? ((⟨w.heap.size, 0, none⟩ : Addr).add j) = some u := by
  intro j u h
  match j with
  | 0 => simp at h; subst h; simp [go_sem, Addr.add]
  | j + 1 => simp at h
theorem cut_below {w wr w5 : World} {o : Obj} {v : Value} {k : Nat} {Y : List Value} {t : TypeId} (hb : Below w.heap.size w wr) (ho : wr.ownsRow w.heap.size t 1 v k Y) (hg : (wr.alloc o).grownBy w5 v.ownBlock) : Below w.heap.size w w5 := by
  have := hb.size
  refine (bal hb o).grown hg (by simp; omega) ?_
  intro j hj
  exact (ho.lt j hj).1
set_option maxRecDepth 100000 in
set_option maxHeartbeats 4000000 in
theorem cut_any (s : ByteArray) (c : Int) (w : World) (hs : s.size ≤ 1048576) :
    Calls Tryd.prog 9 #[.string s, .int .u8 c] w (NewWs w (cutW s c (s.size + 1)).1) := by
  obtain ⟨i0, hi, hz0, hz1, hz2⟩ := info_parts infoStr
  have h0 := own_emptyS w 9 1
  have q0 := bal (Below.refl w.heap.size w) (.cells #[] 9)
  go_enter Tryd.func9, Tryd.ntmps9
  go_wp2_with fail
  go_loopw [5, 6, 7] (fun v f i wr => ∃ (k n : Nat) (ws : List ByteArray), k ≤ s.size + 1 ∧ i = .int .i64 k ∧ f = .int .i64 n ∧ cutW s c k = (ws, n) ∧ wr.ownsRow w.heap.size 9 1 v ws.length (ws.map Value.string) ∧ Below w.heap.size w wr) (fun _ _ i _ => s.size + 1 - (intOf i).toNat)
  case atStart => exact ⟨0, 0, [], Nat.zero_le _, rfl, rfl, rfl, h0, q0⟩
  case round =>
    clear h0 q0
    obtain ⟨k, n, ws, hk, rfl, rfl, hW, hO, hb⟩ := hrel
    have hle := cutW_le s c k
    rw [hW] at hle
    obtain ⟨hn, hl⟩ := hle
    simp only at hn hl
    have HW := hid hW; clear hW
    have HO := hid hO
    have hsz := hb.size
    by_cases hlt : k ≤ s.size
    · have d0 : decide ((k : Int) ≤ (s.size : Int)) = true := by simp; omega
      by_cases hc : k = s.size ∨ ((s[k]!).toNat : Int) = c
      · have HY := hid (cutW_yes hc)
        have hnw := new_oneS wr (.string (s.extract n k)) 9
        clear hO
        rcases hc with hks | hcc
        · have d1 : ((k : Int) == (s.size : Int)) = true := by simp; omega
          have hkn : (n : Int) ≤ (k : Int) := by omega
          have HKS := hid hks
          have hk2 : (k : Int) ≤ (s.size : Int) := by omega
          clear hks
          go_wp2_with ((at_builtin; go_loud (refine wpList_append_own _ rfl _ _ 30 rfl w.heap.size 9 i0 (.string ⟨#[]⟩) 1 16 Tryd.underlying30 hi hz0 hz1 hz2 rfl (by decide) _ _ _ rfl (HO.out.alloc _) ⟨wr.heap.size, 0, none⟩ 1 1 [.string (s.extract n k)] rfl rfl hnw (fun u hu => by simp at hu; subst hu; rfl) (by unfold maxLen; omega) (by omega) (by simp; omega) ?_); intro v' w5 hown hgrow _; have H5 := hid (cut_below hb HO.out hgrow); have HO5 := hid hown))
          go_roundw
          case rel =>
            refine ⟨k + 1, k + 1, ws ++ [s.extract n k], by omega, by go_num, by go_num, by rw [HY.out, HW.out], ?_, H5.out⟩
            rw [List.length_append, List.map_append]
            exact HO5.out
          case measure => simp [intOf]; omega
        · by_cases hks : k = s.size
          · have d1 : ((k : Int) == (s.size : Int)) = true := by simp; omega
            have hk2 : (k : Int) ≤ (s.size : Int) := by omega
            clear hks hcc
            go_wp2_with ((at_builtin; go_loud (refine wpList_append_own _ rfl _ _ 30 rfl w.heap.size 9 i0 (.string ⟨#[]⟩) 1 16 Tryd.underlying30 hi hz0 hz1 hz2 rfl (by decide) _ _ _ rfl (HO.out.alloc _) ⟨wr.heap.size, 0, none⟩ 1 1 [.string (s.extract n k)] rfl rfl hnw (fun u hu => by simp at hu; subst hu; rfl) (by unfold maxLen; omega) (by omega) (by simp; omega) ?_); intro v' w5 hown hgrow _; have H5 := hid (cut_below hb HO.out hgrow); have HO5 := hid hown))
            go_roundw
            case rel =>
              refine ⟨k + 1, k + 1, ws ++ [s.extract n k], by omega, by go_num, by go_num, by rw [HY.out, HW.out], ?_, H5.out⟩
              rw [List.length_append, List.map_append]
              exact HO5.out
            case measure => simp [intOf]; omega
          · have hk2 : k < s.size := by omega
            rw [get_bang hk2] at hcc
            have d1 : ((k : Int) == (s.size : Int)) = false := by simp; omega
            have d2 : (((s[k]).toNat : Int) == c) = true := by simpa using hcc
            clear hcc
            go_wp2_with ((at_builtin; go_loud (refine wpList_append_own _ rfl _ _ 30 rfl w.heap.size 9 i0 (.string ⟨#[]⟩) 1 16 Tryd.underlying30 hi hz0 hz1 hz2 rfl (by decide) _ _ _ rfl (HO.out.alloc _) ⟨wr.heap.size, 0, none⟩ 1 1 [.string (s.extract n k)] rfl rfl hnw (fun u hu => by simp at hu; subst hu; rfl) (by unfold maxLen; omega) (by omega) (by simp; omega) ?_); intro v' w5 hown hgrow _; have H5 := hid (cut_below hb HO.out hgrow); have HO5 := hid hown))
            go_roundw
            case rel =>
              refine ⟨k + 1, k + 1, ws ++ [s.extract n k], by omega, by go_num, by go_num, by rw [HY.out, HW.out], ?_, H5.out⟩
              rw [List.length_append, List.map_append]
              exact HO5.out
            case measure => simp [intOf]; omega
      · have HY := hid (cutW_no hc)
        have hk2 : k < s.size := by have : ¬ k = s.size := fun h => hc (.inl h); omega
        have hcc : ¬ ((s[k]).toNat : Int) = c := fun h => hc (.inr (by rw [get_bang hk2]; exact h))
        have d1 : ((k : Int) == (s.size : Int)) = false := by simp; omega
        have d2 : (((s[k]).toNat : Int) == c) = false := by simpa using hcc
        clear hc hO
        go_wp2
        go_roundw
        case rel => exact ⟨k + 1, n, ws, by omega, by go_num, by trivial, by rw [HY.out, HW.out], HO.out, hb⟩
        case measure => simp [intOf]; omega
    · have d0 : decide ((k : Int) ≤ (s.size : Int)) = false := by simp; omega
      have hke : k = s.size + 1 := by omega
      have HK := hid hke
      clear hO hke
      go_wp2
      go_ret
      exact ⟨_, rfl, by rw [← HK.out, HW.out]; exact HO.out, hb⟩
end Go.Proofs.YtcnlolocppbcjaaDoor
