/- Contract of the model's RatRead. -/
import Derived.Test.YtcnlolocppbcjaaDoorBNum
import Derived.Test.YtcnlolocppbcjaaDoorSay
import Derived.Test.YtcnlolocppbcjaaDoorLinW
namespace Go.Proofs.YtcnlolocppbcjaaDoor
set_option linter.unusedVariables false
set_option linter.unusedSimpArgs false
open Go.Shelf Go.RowKit Go.Joins
theorem split_len (c : UInt8) : ∀ (l : List UInt8) (p : List UInt8), p ∈ splitL c l → p.length ≤ l.length
  | [], p, h => by simp [splitL] at h; simp [h]
  | x :: l, p, h => by
    have ih := split_len c l
    unfold splitL at h
    split at h
    · rcases List.mem_cons.1 h with rfl | h
      · simp
      · have := ih p h; simp; omega
    · rcases List.mem_cons.1 h with rfl | h
      · have hne := split_ne c l
        cases hs : splitL c l with
        | nil => exact absurd hs hne
        | cons a b => have := ih a (by rw [hs]; simp); simp; omega
      · have := ih p (List.mem_of_mem_tail h); simp; omega
/-- the pieces of a text cut at a sign -/
def wsOf (s : ByteArray) (c : UInt8) : List ByteArray := (splitL c s.data.toList).map fun l => ⟨l.toArray⟩
theorem ws_len {s : ByteArray} {c : UInt8} {t : ByteArray} (h : t ∈ wsOf s c) : t.size ≤ s.size := by
  obtain ⟨l, hl, rfl⟩ := List.mem_map.1 h
  have := split_len c _ _ hl
  show l.length ≤ _
  have h2 : s.data.toList.length = s.size := by simp
  omega
theorem ws_rd {s : ByteArray} {n d : Int} (h : RdOk s n d) : (d = 1 ∧ wsOf s 47 = [⟨(Lib.itoa n).toArray⟩]) ∨ (wsOf s 47 = [⟨(Lib.itoa n).toArray⟩, ⟨(Lib.itoa d).toArray⟩]) := by
  unfold wsOf
  rcases rd_split h with ⟨h1, h2⟩ | ⟨h1, h2⟩
  · left; refine ⟨h1, ?_⟩; rw [h2, split_no (no47 n)]; rfl
  · right; rw [h2, split_at _ (no47 n), split_no (no47 d)]; rfl
theorem cut_at (s : ByteArray) (c : UInt8) (w : World) (hs : s.size ≤ 1048576) :
    Calls Tryd.prog 9 #[.string s, .int .u8 c.toNat] w (NewWs w (wsOf s c)) := by
  have := cut_any s c.toNat w hs
  rw [cut_texts] at this
  exact this
/-- an owned row of texts, cell for cell -/
theorem ws_cells {w w' : World} {ws : List ByteArray} {t0 : ByteArray} {e : Ending} (h : NewWs w (t0 :: ws) e w') : ∃ g cap, e = .returned (.slice (some ⟨g, 0, none⟩) (ws.length + 1) cap) ∧ w.heap.size ≤ g ∧ g < w'.heap.size ∧ (∀ j t, (t0 :: ws)[j]? = some t → w'.cell? ⟨g, j, none⟩ = some (.string t)) ∧ Below w.heap.size w w' := by
  obtain ⟨v, rfl, hO, hb⟩ := h
  have h0 := hO
  obtain ⟨hl, h | ⟨g, cap, cur, rfl, hg, hh, h1, h2, h3, h4⟩⟩ := hO
  · simp at h
  · have hc : ∀ j t, (t0 :: ws)[j]? = some t → w'.cell? ⟨g, j, none⟩ = some (.string t) := fun j t hj => by
      have hlt : j < (t0 :: ws).length := (List.getElem?_eq_some_iff.1 hj).1
      have hx := h0.cellAt j (by simpa using hlt)
      refine hx.trans ?_
      rw [List.getElem?_map, hj]; rfl
    exact ⟨g, cap, rfl, hg, cell_lt (hc 0 t0 rfl), hc, hb⟩
theorem strs_eq (a b : ByteArray) : (a.toList == b.toList) = decide (a = b) := by
  rw [Bool.eq_iff_iff]
  simp only [beq_iff_eq, decide_eq_true_eq]
  constructor
  · intro h; rw [ByteArray.toList_eq, ByteArray.toList_eq] at h; exact ba_ext h
  · rintro rfl; rfl
theorem rdp_of {s : ByteArray} {n d : Int} {e : Ending} (hF : ∀ n' d', RdOk s n' d' → n = n' ∧ d = d')
    (h : (RdOk s n d → e = .returned (.tuple #[.agg #[.int .i64 n, .int .i64 d], .bool true])) ∧ (¬ RdOk s n d → e = .returned (.tuple #[.agg #[.int .i64 0, .int .i64 0], .bool false]))) : RdP s e := by
  by_cases hk : RdOk s n d
  · exact .inl ⟨n, d, hk, h.1 hk⟩
  · refine .inr ⟨fun n' d' h' => ?_, h.2 hk⟩
    obtain ⟨rfl, rfl⟩ := hF n' d' h'
    exact hk h'
end Go.Proofs.YtcnlolocppbcjaaDoor
