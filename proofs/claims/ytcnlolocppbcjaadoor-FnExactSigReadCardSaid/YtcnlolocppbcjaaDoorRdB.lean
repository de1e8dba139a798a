/- Contract of the program's RatRead. -/
import Derived.Test.YtcnlolocppbcjaaDoorRdA
import Derived.Test.YtcnlolocppbcjaaDoorText
namespace Go.Proofs.YtcnlolocppbcjaaDoor
set_option linter.unusedVariables false
set_option linter.unusedSimpArgs false
open Go.Shelf Go.RowKit Go.Joins
/-- the cell of the variable g holds an error -/
def ErrAt (w : World) (g : Nat) : Prop := ∃ u v, w.cell? ⟨g, 0, none⟩ = some (.iface u v)
def MaxAt (w : World) : Prop := ∃ m, w.cell? ⟨0, 0, none⟩ = some (.int .i64 m)
theorem ErrAt.below {w w' : World} {g : Nat} (h : ErrAt w g) (hb : Below w.heap.size w w') : ErrAt w' g := by
  obtain ⟨u, v, h⟩ := h; exact ⟨u, v, carry hb h⟩
theorem MaxAt.below {w w' : World} (h : MaxAt w) (hb : Below w.heap.size w w') : MaxAt w' := by
  obtain ⟨u, h⟩ := h; exact ⟨u, carry hb h⟩
theorem below_drewN (w : World) (n : Nat) : Below w.heap.size w (w.drewN n) := ⟨rfl, rfl, rfl, Nat.le_refl _, fun _ _ => rfl⟩
theorem strcut_at (s : ByteArray) (c : UInt8) (w : World) (hs : s.size ≤ 1048576) (hm : MaxAt w) :
    Calls Tryd.prog 13 #[.string s, .string ⟨#[c]⟩] w fun e w' => e = .returned (.tuple #[.string ⟨(Lib.cut s.data.toList [c]).1.toArray⟩, .string ⟨(Lib.cut s.data.toList [c]).2.1.toArray⟩, .bool (Lib.cut s.data.toList [c]).2.2]) ∧ Below w.heap.size w w' := by
  obtain ⟨m, hm⟩ := hm
  refine (Tryd.strings_Cut s ⟨#[c]⟩ m w (by omega) hm).mono ?_
  rintro e w' ⟨rfl, n, rfl⟩
  exact ⟨rfl, below_drewN w n⟩
theorem atoi_ok {s : ByteArray} {v : Int} (hs : s.size ≤ 1048576) (h : Lib.atoiAll s.data.toList = .ok v) (w : World) :
    Calls Tryd.prog 25 #[.string s] w fun e w' => e = .returned (.tuple #[.int .i64 v, .nilIface]) ∧ Below w.heap.size w w' := by
  refine (Tryd.strconv_Atoi_ok s (by omega) v h w).mono ?_
  rintro e w' ⟨rfl, rfl | ⟨t, rfl⟩⟩
  · exact ⟨rfl, Below.refl _ _⟩
  · exact ⟨rfl, Lib.bytesWorld_below _ _ _⟩
theorem atoi_no {s : ByteArray} (hs : s.size ≤ 1048576) (h : ∀ v, Lib.atoiAll s.data.toList ≠ .ok v) (w : World) (h1 : ErrAt w 1) (h2 : ErrAt w 2) :
    Calls Tryd.prog 25 #[.string s] w fun e w' => (∃ v T y, e = .returned (.tuple #[.int .i64 v, .iface T y])) ∧ Below w.heap.size w w' := by
  obtain ⟨u1, x1, h1⟩ := h1
  obtain ⟨u2, x2, h2⟩ := h2
  rcases ha : Lib.atoiAll s.data.toList with v | _ | _
  · exact absurd ha (h v)
  · refine (Tryd.strconv_Atoi_syntax s (by omega) ha _ w h1 (.inr ⟨_, _, rfl⟩)).mono ?_
    rintro e w' ⟨N, rfl, _, _, hb⟩
    exact ⟨⟨_, _, _, rfl⟩, hb⟩
  · refine (Tryd.strconv_Atoi_range s (by omega) ha _ w h2 (.inr ⟨_, _, rfl⟩)).mono ?_
    rintro e w' ⟨N, rfl, _, _, hb⟩
    exact ⟨⟨_, _, _, rfl⟩, hb⟩
theorem cut_size (l : List UInt8) (c : UInt8) : (Lib.cut l [c]).1.length ≤ l.length ∧ (Lib.cut l [c]).2.1.length ≤ l.length := by
  unfold Lib.cut
  split
  · exact ⟨by simp <;> omega, by simp <;> omega⟩
  · simp
/-- what Atoi reads below the fraction line -/
def lowOf (s : ByteArray) : List UInt8 := if (Lib.cut s.data.toList [47]).2.2 = true then (Lib.cut s.data.toList [47]).2.1 else [49]
theorem atoi_one : Lib.atoiAll [49] = .ok 1 := by decide
theorem rd_cut {s : ByteArray} {n d : Int} (h : RdOk s n d) : Lib.atoiAll (Lib.cut s.data.toList [47]).1 = .ok n ∧ Lib.atoiAll (lowOf s) = .ok d := by
  have hb := ok_b h.1
  unfold lowOf
  rcases rd_split h with ⟨h1, h2⟩ | ⟨h1, h2⟩
  · rw [h2, cut_none (no47 n)]
    exact ⟨atoi_itoa n (by omega), by rw [if_neg (by simp), h1]; exact atoi_one⟩
  · rw [h2, cut_one (no47 n)]
    exact ⟨atoi_itoa n (by omega), by rw [if_pos rfl]; exact atoi_itoa d (by omega)⟩
theorem rd_from {s : ByteArray} {n d : Int} (h1 : Lib.atoiAll (Lib.cut s.data.toList [47]).1 = .ok n) (h : s = ⟨(ratTxt n d).toArray⟩) : RdOk s n d := by
  refine ⟨?_, h⟩
  cases hv : okB n d
  · have : s.data.toList = [] := by rw [h, bytes_list]; unfold ratTxt; rw [if_neg (by simp [hv])]
    rw [this, cut_none (by simp)] at h1
    cases h1
  · rfl
end Go.Proofs.YtcnlolocppbcjaaDoor
