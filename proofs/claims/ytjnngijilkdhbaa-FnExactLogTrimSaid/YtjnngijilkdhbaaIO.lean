/- What the program says of itself, as a list of signs; the facts that hang on it. -/
import Derived.Test.YtjnngijilkdhbaaChecked
import Derived.JoinedOf
import Derived.KernelRfl
namespace Go.Proofs.Ytjnngijilkdhbaa
def chs (l : List Nat) : List Char := l.map Char.ofNat
theorem words_app (w r : List Char) (h : ∀ c ∈ w, c ≠ Char.ofNat 32) : wordsSigns (w ++ Char.ofNat 32 :: r) = w :: wordsSigns r := by
  induction w with
  | nil => rfl
  | cons c w ih =>
    have hc := h c (by simp)
    have ih' := ih (fun c' hc' => h c' (by simp [hc']))
    show wordsSigns (c :: (w ++ Char.ofNat 32 :: r)) = _
    rw [wordsSigns.eq_3 _ _ (fun e => hc e), ih']
def io1 : List Nat := [104, 97, 114, 110, 101, 115, 115]
def io2 : List Nat := [54, 49, 97, 98, 98, 98, 102, 100, 98, 52, 51, 48, 49, 51, 98, 100, 51, 100, 99, 100, 57, 53, 56, 52, 101, 54, 54, 54, 54, 48, 102, 98, 52, 99, 48, 51, 54, 98, 97, 100, 98, 99, 53, 97, 48, 51, 99, 53, 100, 57, 49, 48, 101, 50, 98, 52, 51, 54, 50, 54, 49, 97, 97, 54]
def io3 : List Nat := [99, 117, 116]
def ioR : List Nat := [97, 116, 32, 108, 111, 111, 112, 46, 101, 120, 97, 109, 112, 108, 101, 47, 99, 111, 109, 112, 117, 114, 103, 97, 116, 111, 114, 47, 108, 97, 119, 115, 46, 70, 110, 69, 120, 97, 99, 116, 76, 111, 103, 69, 110, 100, 115, 32, 108, 111, 111, 112, 46, 101, 120, 97, 109, 112, 108, 101, 47, 99, 111, 109, 112, 117, 114, 103, 97, 116, 111, 114, 47, 108, 97, 119, 115, 46, 70, 110, 69, 120, 97, 99, 116, 76, 111, 103, 79, 107, 32, 108, 111, 111, 112, 46, 101, 120, 97, 109, 112, 108, 101, 47, 99, 111, 109, 112, 117, 114, 103, 97, 116, 111, 114, 47, 108, 97, 119, 115, 46, 70, 110, 69, 120, 97, 99, 116, 76, 111, 103, 84, 114, 105, 109, 32, 108, 111, 111, 112, 46, 101, 120, 97, 109, 112, 108, 101, 47, 99, 111, 109, 112, 117, 114, 103, 97, 116, 111, 114, 47, 108, 97, 119, 115, 46, 70, 110, 69, 120, 97, 99, 116, 67, 110, 102, 85, 110, 105, 116, 115, 32, 108, 111, 111, 112, 46, 101, 120, 97, 109, 112, 108, 101, 47, 99, 111, 109, 112, 117, 114, 103, 97, 116, 111, 114, 47, 108, 97, 119, 115, 46, 70, 110, 69, 120, 97, 99, 116, 67, 110, 102, 82, 117, 112]
theorem io_list : Try.prog.initOrder = String.ofList (chs io1 ++ Char.ofNat 32 :: (chs io2 ++ Char.ofNat 32 :: (chs io3 ++ Char.ofNat 32 :: chs ioR))) := by kernel_rfl
theorem no_space {l : List Nat} (h : l.all (fun n => (Char.ofNat n).toNat != 32) = true) : ∀ c ∈ chs l, c ≠ Char.ofNat 32 := by
  intro c hc e
  obtain ⟨n, hn, rfl⟩ := List.mem_map.1 hc
  have := List.all_eq_true.1 h n hn
  rw [e] at this
  simp at this
theorem io_words : ∃ rest, wordsSigns Try.prog.initOrder.toList = chs io1 :: chs io2 :: chs io3 :: rest :=
  ⟨_, by rw [io_list, String.toList_ofList, words_app _ _ (no_space (by kernel_rfl)), words_app _ _ (no_space (by kernel_rfl)), words_app _ _ (no_space (by kernel_rfl))]⟩
theorem p_laid : laidOutB Try.prog = true := by kernel_rfl
theorem p_rowed : mapsRowed Try.prog = true := by kernel_rfl
theorem p_stops : (Try.prog.stops == []) = true := by kernel_rfl
theorem p_knobs : (Try.prog.stopKnobs == []) = true := by kernel_rfl
theorem p_heard : Try.prog.stopsHeard = true := by kernel_rfl
theorem make_of {P : Program} {a b c : List Char} {r : List (List Char)} (h : wordsSigns P.initOrder.toList = a :: b :: c :: r) (hb : behindMainWord (a :: b :: c :: r) = c :: r) (h1 : (c == "gc".toList || c == "spec".toList) = false) (h2 : (c == "cut".toList) = true) : P.make = some .cut := by
  unfold Program.make
  rw [h, hb]
  show (if (c == "gc".toList || c == "spec".toList) = true then some Make.whole else _) = _
  rw [h1, if_neg (by decide), h2]
  rfl
theorem enter_of {P : Program} {a b c : List Char} {r : List (List Char)} (h : wordsSigns P.initOrder.toList = a :: b :: c :: r) (hb : behindMainWord (a :: b :: c :: r) = c :: r)
    (h1 : P.laysLater = false) (h2 : P.bearsReflect = false) (h3 : P.doorRows = []) (h4 : stripLifts liftWords (c :: r) = ([], c :: r)) (h5 : (some c == some "cut".toList) = true) : P.mayEnter = true := by
  unfold Program.mayEnter Program.doorFits
  rw [h, hb]
  simp only [h1, h2, h3, h4, List.head?_cons, h5]
  simp
theorem io_behind (r : List (List Char)) : behindMainWord (chs io1 :: chs io2 :: chs io3 :: r) = chs io3 :: r := by kernel_rfl
theorem io_q1 : (chs io3 == "gc".toList || chs io3 == "spec".toList) = false := by kernel_rfl
theorem io_q2 : (chs io3 == "cut".toList) = true := by kernel_rfl
theorem io_q3 : (some (chs io3) == some "cut".toList) = true := by kernel_rfl
theorem io_strip (r : List (List Char)) : stripLifts liftWords (chs io3 :: r) = ([], chs io3 :: r) := by kernel_rfl
theorem p_make : Try.prog.make = some .cut := by
  obtain ⟨r, h⟩ := io_words
  exact make_of h (io_behind r) io_q1 io_q2
theorem p_lifts : Try.prog.liftsFinal = false := by
  unfold Program.liftsFinal Program.headLifts
  obtain ⟨r, h⟩ := io_words
  rw [h]
  kernel_rfl
theorem p_later : Try.prog.laysLater = false := by kernel_rfl
theorem p_bears : Try.prog.bearsReflect = false := by kernel_rfl
theorem p_rows : Try.prog.doorRows = [] := by kernel_rfl
theorem p_enter : Try.prog.mayEnter = true := by
  obtain ⟨r, h⟩ := io_words
  exact enter_of h (io_behind r) p_later p_bears p_rows (io_strip r) io_q3
end Go.Proofs.Ytjnngijilkdhbaa
