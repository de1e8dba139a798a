/- The symbol of a name: contracts of the program's find and of the model's l4Find. -/
import Derived.Test.YtmeglflbjedndaaFindA
namespace Go.Proofs.Ytmeglflbjedndaa
set_option linter.unusedVariables false
set_option linter.unusedSimpArgs false
open Go.RowKit
/-- a symbol and whether there is one, handed back -/
def FndP (w0 : World) (n : Nat) (L : Sy) (x : ByteArray) (w : World) (e : Ending) (w' : World) : Prop :=
  Below w.heap.size w w' ∧ ((∃ k, fnd L.Nm x n = k ∧ k < n ∧ ∃ a c, e = .returned (.tuple #[.agg #[.string (L.Nm k), .slice a (L.N k) c, .int .i64 (L.S k)], .bool true]) ∧ L.N k ≤ 9223372036854775807 ∧ Ints w0 a (L.N k) (L.Z k)) ∨
    (fnd L.Nm x n = n ∧ e = .returned (.tuple #[.agg #[.string ⟨#[]⟩, .slice none 0 0, .int .i64 0], .bool false])))
theorem bst3 {a w : World} {b : Nat} (h : Below a.heap.size a w) (hb : a.heap.size ≤ b) (x0 x1 x2 : Value) : Below a.heap.size a (((w.setCell ⟨b, 0, none⟩ x0).setCell ⟨b, 1, none⟩ x1).setCell ⟨b, 2, none⟩ x2) :=
  bst (bst (bst h hb x0) hb x1) hb x2
set_option maxRecDepth 100000 in
set_option maxHeartbeats 2000000 in
theorem lfind_any (A : Option Addr) (n c : Nat) (L : Sy) (x : ByteArray) (w0 w : World) (hn : n ≤ 1048576) (hA : Syms w0 A n L) (h0 : Below w0.heap.size w0 w) :
    Calls Try.prog 84 #[.agg #[.slice A n c], .string x] w (FndP w0 n L x w) := by
  have q0 := bal (bal (Below.refl w.heap.size w) (.cells #[.slice A n c] 39)) (.cells #[.string ⟨#[]⟩, .slice none 0 0, .int .i64 0] 105)
  obtain ⟨e0, e1, e2⟩ := new3 (w.alloc (.cells #[.slice A n c] 39)) (.string ⟨#[]⟩) (.slice none 0 0) (.int .i64 0) 105
  rw [show (w.alloc (.cells #[.slice A n c] 39)).heap.size = w.heap.size + 1 by simp] at e0 e1 e2
  go_enter Try.func84, Try.ntmps84
  go_wp2
  go_loopw [6] (fun i wr => ∃ k : Nat, k ≤ n ∧ i = .int .i64 k ∧ wr = (w.alloc (.cells #[.slice A n c] 39)).alloc (.cells #[.string ⟨#[]⟩, .slice none 0 0, .int .i64 0] 105) ∧ ∀ j, j < k → (L.Nm j).toList ≠ x.toList) (fun i _ => n - (intOf i).toNat)
  case atStart => exact ⟨0, Nat.zero_le _, rfl, rfl, fun j hj => by omega⟩
  case round =>
    obtain ⟨k, hk, rfl, rfl, he⟩ := hrel
    have HE := hid he; clear he
    by_cases hlt : k < n
    · rcases hA with hz | ⟨g, off, rfl, hg, hcA⟩
      · omega
      obtain ⟨a, ca, a0, a1, a2, _, hNk, hI⟩ := hcA k hlt
      have gg : g < w.heap.size := Nat.lt_of_lt_of_le hg h0.size
      replace a0 := carry q0 (carry h0 a0)
      replace a1 := carry q0 (carry h0 a1)
      replace a2 := carry q0 (carry h0 a2)
      clear hcA
      cases hs : ((L.Nm k).toList == x.toList)
      · have HN := hid (show (L.Nm k).toList ≠ x.toList by simpa using hs)
        clear hI e0 e1 e2
        go_wp2
        go_roundw
        case rel =>
          refine ⟨k + 1, by omega, by go_num, by trivial, fun j hj => ?_⟩
          by_cases e : j = k
          · subst e; exact HN.out
          · exact HE.out j (by omega)
        case measure => simp [intOf]; omega
      · have HK := hid (fnd_of hlt (show (L.Nm k).toList = x.toList by simpa using hs) HE.out)
        go_wp2
        obtain ⟨t0, t1, t2⟩ := new3 (w.alloc (.cells #[.slice (some ⟨g, off, none⟩) n c] 39)) (.string (L.Nm k)) (.slice a (L.N k) ca) (.int .i64 (L.S k)) 105
        rw [show (w.alloc (.cells #[.slice (some ⟨g, off, none⟩) n c] 39)).heap.size = w.heap.size + 1 by simp] at t0 t1 t2
        have hq := bal (bal (Below.refl w.heap.size w) (.cells #[.slice (some ⟨g, off, none⟩) n c] 39)) (.cells #[.string (L.Nm k), .slice a (L.N k) ca, .int .i64 (L.S k)] 105)
        exact bodyPost_ret (v := .tuple #[.agg #[.string (L.Nm k), .slice a (L.N k) ca, .int .i64 (L.S k)], .bool true]) (by simp [results, Try.results84, go_sem, t0, t1, t2]) rfl ⟨hq, .inl ⟨k, HK.out, hlt, a, ca, rfl, hNk, hI⟩⟩
    · have HK := hid (fnd_none (n := n) (fun j hj => HE.out j (by omega)))
      have d1 : decide ((k : Int) < (n : Int)) = false := by simp; omega
      go_wp2
      exact bodyPost_ret (v := .tuple #[.agg #[.string ⟨#[]⟩, .slice none 0 0, .int .i64 0], .bool false]) (by simp [results, Try.results84, go_sem, e0, e1, e2]) rfl ⟨q0, .inr ⟨HK.out, rfl⟩⟩
set_option maxRecDepth 100000 in
set_option maxHeartbeats 2000000 in
theorem find_any (A : Option Addr) (n c : Nat) (L : Sy) (x : ByteArray) (w0 w : World) (hn : n ≤ 1048576) (hA : Syms w0 A n L) (h0 : Below w0.heap.size w0 w) (hs : ascB n L.Nm = true) :
    Calls Try.prog 156 #[.agg #[.slice A n c, .func (.func 186) #[] #[]], .string x] w (FndP w0 n L x w) := by
  have hmf : ∀ (fn : Fn) (first cap : Array Value) (w : World), (Instr.makeFunc fn first cap).run Try.prog w = .ok (.func fn first cap) w := fun _ _ _ _ => rfl
  obtain ⟨b0, b1⟩ := pair_new w (.slice A n c) (.func (.func 186) #[] #[]) 220
  have q0 := bal (bal (Below.refl w.heap.size w) (.cells #[.slice A n c, .func (.func 186) #[] #[]] 220)) (.cells #[.string ⟨#[]⟩, .slice none 0 0, .int .i64 0] 105)
  have hB := fun W (hb : Below w.heap.size w W) h1 => bsf_any A n c L x w.heap.size W hn ((hA.below h0).below hb) hs h1
  have b1' := carryA (.cells #[.string ⟨#[]⟩, .slice none 0 0, .int .i64 0] 105) b1
  clear hs
  go_enter Try.func156, Try.ntmps156
  go_wp2_with fail
  refine (hB _ q0 b1').mono ?_
  rintro e w1 ⟨i, hi, rfl, hf, hq⟩
  clear hB
  obtain ⟨hc, hfz⟩ := bcell hq
  have hq2 := btr q0 hq
  have c0 := carry hq (carryA (.cells #[.string ⟨#[]⟩, .slice none 0 0, .int .i64 0] 105) b0)
  have e0 : w1.cell? ⟨w.heap.size + 1, 0, none⟩ = some (.string ⟨#[]⟩) := by rw [hc _ _ (by simp <;> omega)]; simp [go_sem]
  have e1 : w1.cell? ⟨w.heap.size + 1, 1, none⟩ = some (.slice none 0 0) := by rw [hc _ _ (by simp <;> omega)]; simp [go_sem]
  have e2 : w1.cell? ⟨w.heap.size + 1, 2, none⟩ = some (.int .i64 0) := by rw [hc _ _ (by simp <;> omega)]; simp [go_sem]
  by_cases hlt : fnd L.Nm x n < n
  · have hie := hf hlt
    rw [decide_eq_true hlt]
    rcases hA with hz | ⟨g, off, rfl, hg, hcA⟩
    · omega
    obtain ⟨a, ca, a0, a1, a2, _, hNk, hI⟩ := hcA i (by omega)
    have gg : g < w.heap.size := Nat.lt_of_lt_of_le hg h0.size
    have hin : i < n := by omega
    replace a0 := carry hq2 (carry h0 a0)
    replace a1 := carry hq2 (carry h0 a1)
    replace a2 := carry hq2 (carry h0 a2)
    have HK := hid hie
    clear hcA hie hf hlt b0 b1 b1'
    go_wp2
    obtain ⟨t0, t1, t2⟩ := set3 e0 e1 e2 (.string (L.Nm i)) (.slice a (L.N i) ca) (.int .i64 (L.S i))
    have hq3 := bst3 hq2 (show w.heap.size ≤ w.heap.size + 1 by omega) (.string (L.Nm i)) (.slice a (L.N i) ca) (.int .i64 (L.S i))
    exact bodyPost_ret (v := .tuple #[.agg #[.string (L.Nm i), .slice a (L.N i) ca, .int .i64 (L.S i)], .bool true]) (by simp [results, Try.results156, go_sem, t0, t1, t2]) rfl ⟨hq3, .inl ⟨i, HK.out.symm, hin, a, ca, rfl, hNk, hI⟩⟩
  · have HK := hid (show fnd L.Nm x n = n from Nat.le_antisymm (fnd_spec L.Nm x n).1 (by omega))
    rw [decide_eq_false hlt]
    have hl1 : w.heap.size + 1 < w1.heap.size := cell_lt e0
    have hl0 : w.heap.size + 1 ≠ w1.heap.size := by omega
    clear hf hlt b0 b1 b1'
    go_wp2
    obtain ⟨t0', t1', t2'⟩ := set3 e0 e1 e2 (.string ⟨#[]⟩) (.slice none 0 0) (.int .i64 0)
    have t0 := carryA (.cells #[.string ⟨#[]⟩, .slice none 0 0, .int .i64 0] 105) t0'
    have t1 := carryA (.cells #[.string ⟨#[]⟩, .slice none 0 0, .int .i64 0] 105) t1'
    have t2 := carryA (.cells #[.string ⟨#[]⟩, .slice none 0 0, .int .i64 0] 105) t2'
    have hq3 := bal (bst3 hq2 (show w.heap.size ≤ w.heap.size + 1 by omega) (.string ⟨#[]⟩) (.slice none 0 0) (.int .i64 0)) (.cells #[.string ⟨#[]⟩, .slice none 0 0, .int .i64 0] 105)
    exact bodyPost_ret (v := .tuple #[.agg #[.string ⟨#[]⟩, .slice none 0 0, .int .i64 0], .bool false]) (by simp [results, Try.results156, go_sem, t0, t1, t2]) rfl ⟨hq3, .inr ⟨HK.out, rfl⟩⟩
end Go.Proofs.Ytmeglflbjedndaa
