/- Contracts of Open and of the draws of one and two fractions. -/
import Derived.Test.YtbdmofmoegmigaaDrawC
namespace Go.Proofs.Ytbdmofmoegmigaa
set_option linter.unusedVariables false
set_option linter.unusedSimpArgs false
open Go.RowKit
def OpenPost (B : Nat) (w : World) (e : Ending) (w' : World) : Prop :=
  ∃ g : Nat, e = .returned (.pointer (some ⟨g, 0, none⟩)) ∧ Below w.heap.size w w' ∧ RD B w' g 0 ∧ w.heap.size ≤ g
theorem open_post {B : Nat} {w w' : World} {e : Ending} (g : Nat) (h1 : e = .returned (.pointer (some ⟨g, 0, none⟩))) (h2 : Below w.heap.size w w') (h3 : RD B w' g 0) (h4 : w.heap.size ≤ g) : OpenPost B w e w' := ⟨g, h1, h2, h3, h4⟩
theorem rd_new {B : Nat} {w : World} {a : Option Addr} {len cap : Nat} (hB : B ≤ w.heap.size) (hl : len ≤ 2000) (hby : Bytes B w a len) (t : TypeId) :
    RD B (w.alloc (.cells #[.slice a len cap, .int .i64 0] t)) w.heap.size 0 :=
  ⟨a, len, cap, hB, by simp [go_sem], by simp [go_sem], by simp [go_sem], hl, hby.mono fun b o v hb hc => carryA _ hc⟩
theorem open_any (B : Nat) (w : World) (a : Option Addr) (len cap : Nat) (hB : B ≤ w.heap.size) (hby : Bytes B w a len) (hlc : len ≤ cap) (hc : cap ≤ 9223372036854775807) :
    Calls Try.prog 82 #[.slice a len cap] w (OpenPost B w) := by
  by_cases h : 2000 < len
  · rcases hby with h0 | ⟨b, off, zs, rfl, hb, hz, hcell⟩
    · omega
    have hN := rd_new (cap := cap) hB (Nat.le_refl 2000) (.inr ⟨b, off, zs, rfl, hb, hz, fun k hk => hcell k (by omega)⟩) 136
    clear hcell
    go_enter Try.func82, Try.ntmps82
    go_wp2
    go_ret
    exact open_post w.heap.size rfl (bal (Below.refl _ _) _) hN (Nat.le_refl _)
  · have hN := rd_new (cap := cap) hB (show len ≤ 2000 by omega) hby 136
    go_enter Try.func82, Try.ntmps82
    go_wp2
    go_ret
    exact open_post w.heap.size rfl (bal (Below.refl _ _) _) hN (Nat.le_refl _)

def OnePost (w : World) (e : Ending) (w' : World) : Prop := ∃ x y : Int, e = .returned (.agg #[.int .i64 x, .int .i64 y]) ∧ Below w.heap.size w w'
theorem one_post {w w' : World} {e : Ending} (x y : Int) (h1 : e = .returned (.agg #[.int .i64 x, .int .i64 y])) (h2 : Below w.heap.size w w') : OnePost w e w' := ⟨x, y, h1, h2⟩
def IntsPost (w : World) (e : Ending) (w' : World) : Prop := ∃ x y : Int, e = .returned (.tuple #[.int .i64 x, .int .i64 y]) ∧ Below w.heap.size w w'
theorem ints_post {w w' : World} {e : Ending} (x y : Int) (h1 : e = .returned (.tuple #[.int .i64 x, .int .i64 y])) (h2 : Below w.heap.size w w') : IntsPost w e w' := ⟨x, y, h1, h2⟩
def TwoPost (w : World) (e : Ending) (w' : World) : Prop := ∃ x y u v : Int, e = .returned (.tuple #[.agg #[.int .i64 x, .int .i64 y], .agg #[.int .i64 u, .int .i64 v]]) ∧ Below w.heap.size w w'
theorem two_post {w w' : World} {e : Ending} (x y u v : Int) (h1 : e = .returned (.tuple #[.agg #[.int .i64 x, .int .i64 y], .agg #[.int .i64 u, .int .i64 v]])) (h2 : Below w.heap.size w w') : TwoPost w e w' := ⟨x, y, u, v, h1, h2⟩
theorem Bytes.alloc {B : Nat} {w : World} {a : Option Addr} {len : Nat} (h : Bytes B w a len) (o : Obj) : Bytes B (w.alloc o) a len := h.mono fun _ _ _ _ hc => carryA o hc

/-- two fractions are drawn: the first stands in block A, the results' blocks are there -/
def ST (B : Nat) (w : World) (g A : Nat) (x y : Value) (w' : World) : Prop :=
  w'.cell? ⟨A, 0, none⟩ = some x ∧ w'.cell? ⟨A, 1, none⟩ = some y ∧
  w'.cell? ⟨w.heap.size, 0, none⟩ = some (rd w' w.heap.size 0) ∧ w'.cell? ⟨w.heap.size, 1, none⟩ = some (rd w' w.heap.size 1) ∧ w'.frozen? ⟨w.heap.size, 0, none⟩ = false ∧ w'.frozen? ⟨w.heap.size, 1, none⟩ = false ∧
  w'.cell? ⟨w.heap.size + 1, 0, none⟩ = some (rd w' (w.heap.size + 1) 0) ∧ w'.cell? ⟨w.heap.size + 1, 1, none⟩ = some (rd w' (w.heap.size + 1) 1) ∧ w'.frozen? ⟨w.heap.size + 1, 0, none⟩ = false ∧ w'.frozen? ⟨w.heap.size + 1, 1, none⟩ = false ∧
  Below w.heap.size w w' ∧ ∃ q, RD B w' g q ∧ q ≤ 40
theorem ST.mk' {B : Nat} {w : World} {g A : Nat} {x y u v s t : Value} {w' : World} {q : Nat} (ha : w'.cell? ⟨A, 0, none⟩ = some x ∧ w'.cell? ⟨A, 1, none⟩ = some y ∧ w'.frozen? ⟨A, 0, none⟩ = false ∧ w'.frozen? ⟨A, 1, none⟩ = false)
    (h1 : w'.cell? ⟨w.heap.size, 0, none⟩ = some u ∧ w'.cell? ⟨w.heap.size, 1, none⟩ = some v ∧ w'.frozen? ⟨w.heap.size, 0, none⟩ = false ∧ w'.frozen? ⟨w.heap.size, 1, none⟩ = false)
    (h2 : w'.cell? ⟨w.heap.size + 1, 0, none⟩ = some s ∧ w'.cell? ⟨w.heap.size + 1, 1, none⟩ = some t ∧ w'.frozen? ⟨w.heap.size + 1, 0, none⟩ = false ∧ w'.frozen? ⟨w.heap.size + 1, 1, none⟩ = false)
    (hb : Below w.heap.size w w') (hR : RD B w' g q) (hq : q ≤ 40) : ST B w g A x y w' :=
  ⟨ha.1, ha.2.1, rd_some (by rw [h1.1]; rfl), rd_some (by rw [h1.2.1]; rfl), h1.2.2.1, h1.2.2.2, rd_some (by rw [h2.1]; rfl), rd_some (by rw [h2.2.1]; rfl), h2.2.2.1, h2.2.2.2, hb, q, hR, hq⟩
end Go.Proofs.Ytbdmofmoegmigaa
