/- Several texts in one: LtF, LnA, LnB, LnC, LnX. -/
import Derived.Test.YtanfljajafelgaaBH
import Derived.Test.YtanfljajafelgaaStab
namespace Go.Proofs.Ytanfljajafelgaa
set_option linter.unusedVariables false
set_option linter.unusedSimpArgs false
open Go.RowKit
theorem SepT.chainS {u C : World} {ab lo hi : Nat} {t : Tm} {A : Option Addr} (hd : ab < lo ∨ hi ≤ ab) (hblk : ∀ x, x ≠ ab → C.heap[x]? = u.heap[x]?) (h : SepT u t lo hi A) : SepT C t lo hi A :=
  h.keep fun g cs h1 h2 hg => (hblk g (by omega)).trans hg
theorem SepT.frameS {u C : World} {ab lo hi : Nat} {t : Tm} {A : Option Addr} (hd : ab < lo ∨ hi ≤ ab) (hblk : ∀ x, x < u.heap.size → x ≠ ab → C.heap[x]? = u.heap[x]?) (h : SepT u t lo hi A) : SepT C t lo hi A :=
  h.keep fun g cs h1 h2 hg => (hblk g (Array.getElem?_eq_some_iff.1 hg).1 (by omega)).trans hg
theorem own_intsB {w : World} {base : Nat} {v : Value} {X : List Ad} (h : w.ownsRow base 3 1 v X.length ((zlD X).take X.length)) : ∃ A c, v = .slice A X.length c ∧ X.length ≤ c ∧ c ≤ 9223372036854775807 ∧ OwnB base w.heap.size w A X.length (fun k => (X.getD k default).z) := by
  obtain ⟨hl, ⟨rfl, h0⟩ | ⟨g, cap, cur, rfl, hg, hh, h1, h2, h3, h4⟩⟩ := h
  · exact ⟨none, 0, by rw [h0], by omega, by omega, .inl h0⟩
  · have hlt := (Array.getElem?_eq_some_iff.1 hh).1
    refine ⟨_, cap, rfl, h1, by unfold maxLen at h2; omega, .inr ⟨g, rfl, hg, hlt, hlt, fun k hk => ⟨?_, by simp [World.frozen?, hh]⟩⟩⟩
    have e := zlD_at hk
    have e2 : ((zlD X).take X.length)[k]? = (zlD X)[k]? := List.getElem?_take_of_lt hk
    rw [← e2, ← h4, List.getElem?_take_of_lt (by omega), Array.getElem?_toList] at e
    simp [World.cell?, hh, e]
/-- an equality's atom in new memory -/
def EqAtomS (w : World) (a b : Tm) (e : Ending) (w' : World) : Prop :=
  ∃ B1 d1 B2 d2, e = .returned (.agg ((atAB a b).cs B1 d1 B2 d2 none 0 none 0)) ∧ LtS w' (atAB a b) w.heap.size w'.heap.size B1 B2 none none ∧ (a.n ≤ d1 ∧ d1 ≤ 9223372036854775807 ∧ b.n ≤ d2 ∧ d2 ≤ 9223372036854775807) ∧ Below w.heap.size w w'
/-- an inequality's atom in new memory -/
def IneqAtomS (w : World) (X : List Ad) (bd : Int) (st : Bool) (e : Ending) (w' : World) : Prop :=
  ∃ g3 d3 B4 d4, e = .returned (.agg ((atSum X bd st).cs none 0 none 0 (some ⟨g3, 0, none⟩) d3 B4 d4)) ∧ LtS w' (atSum X bd st) w.heap.size w'.heap.size none none (some ⟨g3, 0, none⟩) B4 ∧ X.length ≤ d3 ∧ d3 ≤ 9223372036854775807 ∧ X.length ≤ d4 ∧ d4 ≤ 9223372036854775807 ∧ Below w.heap.size w w'
set_option maxRecDepth 100000 in
set_option maxHeartbeats 8000000 in
theorem eqatom_S (a b : Tm) (hFa : Fits 1048576 a) (hFb : Fits 1048576 b) (A1 : Option Addr) (c1 : Nat) (A2 : Option Addr) (c2 : Nat) (w : World) (h1 : Kids 0 w a A1) (h2 : Kids 0 w b A2) :
    Calls Try.prog 302 #[eqV a b A1 c1 A2 c2] w (EqAtomS w a b) := by
  have C1 := hid (fun W (h : Below w.heap.size w W) => eqterms_any a b hFa hFb A1 c1 A2 c2 W (h1.below h) (h2.below h))
  unfold eqV at *
  have q0 := bal (bal (Below.refl w.heap.size w) (.cells #[.string a.nm, .slice A1 a.n c1, .string b.nm, .slice A2 b.n c2] 294)) (.cells #[.int .i64 0, .string ⟨#[]⟩, .slice none 0 0, .string ⟨#[]⟩, .slice none 0 0, .slice none 0 0, .slice none 0 0, .int .i64 0, .bool false] 95)
  have R := row_newA (w.alloc (.cells #[.string a.nm, .slice A1 a.n c1, .string b.nm, .slice A2 b.n c2] 294)) #[.int .i64 0, .string ⟨#[]⟩, .slice none 0 0, .string ⟨#[]⟩, .slice none 0 0, .slice none 0 0, .slice none 0 0, .int .i64 0, .bool false] 95
  have hsz : (w.alloc (.cells #[.string a.nm, .slice A1 a.n c1, .string b.nm, .slice A2 b.n c2] 294)).heap.size = w.heap.size + 1 := by simp
  rw [hsz] at R
  clear h1 h2 hFa hFb
  go_enter Try.func302, Try.ntmps302
  go_wp2_with fail
  refine (C1.out _ q0).mono ?_
  rintro e w1 ⟨A, c, rfl, m1, m2, hS, hq, hz⟩
  clear C1
  have tn : (Tm.mk ⟨#[]⟩ 2 (kidAB a b)).n = 2 := rfl
  rw [tn]
  rw [tn] at m1
  clear tn
  have hlt1 : w.heap.size + 1 < ((w.alloc (.cells #[.string a.nm, .slice A1 a.n c1, .string b.nm, .slice A2 b.n c2] 294)).alloc (.cells #[.int .i64 0, .string ⟨#[]⟩, .slice none 0 0, .string ⟨#[]⟩, .slice none 0 0, .slice none 0 0, .slice none 0 0, .int .i64 0, .bool false] 95)).heap.size := by simp
  replace R := row_below R hq
  replace q0 := btr q0 hq
  rcases hS with h | ⟨g, off, cs, L, H, rfl, hg1, hg2, hg, hc⟩
  · cases h
  obtain ⟨r1, r2, r3, _, r4, B1, d1, e0, e1, e2, e3, S1⟩ := hc 0 (by decide)
  replace r4 := r4 1 (by decide) (by decide)
  obtain ⟨r5, r6, r7, _, _, B2, d2, e4, e5, e6, e7, S2⟩ := hc 1 (by decide)
  simp only [kidAB, if_true, Nat.one_ne_zero, if_false, Nat.zero_mul, Nat.add_zero, Nat.one_mul] at e0 e1 e2 e3 S1 e4 e5 e6 e7 S2
  have y0 : w1.cell? ⟨g, off, none⟩ = some (.string a.nm) := by simp [World.cell?, hg, e0]
  have y1 : w1.cell? ⟨g, off + 1, none⟩ = some (.slice B1 a.n d1) := by simp [World.cell?, hg, e1]
  have y2 : w1.cell? ⟨g, off + 2, none⟩ = some (.string b.nm) := by simp [World.cell?, hg, e4]
  have y3 : w1.cell? ⟨g, off + 2 + 1, none⟩ = some (.slice B2 b.n d2) := by simp [World.cell?, hg, e5]
  have gg := cell_lt y0
  have hrb : w.heap.size + 1 < w1.heap.size := R.lt
  have hge : w.heap.size + 1 < g := Nat.lt_of_lt_of_le hlt1 hg1
  have HS1 := hid S1; have HS2 := hid S2
  have rlo : w.heap.size + 1 < L 0 := Nat.lt_of_lt_of_le hlt1 r1
  have rlo2 : w.heap.size + 1 < L 1 := Nat.lt_of_lt_of_le hlt1 r5
  clear r1 r5
  generalize L 0 = L0 at *; generalize H 0 = H0 at *; generalize L 1 = L1 at *; generalize H 1 = H1 at *
  clear hc e0 e1 e4 e5 hg hz hlt1 hsz
  go_upto_region 2 with fail
  refine region_planC (fun w' => w'.cell? ⟨g, off, none⟩ = some (.string a.nm) ∧ w'.cell? ⟨g, off + 1, none⟩ = some (.slice B1 a.n d1) ∧ w'.cell? ⟨g, off + 2, none⟩ = some (.string b.nm) ∧ w'.cell? ⟨g, off + 2 + 1, none⟩ = some (.slice B2 b.n d2)) (.takes [0, 1, 2, 3, 4, 5, 6] .fin) 7 rfl (by kernel_rfl) ⟨carry (Below.refl _ _).drew y0, carry (Below.refl _ _).drew y1, carry (Below.refl _ _).drew y2, carry (Below.refl _ _).drew y3⟩ ?_
  refine plan_takes ?_; simp only [pickOps, List.getElem?_cons_zero, List.getElem?_cons_succ]
  refine quiet_doC rfl (.slice (some ⟨g, off, none⟩) 2 c) (fun w' hw' => by simp [execOp, go_sem]) ?_
  refine quiet_doC rfl (.pointer (some ⟨g, off, none⟩)) (fun w' hw' => by simp [execOp, go_sem]) ?_
  refine quiet_doC rfl (.agg #[.string a.nm, .slice B1 a.n d1]) (fun w' hw' => by have x0 := hw'.1; have x1 := hw'.2.1; simp [execOp, go_sem, x0, x1]) ?_
  refine quiet_doC rfl (.slice (some ⟨g, off, none⟩) 2 c) (fun w' hw' => by simp [execOp, go_sem]) ?_
  refine quiet_doC rfl (.pointer (some ⟨g, off + 2, none⟩)) (fun w' hw' => by simp [execOp, go_sem]) ?_
  refine quiet_doC rfl (.agg #[.string b.nm, .slice B2 b.n d2]) (fun w' hw' => by have x0 := hw'.2.2.1; have x1 := hw'.2.2.2; simp [execOp, go_sem, x0, x1]) ?_
  refine quiet_doC rfl (.agg #[.int .i64 1, .string a.nm, .slice B1 a.n d1, .string b.nm, .slice B2 b.n d2, .slice none 0 0, .slice none 0 0, .int .i64 0, .bool false]) (fun w' hw' => by simp [execOp, go_sem]) ?_
  refine wpQuiet_nil ?_
  refine plan_fin ?_
  simp only [List.drop_succ_cons, List.drop_zero, Act.put, List.setIfInBounds_toArray, List.set_cons_succ, List.set_cons_zero]
  have hD := (Below.refl w1.heap.size w1).drew
  replace R := row_below R hD
  replace q0 := btr q0 hD
  have K1 := hid (HS1.out.below hD); have K2 := hid (HS2.out.below hD)
  have hdz : w1.heap.size ≤ w1.drew.heap.size := hD.size
  have RZ := hid (And.intro r2 (And.intro r3 (And.intro r4 (And.intro r6 (Nat.le_trans r7 hdz)))))
  clear r2 r3 r4 r6 r7 hdz
  replace hrb := Nat.lt_of_lt_of_le hrb hD.size
  clear HS1 HS2 y0 y1 y2 y3 gg hD
  generalize w1.drew = u at *
  have z0 : u.cell? ⟨w.heap.size + 1, 0, none⟩ = some (.int .i64 0) := R.cell (i := 0) (by decide)
  have f0 : u.frozen? ⟨w.heap.size + 1, 0, none⟩ = false := R.frozen _
  have z1 : u.cell? ⟨w.heap.size + 1, 1, none⟩ = some (.string ⟨#[]⟩) := R.cell (i := 1) (by decide)
  have f1 : u.frozen? ⟨w.heap.size + 1, 1, none⟩ = false := R.frozen _
  have z2 : u.cell? ⟨w.heap.size + 1, 2, none⟩ = some (.slice none 0 0) := R.cell (i := 2) (by decide)
  have f2 : u.frozen? ⟨w.heap.size + 1, 2, none⟩ = false := R.frozen _
  have z3 : u.cell? ⟨w.heap.size + 1, 3, none⟩ = some (.string ⟨#[]⟩) := R.cell (i := 3) (by decide)
  have f3 : u.frozen? ⟨w.heap.size + 1, 3, none⟩ = false := R.frozen _
  have z4 : u.cell? ⟨w.heap.size + 1, 4, none⟩ = some (.slice none 0 0) := R.cell (i := 4) (by decide)
  have f4 : u.frozen? ⟨w.heap.size + 1, 4, none⟩ = false := R.frozen _
  have z5 : u.cell? ⟨w.heap.size + 1, 5, none⟩ = some (.slice none 0 0) := R.cell (i := 5) (by decide)
  have f5 : u.frozen? ⟨w.heap.size + 1, 5, none⟩ = false := R.frozen _
  have z6 : u.cell? ⟨w.heap.size + 1, 6, none⟩ = some (.slice none 0 0) := R.cell (i := 6) (by decide)
  have f6 : u.frozen? ⟨w.heap.size + 1, 6, none⟩ = false := R.frozen _
  have z7 : u.cell? ⟨w.heap.size + 1, 7, none⟩ = some (.int .i64 0) := R.cell (i := 7) (by decide)
  have f7 : u.frozen? ⟨w.heap.size + 1, 7, none⟩ = false := R.frozen _
  have z8 : u.cell? ⟨w.heap.size + 1, 8, none⟩ = some (.bool false) := R.cell (i := 8) (by decide)
  have f8 : u.frozen? ⟨w.heap.size + 1, 8, none⟩ = false := R.frozen _
  obtain ⟨⟨t0, t1, t2, t3, t4, t5, t6, t7, t8⟩, hblk, hszc, hbel⟩ := chain9 R (.int .i64 1) (.string a.nm) (.slice B1 a.n d1) (.string b.nm) (.slice B2 b.n d2) (.slice none 0 0) (.slice none 0 0) (.int .i64 0) (.bool false)
  have HB := hid (hbel w q0 (by omega)); have HBk := hid (And.intro hblk hszc)
  clear hblk hszc hbel R q0
  go_wp2
  refine bodyPost_ret (v := .agg #[.int .i64 1, .string a.nm, .slice B1 a.n d1, .string b.nm, .slice B2 b.n d2, .slice none 0 0, .slice none 0 0, .int .i64 0, .bool false]) (by simp [results, Try.results302, go_sem, t0, t1, t2, t3, t4, t5, t6, t7, t8]) rfl ?_
  clear t0 t1 t2 t3 t4 t5 t6 t7 t8
  obtain ⟨z2, z3, z4, z6, z7⟩ := RZ.out
  obtain ⟨hblk, hszc⟩ := HBk.out
  exact ⟨B1, d1, B2, d2, rfl, ⟨H0, H1, H1, by omega, by omega, Nat.le_refl _, by rw [hszc]; exact z7, (SepT.chainS (.inl rlo) hblk K1.out).mono (by omega) (Nat.le_refl _), (SepT.chainS (.inl rlo2) hblk K2.out).mono (by omega) (Nat.le_refl _), .inl rfl, .inl rfl⟩, ⟨e2, e3, e6, e7⟩, HB.out⟩
set_option maxRecDepth 100000 in
set_option maxHeartbeats 8000000 in
theorem ineqatom_S (X : List Ad) (sa : Option Addr) (cap : Nat) (bd : Int) (st : Bool) (w : World) (hl : X.length ≤ 1000) (hn0 : X.length ≠ 0) (hX : RdD w sa X) (hK : KdD w X) (hF : ∀ k, k < X.length → Fits 1048576 (X.getD k default).t) :
    Calls Try.prog 309 #[ineqV sa X.length cap bd st] w (IneqAtomS w X bd st) := by
  have C1 := hid (fun W (h : Below w.heap.size w W) => ineqterms_any X sa cap bd st W hl (hX.below h) (hK.below h) hF)
  unfold ineqV at *
  have q0 := bal (bal (Below.refl w.heap.size w) (.cells #[.slice sa X.length cap, .int .i64 bd, .bool st] 299)) (.cells #[.int .i64 0, .string ⟨#[]⟩, .slice none 0 0, .string ⟨#[]⟩, .slice none 0 0, .slice none 0 0, .slice none 0 0, .int .i64 0, .bool false] 95)
  have HX2 := hid (hX.below q0)
  have R := row_newA (w.alloc (.cells #[.slice sa X.length cap, .int .i64 bd, .bool st] 299)) #[.int .i64 0, .string ⟨#[]⟩, .slice none 0 0, .string ⟨#[]⟩, .slice none 0 0, .slice none 0 0, .slice none 0 0, .int .i64 0, .bool false] 95
  have hsz : (w.alloc (.cells #[.slice sa X.length cap, .int .i64 bd, .bool st] 299)).heap.size = w.heap.size + 1 := by simp
  rw [hsz] at R
  have H : KcL [(w.heap.size, 0, .slice sa X.length cap), (w.heap.size, 1, .int .i64 bd), (w.heap.size, 2, .bool st)] ((w.alloc (.cells #[.slice sa X.length cap, .int .i64 bd, .bool st] 299)).alloc (.cells #[.int .i64 0, .string ⟨#[]⟩, .slice none 0 0, .string ⟨#[]⟩, .slice none 0 0, .slice none 0 0, .slice none 0 0, .int .i64 0, .bool false] 95)) := by
    refine ⟨?_, ?_, ?_, trivial⟩ <;> simp [go_sem]
  obtain ⟨i0, hi, hz0, hz1, hz2⟩ := info_parts infoI
  clear hX hK hF
  have R2 : ((w.alloc (.cells #[.slice sa X.length cap, .int .i64 bd, .bool st] 299)).alloc (.cells #[.int .i64 0, .string ⟨#[]⟩, .slice none 0 0, .string ⟨#[]⟩, .slice none 0 0, .slice none 0 0, .slice none 0 0, .int .i64 0, .bool false] 95)).rowIs (w.heap.size + 1) 95 9 (rowOf #[.int .i64 0, .string ⟨#[]⟩, .slice none 0 0, .string ⟨#[]⟩, .slice none 0 0, .slice none 0 0, .slice none 0 0, .int .i64 0, .bool false]) := R
  clear R hsz
  go_enter Try.func309, Try.ntmps309
  rcases HX2.out with h | ⟨g, rfl, hgW, hcX⟩
  · exact absurd h hn0
  clear HX2
  go_upto_region 1 with fail
  have hW0 : w.heap.size + 2 = ((w.alloc (.cells #[.slice (some ⟨g, 0, none⟩) X.length cap, .int .i64 bd, .bool st] 299)).alloc (.cells #[.int .i64 0, .string ⟨#[]⟩, .slice none 0 0, .string ⟨#[]⟩, .slice none 0 0, .slice none 0 0, .slice none 0 0, .int .i64 0, .bool false] 95)).heap.size := by simp
  generalize (w.alloc (.cells #[.slice (some ⟨g, 0, none⟩) X.length cap, .int .i64 bd, .bool st] 299)).alloc (.cells #[.int .i64 0, .string ⟨#[]⟩, .slice none 0 0, .string ⟨#[]⟩, .slice none 0 0, .slice none 0 0, .slice none 0 0, .int .i64 0, .bool false] 95) = W0 at *
  have hD := (Below.refl W0.heap.size W0).drew
  have HD := H.below hD
  refine region_planC (fun w' => KcL [(w.heap.size, 0, .slice (some ⟨g, 0, none⟩) X.length cap), (w.heap.size, 1, .int .i64 bd), (w.heap.size, 2, .bool st)] w') (.takes [0, 2, 3, 4, 5] (.fork 1 7 (.takes [6] (.make 7 .fin)) (.make 1 (.takes [6] .fin)))) 8 rfl (by kernel_rfl) HD ?_
  refine plan_takes ?_; simp only [pickOps, List.getElem?_cons_zero, List.getElem?_cons_succ]
  refine quiet_doC rfl (.agg #[.slice (some ⟨g, 0, none⟩) X.length cap, .int .i64 bd, .bool st]) (fun w' hw' => by obtain ⟨s0, s1, s2, _⟩ := hw'; simp [execOp, go_sem, s0, s1, s2]) ?_
  refine quiet_doC rfl (.pointer (some ⟨w.heap.size, 1, none⟩)) (fun w' hw' => by simp [execOp, go_sem]) ?_
  refine quiet_doC rfl (.int .i64 bd) (fun w' hw' => by obtain ⟨s0, s1, s2, _⟩ := hw'; simp [execOp, go_sem, s1]) ?_
  refine quiet_doC rfl (.pointer (some ⟨w.heap.size, 2, none⟩)) (fun w' hw' => by simp [execOp, go_sem]) ?_
  refine quiet_doC rfl (.bool st) (fun w' hw' => by obtain ⟨s0, s1, s2, _⟩ := hw'; simp [execOp, go_sem, s2]) ?_
  refine wpQuiet_nil ?_
  refine plan_fork ?_ ?_
  rotate_left
  · skip
    have CX3 := bal (Below.refl W0.drew.heap.size W0.drew) (.cells #[.int .i64 0, .string ⟨#[]⟩, .slice none 0 0, .string ⟨#[]⟩, .slice none 0 0, .slice none 0 0, .slice none 0 0, .int .i64 0, .bool false] 95)
    refine planC_val rfl rfl (.pointer (some ⟨W0.drew.heap.size, 0, none⟩)) (w'' := W0.drew.alloc (.cells #[.int .i64 0, .string ⟨#[]⟩, .slice none 0 0, .string ⟨#[]⟩, .slice none 0 0, .slice none 0 0, .slice none 0 0, .int .i64 0, .bool false] 95)) (by simp [execOp, go_sem]) (HD.below CX3) ?_
    have RA0 : (W0.drew.alloc (.cells #[.int .i64 0, .string ⟨#[]⟩, .slice none 0 0, .string ⟨#[]⟩, .slice none 0 0, .slice none 0 0, .slice none 0 0, .int .i64 0, .bool false] 95)).rowIs W0.drew.heap.size 95 9 (rowOf #[.int .i64 0, .string ⟨#[]⟩, .slice none 0 0, .string ⟨#[]⟩, .slice none 0 0, .slice none 0 0, .slice none 0 0, .int .i64 0, .bool false]) := row_newA W0.drew #[.int .i64 0, .string ⟨#[]⟩, .slice none 0 0, .string ⟨#[]⟩, .slice none 0 0, .slice none 0 0, .slice none 0 0, .int .i64 0, .bool false] 95
    refine planC_call rfl rfl 312 #[.agg #[.slice (some ⟨g, 0, none⟩) X.length cap, .int .i64 bd, .bool st]] (by kernel_rfl) ?_
    refine (C1.out _ (btr q0 (btr hD CX3))).mono ?_
    rintro e u ⟨B3, d3, rfl, m1, m2, hS, hq, hzz⟩
    refine ⟨_, rfl, (HD.below CX3).below hq, ?_⟩
    refine plan_takes ?_; simp only [pickOps, List.getElem?_cons_zero, List.getElem?_cons_succ]
    have tn : (Tm.mk ⟨#[]⟩ X.length (fun k => (X.getD k default).t)).n = X.length := rfl
    rw [tn] at m1 hzz ⊢
    obtain ⟨g3, rfl⟩ := hzz hn0
    clear tn hzz
    refine quiet_doC rfl (.agg #[.int .i64 2, .string ⟨#[]⟩, .slice none 0 0, .string ⟨#[]⟩, .slice none 0 0, .slice (some ⟨g3, 0, none⟩) X.length d3, .slice none 0 0, .int .i64 bd, .bool st]) (fun w' hw' => by simp [execOp, go_sem]) ?_
    refine wpQuiet_nil ?_
    have hqq := btr hD (btr CX3 hq)
    refine plan_fin ?_
    simp only [List.drop_succ_cons, List.drop_zero, Act.put, List.setIfInBounds_toArray, List.set_cons_succ, List.set_cons_zero]
    have RA := row_below RA0 hq
    replace H := H.below hqq
    replace R2 := row_below R2 hqq
    replace q0 := btr q0 hqq
    have hXX := hcX.below hqq
    have hzA : W0.drew.heap.size < (W0.drew.alloc (.cells #[.int .i64 0, .string ⟨#[]⟩, .slice none 0 0, .string ⟨#[]⟩, .slice none 0 0, .slice none 0 0, .slice none 0 0, .int .i64 0, .bool false] 95)).heap.size := RA0.lt
    have hlA := q0.size
    obtain ⟨l3, h3, hKT, kd, kl, kk, kh⟩ : ∃ l3 h3, SepT u (.mk ⟨#[]⟩ X.length (fun k => (X.getD k default).t)) l3 h3 (some ⟨g3, 0, none⟩) ∧ (W0.drew.heap.size < l3 ∨ h3 ≤ W0.drew.heap.size) ∧ w.heap.size + 1 < l3 ∧ l3 ≤ h3 ∧ h3 ≤ u.heap.size := ⟨_, _, hS, .inl hzA, by have := hD.size; omega, hq.size, Nat.le_refl _⟩
    clear hzA hlA
    have hab : w.heap.size + 1 < W0.drew.heap.size := by have := hD.size; omega
    have hgab : g < W0.drew.heap.size := by have := hD.size; omega
    have hl3 : W0.drew.heap.size < u.heap.size := RA.lt
    clear C1 hcX HD hS hqq CX3 hq hD hW0 RA0
    generalize W0.drew.heap.size = ab at *
    have z0 : u.cell? ⟨ab, 0, none⟩ = some (.int .i64 0) := RA.cell (i := 0) (by decide)
    have fz0 : u.frozen? ⟨ab, 0, none⟩ = false := RA.frozen _
    have z1 : u.cell? ⟨ab, 1, none⟩ = some (.string ⟨#[]⟩) := RA.cell (i := 1) (by decide)
    have fz1 : u.frozen? ⟨ab, 1, none⟩ = false := RA.frozen _
    have z2 : u.cell? ⟨ab, 2, none⟩ = some (.slice none 0 0) := RA.cell (i := 2) (by decide)
    have fz2 : u.frozen? ⟨ab, 2, none⟩ = false := RA.frozen _
    have z3 : u.cell? ⟨ab, 3, none⟩ = some (.string ⟨#[]⟩) := RA.cell (i := 3) (by decide)
    have fz3 : u.frozen? ⟨ab, 3, none⟩ = false := RA.frozen _
    have z4 : u.cell? ⟨ab, 4, none⟩ = some (.slice none 0 0) := RA.cell (i := 4) (by decide)
    have fz4 : u.frozen? ⟨ab, 4, none⟩ = false := RA.frozen _
    have z5 : u.cell? ⟨ab, 5, none⟩ = some (.slice none 0 0) := RA.cell (i := 5) (by decide)
    have fz5 : u.frozen? ⟨ab, 5, none⟩ = false := RA.frozen _
    have z6 : u.cell? ⟨ab, 6, none⟩ = some (.slice none 0 0) := RA.cell (i := 6) (by decide)
    have fz6 : u.frozen? ⟨ab, 6, none⟩ = false := RA.frozen _
    have z7 : u.cell? ⟨ab, 7, none⟩ = some (.int .i64 0) := RA.cell (i := 7) (by decide)
    have fz7 : u.frozen? ⟨ab, 7, none⟩ = false := RA.frozen _
    have z8 : u.cell? ⟨ab, 8, none⟩ = some (.bool false) := RA.cell (i := 8) (by decide)
    have fz8 : u.frozen? ⟨ab, 8, none⟩ = false := RA.frozen _
    go_upto_region 2 with fail
    clear z0 fz0 z1 fz1 z2 fz2 z3 fz3 z4 fz4 z5 fz5 z6 fz6 z7 fz7 z8 fz8
    obtain ⟨_, hblk, hszc, hbel⟩ := chain9 RA (.int .i64 2) (.string ⟨#[]⟩) (.slice none 0 0) (.string ⟨#[]⟩) (.slice none 0 0) (.slice (some ⟨g3, 0, none⟩) X.length d3) (.slice none 0 0) (.int .i64 bd) (.bool st)
    have RA2 := row9 RA (.int .i64 2) (.string ⟨#[]⟩) (.slice none 0 0) (.string ⟨#[]⟩) (.slice none 0 0) (.slice (some ⟨g3, 0, none⟩) X.length d3) (.slice none 0 0) (.int .i64 bd) (.bool st)
    generalize (((((((((u.setCell ⟨ab, 0, none⟩ (.int .i64 2)).setCell ⟨ab, 1, none⟩ (.string ⟨#[]⟩)).setCell ⟨ab, 2, none⟩ (.slice none 0 0)).setCell ⟨ab, 3, none⟩ (.string ⟨#[]⟩)).setCell ⟨ab, 4, none⟩ (.slice none 0 0)).setCell ⟨ab, 5, none⟩ (.slice (some ⟨g3, 0, none⟩) X.length d3)).setCell ⟨ab, 6, none⟩ (.slice none 0 0)).setCell ⟨ab, 7, none⟩ (.int .i64 bd)).setCell ⟨ab, 8, none⟩ (.bool st)) = u1 at *
    replace q0 := hbel w q0 (by omega)
    replace hKT := SepT.chainS (by omega) hblk hKT
    have H2 : KcL [(w.heap.size, 0, .slice (some ⟨g, 0, none⟩) X.length cap), (w.heap.size, 1, .int .i64 bd), (w.heap.size, 2, .bool st)] u1 := by
      obtain ⟨s0, s1, s2, _⟩ := H
      have hne : w.heap.size ≠ ab := by omega
      exact ⟨cell_chain hblk hne s0, cell_chain hblk hne s1, cell_chain hblk hne s2, trivial⟩
    replace R2 := R2.of_block (hblk _ (show w.heap.size + 1 ≠ ab by omega))
    have hX2 : CellsD u1 g X := fun i hi => by
      obtain ⟨x0, x1, x2, x3⟩ := hXX i hi
      have hne : g ≠ ab := by omega
      exact ⟨cell_chain hblk hne x0, cell_chain hblk hne x1, cell_chain hblk hne x2, cell_chain hblk hne x3⟩
    replace hl3 : ab < u1.heap.size := by rw [hszc]; exact hl3
    replace kh : h3 ≤ u1.heap.size := by rw [hszc]; omega
    clear hblk hszc hbel RA H hXX
    obtain ⟨s0, s1, s2, _⟩ := H2
    have l0 := cell_lt s0
    go_wp2
    clear s0 s1 s2 l0
    have HX := hid hX2; clear hX2
    go_loopw [16] (fun i wr => ∃ (k : Nat) (v : Value), k ≤ X.length ∧ i = .int .i64 k ∧ wr.rowIs ab 95 9 (rowOf #[.int .i64 2, .string ⟨#[]⟩, .slice none 0 0, .string ⟨#[]⟩, .slice none 0 0, .slice (some ⟨g3, 0, none⟩) X.length d3, v, .int .i64 bd, .bool st]) ∧ wr.ownsRow u1.heap.size 3 1 v k ((zlD X).take k) ∧ (∀ x, x < u1.heap.size → x ≠ ab → wr.heap[x]? = u1.heap[x]?) ∧ u1.heap.size ≤ wr.heap.size ∧ Below w.heap.size w wr) (fun i _ => X.length - (intOf i).toNat)
    case atStart => exact ⟨0, .slice none 0 0, Nat.zero_le _, rfl, RA2, World.ownsRow_nil _ _ _ _, fun x _ _ => rfl, Nat.le_refl _, q0⟩
    case round =>
      obtain ⟨k, v, hk, rfl, hR, ho, hfr, hsz, hb⟩ := hrel
      have hvn : ∃ va vc, v = Value.slice va k vc := by
        obtain ⟨_, ⟨h, h0⟩ | ⟨g, cp, cur, h, _⟩⟩ := ho
        · exact ⟨none, 0, by rw [h, h0]⟩
        · exact ⟨_, _, h⟩
      obtain ⟨va, vc, hve⟩ := hvn
      subst hve
      have HO := hid ho; have HFR := hid hfr
      clear ho hfr
      have y6 : wr.cell? ⟨ab, 6, none⟩ = some (.slice va k vc) := hR.cell (i := 6) (by decide)
      have ly := cell_lt y6
      by_cases hlt : k < X.length
      rotate_left
      · have hke : k = X.length := by omega
        subst hke
        have R5 := R2.of_block (HFR.out _ (by omega) (show w.heap.size + 1 ≠ ab by omega))
        have KT := hid (SepT.frameS (by omega) HFR.out hKT)
        clear y6
        have hlr : w.heap.size + 1 < wr.heap.size := R5.lt
        have ya0 : wr.cell? ⟨ab, 0, none⟩ = some (.int .i64 2) := hR.cell (i := 0) (by decide)
        have fya0 : wr.frozen? ⟨ab, 0, none⟩ = false := hR.frozen _
        have ya1 : wr.cell? ⟨ab, 1, none⟩ = some (.string ⟨#[]⟩) := hR.cell (i := 1) (by decide)
        have fya1 : wr.frozen? ⟨ab, 1, none⟩ = false := hR.frozen _
        have ya2 : wr.cell? ⟨ab, 2, none⟩ = some (.slice none 0 0) := hR.cell (i := 2) (by decide)
        have fya2 : wr.frozen? ⟨ab, 2, none⟩ = false := hR.frozen _
        have ya3 : wr.cell? ⟨ab, 3, none⟩ = some (.string ⟨#[]⟩) := hR.cell (i := 3) (by decide)
        have fya3 : wr.frozen? ⟨ab, 3, none⟩ = false := hR.frozen _
        have ya4 : wr.cell? ⟨ab, 4, none⟩ = some (.slice none 0 0) := hR.cell (i := 4) (by decide)
        have fya4 : wr.frozen? ⟨ab, 4, none⟩ = false := hR.frozen _
        have ya5 : wr.cell? ⟨ab, 5, none⟩ = some (.slice (some ⟨g3, 0, none⟩) X.length d3) := hR.cell (i := 5) (by decide)
        have fya5 : wr.frozen? ⟨ab, 5, none⟩ = false := hR.frozen _
        have ya6 : wr.cell? ⟨ab, 6, none⟩ = some (.slice va X.length vc) := hR.cell (i := 6) (by decide)
        have fya6 : wr.frozen? ⟨ab, 6, none⟩ = false := hR.frozen _
        have ya7 : wr.cell? ⟨ab, 7, none⟩ = some (.int .i64 bd) := hR.cell (i := 7) (by decide)
        have fya7 : wr.frozen? ⟨ab, 7, none⟩ = false := hR.frozen _
        have ya8 : wr.cell? ⟨ab, 8, none⟩ = some (.bool st) := hR.cell (i := 8) (by decide)
        have fya8 : wr.frozen? ⟨ab, 8, none⟩ = false := hR.frozen _
        have zr0 : wr.cell? ⟨w.heap.size + 1, 0, none⟩ = some (.int .i64 0) := R5.cell (i := 0) (by decide)
        have fzr0 : wr.frozen? ⟨w.heap.size + 1, 0, none⟩ = false := R5.frozen _
        have zr1 : wr.cell? ⟨w.heap.size + 1, 1, none⟩ = some (.string ⟨#[]⟩) := R5.cell (i := 1) (by decide)
        have fzr1 : wr.frozen? ⟨w.heap.size + 1, 1, none⟩ = false := R5.frozen _
        have zr2 : wr.cell? ⟨w.heap.size + 1, 2, none⟩ = some (.slice none 0 0) := R5.cell (i := 2) (by decide)
        have fzr2 : wr.frozen? ⟨w.heap.size + 1, 2, none⟩ = false := R5.frozen _
        have zr3 : wr.cell? ⟨w.heap.size + 1, 3, none⟩ = some (.string ⟨#[]⟩) := R5.cell (i := 3) (by decide)
        have fzr3 : wr.frozen? ⟨w.heap.size + 1, 3, none⟩ = false := R5.frozen _
        have zr4 : wr.cell? ⟨w.heap.size + 1, 4, none⟩ = some (.slice none 0 0) := R5.cell (i := 4) (by decide)
        have fzr4 : wr.frozen? ⟨w.heap.size + 1, 4, none⟩ = false := R5.frozen _
        have zr5 : wr.cell? ⟨w.heap.size + 1, 5, none⟩ = some (.slice none 0 0) := R5.cell (i := 5) (by decide)
        have fzr5 : wr.frozen? ⟨w.heap.size + 1, 5, none⟩ = false := R5.frozen _
        have zr6 : wr.cell? ⟨w.heap.size + 1, 6, none⟩ = some (.slice none 0 0) := R5.cell (i := 6) (by decide)
        have fzr6 : wr.frozen? ⟨w.heap.size + 1, 6, none⟩ = false := R5.frozen _
        have zr7 : wr.cell? ⟨w.heap.size + 1, 7, none⟩ = some (.int .i64 0) := R5.cell (i := 7) (by decide)
        have fzr7 : wr.frozen? ⟨w.heap.size + 1, 7, none⟩ = false := R5.frozen _
        have zr8 : wr.cell? ⟨w.heap.size + 1, 8, none⟩ = some (.bool false) := R5.cell (i := 8) (by decide)
        have fzr8 : wr.frozen? ⟨w.heap.size + 1, 8, none⟩ = false := R5.frozen _
        obtain ⟨⟨t0, t1, t2, t3, t4, t5, t6, t7, t8⟩, hblk, hszc, hbel⟩ := chain9 R5 (.int .i64 2) (.string ⟨#[]⟩) (.slice none 0 0) (.string ⟨#[]⟩) (.slice none 0 0) (.slice (some ⟨g3, 0, none⟩) X.length d3) (.slice va X.length vc) (.int .i64 bd) (.bool st)
        have HB := hid (hbel w hb (by omega))
        have HBk := hid hblk
        have HO2 := hid (own_kpB (fun g e => hblk g (fun e2 => by have := own_low0 HO.out e; omega)) HO.out)
        have KT2 := hid (SepT.chainS (.inl (by omega)) hblk KT.out)
        have SZ := hid (Nat.le_trans (show u1.heap.size ≤ wr.heap.size from hsz) (Nat.le_of_eq hszc.symm))
        clear hblk hszc hbel hR R5 HO KT hKT R2 RA2 HFR HX hb HBk
        go_wp2
        refine bodyPost_ret (v := .agg #[.int .i64 2, .string ⟨#[]⟩, .slice none 0 0, .string ⟨#[]⟩, .slice none 0 0, .slice (some ⟨g3, 0, none⟩) X.length d3, .slice va X.length vc, .int .i64 bd, .bool st]) (by simp [results, Try.results309, go_sem, t0, t1, t2, t3, t4, t5, t6, t7, t8]) rfl ?_
        clear t0 t1 t2 t3 t4 t5 t6 t7 t8
        obtain ⟨A4, c4, e1, n1, n2, hI⟩ := own_intsB HO2.out
        injection e1 with e1 _ e3
        subst e1 e3
        exact ⟨g3, d3, va, vc, rfl, ⟨l3, l3, u1.heap.size, by omega, Nat.le_refl _, by omega, SZ.out, .inl rfl, .inl rfl, KT2.out.mono (Nat.le_refl _) (by omega), hI⟩, m1, m2, n1, n2, HB.out⟩
      obtain ⟨x0, x1, x2, x3⟩ := HX.out k hlt
      have hgl := cell_lt x0
      have hgk : ∀ {o : Nat} {z : Value}, u1.cell? ⟨g, o, none⟩ = some z → wr.cell? ⟨g, o, none⟩ = some z := fun {o z} h => (World.cell?_of_block (a := ⟨g, o, none⟩) (HFR.out g hgl (by omega))).trans h
      replace x0 := hgk x0
      replace x1 := hgk x1
      replace x2 := hgk x2
      replace x3 := hgk x3
      have gg := cell_lt x0
      have hnx := zlD_next hlt
      clear hgk hgl
      generalize hx : X.getD k default = x at *
      have HNX := hid hnx; clear hx hnx
      have CX := bal (bal (Below.refl wr.heap.size wr) (.cells #[.string (tx x.t), .string x.t.nm, .slice x.a x.t.n x.c, .int .i64 x.z] 344)) (.cells #[.int .i64 x.z] 3)
      have hown4 := own_belowT CX HO.out
      have hR4 := row_below hR CX
      have hl4 : u1.heap.size ≤ ((wr.alloc (.cells #[.string (tx x.t), .string x.t.nm, .slice x.a x.t.n x.c, .int .i64 x.z] 344)).alloc (.cells #[.int .i64 x.z] 3)).heap.size := Nat.le_trans hsz CX.size
      have hnews := new1 (wr.alloc (.cells #[.string (tx x.t), .string x.t.nm, .slice x.a x.t.n x.c, .int .i64 x.z] 344)) (.int .i64 x.z) 3
      rw [show (wr.alloc (.cells #[.string (tx x.t), .string x.t.nm, .slice x.a x.t.n x.c, .int .i64 x.z] 344)).heap.size = wr.heap.size + 1 by simp] at hnews
      have hone : ∀ u ∈ ([.int .i64 x.z] : List Value), u.oneCell' = true := fun u hu => by simp at hu; subst hu; rfl
      go_wp2_with ((at_builtin; go_loud (refine wpList_append_own_at _ rfl _ _ 31 rfl u1.heap.size 3 i0 _ 1 8 Try.underlying31 hi hz0 hz1 hz2 rfl (by decide) (.slice va k vc) k ((zlD X).take k) rfl hown4 ⟨wr.heap.size + 1, 0, none⟩ 1 1 [.int .i64 x.z] rfl rfl hnews hone (by unfold maxLen; omega) (by omega) hl4 ?_); intro v' w6 hown6 hgrow _ _; obtain ⟨va', vc', hve'⟩ := own_sl hown6; subst hve'; have hR6 := hR4.of_block (hgrow.block ab hR4.lt (fun e => by have := own_low0 hown4 e.symm; omega)); have y7 : w6.cell? ⟨ab, 6, none⟩ = some (.slice va k vc) := hR6.cell (i := 6) (by decide); have f7 : w6.frozen? ⟨ab, 6, none⟩ = false := hR6.frozen _))
      go_roundw
      case rel =>
        refine ⟨k + 1, .slice va' (k + 1) vc', by omega, by go_num, (hR6.set 6 (.slice va' (k + 1) vc')).congr (nine ⟨rfl, rfl, rfl, rfl, rfl, rfl, rfl, rfl, rfl⟩), ?_, fun x hx1 hx2 => ?_, ?_, ?_⟩
        · rw [HNX.out]
          exact own_setT2 (fun e => by have := own_low0 hown6 e; omega) hown6
        · have hxw : x < wr.heap.size := Nat.lt_of_lt_of_le hx1 hsz
          exact (Below.heap_setCell _ ⟨ab, 6, none⟩ _ x hx2).trans ((hgrow.block x (Nat.lt_of_lt_of_le hx1 hl4) (fun e => by have := own_low0 hown4 e.symm; omega)).trans ((CX.block x hxw).trans (HFR.out x hx1 hx2)))
        · have := hgrow.size
          simp only [World.setCell]
          simpa using Nat.le_trans hl4 this
        · exact bst (below_grow (btr hb CX) hgrow (fun g e => Nat.le_trans q0.size (own_low0 hown4 e))) (p := ⟨ab, 6, none⟩) (show w.heap.size ≤ ab by omega) _
      case measure => simp [intOf]; omega
  refine planC_call rfl rfl 312 #[.agg #[.slice (some ⟨g, 0, none⟩) X.length cap, .int .i64 bd, .bool st]] (by kernel_rfl) ?_
  refine (C1.out _ (btr q0 hD)).mono ?_
  rintro e w3 ⟨B3, d3, rfl, m1, m2, hS, hq, hzz⟩
  refine ⟨_, rfl, HD.below hq, ?_⟩
  refine plan_takes ?_; simp only [pickOps, List.getElem?_cons_zero, List.getElem?_cons_succ]
  have tn : (Tm.mk ⟨#[]⟩ X.length (fun k => (X.getD k default).t)).n = X.length := rfl
  rw [tn] at m1 hzz ⊢
  obtain ⟨g3, rfl⟩ := hzz hn0
  clear tn hzz
  refine quiet_doC rfl (.agg #[.int .i64 2, .string ⟨#[]⟩, .slice none 0 0, .string ⟨#[]⟩, .slice none 0 0, .slice (some ⟨g3, 0, none⟩) X.length d3, .slice none 0 0, .int .i64 bd, .bool st]) (fun w' hw' => by simp [execOp, go_sem]) ?_
  refine wpQuiet_nil ?_
  have CX3 := bal (Below.refl w3.heap.size w3) (.cells #[.int .i64 0, .string ⟨#[]⟩, .slice none 0 0, .string ⟨#[]⟩, .slice none 0 0, .slice none 0 0, .slice none 0 0, .int .i64 0, .bool false] 95)
  have hqq := btr hD (btr hq CX3)
  refine planC_val rfl rfl (.pointer (some ⟨w3.heap.size, 0, none⟩)) (w'' := w3.alloc (.cells #[.int .i64 0, .string ⟨#[]⟩, .slice none 0 0, .string ⟨#[]⟩, .slice none 0 0, .slice none 0 0, .slice none 0 0, .int .i64 0, .bool false] 95)) (by simp [execOp, go_sem]) (H.below hqq) ?_
  refine plan_fin ?_
  simp only [List.drop_succ_cons, List.drop_zero, Act.put, List.setIfInBounds_toArray, List.set_cons_succ, List.set_cons_zero]
  have RA : (w3.alloc (.cells #[.int .i64 0, .string ⟨#[]⟩, .slice none 0 0, .string ⟨#[]⟩, .slice none 0 0, .slice none 0 0, .slice none 0 0, .int .i64 0, .bool false] 95)).rowIs w3.heap.size 95 9 (rowOf #[.int .i64 0, .string ⟨#[]⟩, .slice none 0 0, .string ⟨#[]⟩, .slice none 0 0, .slice none 0 0, .slice none 0 0, .int .i64 0, .bool false]) := row_newA w3 #[.int .i64 0, .string ⟨#[]⟩, .slice none 0 0, .string ⟨#[]⟩, .slice none 0 0, .slice none 0 0, .slice none 0 0, .int .i64 0, .bool false] 95
  replace H := H.below hqq
  replace R2 := row_below R2 hqq
  replace q0 := btr q0 hqq
  have hXX := hcX.below hqq
  obtain ⟨l3, h3, hKT, kd, kl, kk, kh⟩ : ∃ l3 h3, SepT (w3.alloc (.cells #[.int .i64 0, .string ⟨#[]⟩, .slice none 0 0, .string ⟨#[]⟩, .slice none 0 0, .slice none 0 0, .slice none 0 0, .int .i64 0, .bool false] 95)) (.mk ⟨#[]⟩ X.length (fun k => (X.getD k default).t)) l3 h3 (some ⟨g3, 0, none⟩) ∧ (w3.heap.size < l3 ∨ h3 ≤ w3.heap.size) ∧ w.heap.size + 1 < l3 ∧ l3 ≤ h3 ∧ h3 ≤ w3.heap.size := ⟨_, _, hS.below CX3, .inr (Nat.le_refl _), by have := hD.size; omega, hq.size, Nat.le_refl _⟩
  have hw3 : W0.heap.size ≤ w3.heap.size := Nat.le_trans hD.size hq.size
  have hab : w.heap.size + 1 < w3.heap.size := by omega
  have hgab : g < w3.heap.size := by omega
  have hl3 : w3.heap.size < (w3.alloc (.cells #[.int .i64 0, .string ⟨#[]⟩, .slice none 0 0, .string ⟨#[]⟩, .slice none 0 0, .slice none 0 0, .slice none 0 0, .int .i64 0, .bool false] 95)).heap.size := RA.lt
  clear C1 hcX HD hS hqq CX3 hq hD hw3 hW0
  generalize w3.alloc (.cells #[.int .i64 0, .string ⟨#[]⟩, .slice none 0 0, .string ⟨#[]⟩, .slice none 0 0, .slice none 0 0, .slice none 0 0, .int .i64 0, .bool false] 95) = u at *
  generalize w3.heap.size = ab at *
  have z0 : u.cell? ⟨ab, 0, none⟩ = some (.int .i64 0) := RA.cell (i := 0) (by decide)
  have fz0 : u.frozen? ⟨ab, 0, none⟩ = false := RA.frozen _
  have z1 : u.cell? ⟨ab, 1, none⟩ = some (.string ⟨#[]⟩) := RA.cell (i := 1) (by decide)
  have fz1 : u.frozen? ⟨ab, 1, none⟩ = false := RA.frozen _
  have z2 : u.cell? ⟨ab, 2, none⟩ = some (.slice none 0 0) := RA.cell (i := 2) (by decide)
  have fz2 : u.frozen? ⟨ab, 2, none⟩ = false := RA.frozen _
  have z3 : u.cell? ⟨ab, 3, none⟩ = some (.string ⟨#[]⟩) := RA.cell (i := 3) (by decide)
  have fz3 : u.frozen? ⟨ab, 3, none⟩ = false := RA.frozen _
  have z4 : u.cell? ⟨ab, 4, none⟩ = some (.slice none 0 0) := RA.cell (i := 4) (by decide)
  have fz4 : u.frozen? ⟨ab, 4, none⟩ = false := RA.frozen _
  have z5 : u.cell? ⟨ab, 5, none⟩ = some (.slice none 0 0) := RA.cell (i := 5) (by decide)
  have fz5 : u.frozen? ⟨ab, 5, none⟩ = false := RA.frozen _
  have z6 : u.cell? ⟨ab, 6, none⟩ = some (.slice none 0 0) := RA.cell (i := 6) (by decide)
  have fz6 : u.frozen? ⟨ab, 6, none⟩ = false := RA.frozen _
  have z7 : u.cell? ⟨ab, 7, none⟩ = some (.int .i64 0) := RA.cell (i := 7) (by decide)
  have fz7 : u.frozen? ⟨ab, 7, none⟩ = false := RA.frozen _
  have z8 : u.cell? ⟨ab, 8, none⟩ = some (.bool false) := RA.cell (i := 8) (by decide)
  have fz8 : u.frozen? ⟨ab, 8, none⟩ = false := RA.frozen _
  go_upto_region 2 with fail
  clear z0 fz0 z1 fz1 z2 fz2 z3 fz3 z4 fz4 z5 fz5 z6 fz6 z7 fz7 z8 fz8
  obtain ⟨_, hblk, hszc, hbel⟩ := chain9 RA (.int .i64 2) (.string ⟨#[]⟩) (.slice none 0 0) (.string ⟨#[]⟩) (.slice none 0 0) (.slice (some ⟨g3, 0, none⟩) X.length d3) (.slice none 0 0) (.int .i64 bd) (.bool st)
  have RA2 := row9 RA (.int .i64 2) (.string ⟨#[]⟩) (.slice none 0 0) (.string ⟨#[]⟩) (.slice none 0 0) (.slice (some ⟨g3, 0, none⟩) X.length d3) (.slice none 0 0) (.int .i64 bd) (.bool st)
  generalize (((((((((u.setCell ⟨ab, 0, none⟩ (.int .i64 2)).setCell ⟨ab, 1, none⟩ (.string ⟨#[]⟩)).setCell ⟨ab, 2, none⟩ (.slice none 0 0)).setCell ⟨ab, 3, none⟩ (.string ⟨#[]⟩)).setCell ⟨ab, 4, none⟩ (.slice none 0 0)).setCell ⟨ab, 5, none⟩ (.slice (some ⟨g3, 0, none⟩) X.length d3)).setCell ⟨ab, 6, none⟩ (.slice none 0 0)).setCell ⟨ab, 7, none⟩ (.int .i64 bd)).setCell ⟨ab, 8, none⟩ (.bool st)) = u1 at *
  replace q0 := hbel w q0 (by omega)
  replace hKT := SepT.chainS (by omega) hblk hKT
  have H2 : KcL [(w.heap.size, 0, .slice (some ⟨g, 0, none⟩) X.length cap), (w.heap.size, 1, .int .i64 bd), (w.heap.size, 2, .bool st)] u1 := by
    obtain ⟨s0, s1, s2, _⟩ := H
    have hne : w.heap.size ≠ ab := by omega
    exact ⟨cell_chain hblk hne s0, cell_chain hblk hne s1, cell_chain hblk hne s2, trivial⟩
  replace R2 := R2.of_block (hblk _ (show w.heap.size + 1 ≠ ab by omega))
  have hX2 : CellsD u1 g X := fun i hi => by
    obtain ⟨x0, x1, x2, x3⟩ := hXX i hi
    have hne : g ≠ ab := by omega
    exact ⟨cell_chain hblk hne x0, cell_chain hblk hne x1, cell_chain hblk hne x2, cell_chain hblk hne x3⟩
  replace hl3 : ab < u1.heap.size := by rw [hszc]; exact hl3
  replace kh : h3 ≤ u1.heap.size := by rw [hszc]; omega
  clear hblk hszc hbel RA H hXX
  obtain ⟨s0, s1, s2, _⟩ := H2
  have l0 := cell_lt s0
  go_wp2
  clear s0 s1 s2 l0
  have HX := hid hX2; clear hX2
  go_loopw [16] (fun i wr => ∃ (k : Nat) (v : Value), k ≤ X.length ∧ i = .int .i64 k ∧ wr.rowIs ab 95 9 (rowOf #[.int .i64 2, .string ⟨#[]⟩, .slice none 0 0, .string ⟨#[]⟩, .slice none 0 0, .slice (some ⟨g3, 0, none⟩) X.length d3, v, .int .i64 bd, .bool st]) ∧ wr.ownsRow u1.heap.size 3 1 v k ((zlD X).take k) ∧ (∀ x, x < u1.heap.size → x ≠ ab → wr.heap[x]? = u1.heap[x]?) ∧ u1.heap.size ≤ wr.heap.size ∧ Below w.heap.size w wr) (fun i _ => X.length - (intOf i).toNat)
  case atStart => exact ⟨0, .slice none 0 0, Nat.zero_le _, rfl, RA2, World.ownsRow_nil _ _ _ _, fun x _ _ => rfl, Nat.le_refl _, q0⟩
  case round =>
    obtain ⟨k, v, hk, rfl, hR, ho, hfr, hsz, hb⟩ := hrel
    have hvn : ∃ va vc, v = Value.slice va k vc := by
      obtain ⟨_, ⟨h, h0⟩ | ⟨g, cp, cur, h, _⟩⟩ := ho
      · exact ⟨none, 0, by rw [h, h0]⟩
      · exact ⟨_, _, h⟩
    obtain ⟨va, vc, hve⟩ := hvn
    subst hve
    have HO := hid ho; have HFR := hid hfr
    clear ho hfr
    have y6 : wr.cell? ⟨ab, 6, none⟩ = some (.slice va k vc) := hR.cell (i := 6) (by decide)
    have ly := cell_lt y6
    by_cases hlt : k < X.length
    rotate_left
    · have hke : k = X.length := by omega
      subst hke
      have R5 := R2.of_block (HFR.out _ (by omega) (show w.heap.size + 1 ≠ ab by omega))
      have KT := hid (SepT.frameS (by omega) HFR.out hKT)
      clear y6
      have hlr : w.heap.size + 1 < wr.heap.size := R5.lt
      have ya0 : wr.cell? ⟨ab, 0, none⟩ = some (.int .i64 2) := hR.cell (i := 0) (by decide)
      have fya0 : wr.frozen? ⟨ab, 0, none⟩ = false := hR.frozen _
      have ya1 : wr.cell? ⟨ab, 1, none⟩ = some (.string ⟨#[]⟩) := hR.cell (i := 1) (by decide)
      have fya1 : wr.frozen? ⟨ab, 1, none⟩ = false := hR.frozen _
      have ya2 : wr.cell? ⟨ab, 2, none⟩ = some (.slice none 0 0) := hR.cell (i := 2) (by decide)
      have fya2 : wr.frozen? ⟨ab, 2, none⟩ = false := hR.frozen _
      have ya3 : wr.cell? ⟨ab, 3, none⟩ = some (.string ⟨#[]⟩) := hR.cell (i := 3) (by decide)
      have fya3 : wr.frozen? ⟨ab, 3, none⟩ = false := hR.frozen _
      have ya4 : wr.cell? ⟨ab, 4, none⟩ = some (.slice none 0 0) := hR.cell (i := 4) (by decide)
      have fya4 : wr.frozen? ⟨ab, 4, none⟩ = false := hR.frozen _
      have ya5 : wr.cell? ⟨ab, 5, none⟩ = some (.slice (some ⟨g3, 0, none⟩) X.length d3) := hR.cell (i := 5) (by decide)
      have fya5 : wr.frozen? ⟨ab, 5, none⟩ = false := hR.frozen _
      have ya6 : wr.cell? ⟨ab, 6, none⟩ = some (.slice va X.length vc) := hR.cell (i := 6) (by decide)
      have fya6 : wr.frozen? ⟨ab, 6, none⟩ = false := hR.frozen _
      have ya7 : wr.cell? ⟨ab, 7, none⟩ = some (.int .i64 bd) := hR.cell (i := 7) (by decide)
      have fya7 : wr.frozen? ⟨ab, 7, none⟩ = false := hR.frozen _
      have ya8 : wr.cell? ⟨ab, 8, none⟩ = some (.bool st) := hR.cell (i := 8) (by decide)
      have fya8 : wr.frozen? ⟨ab, 8, none⟩ = false := hR.frozen _
      have zr0 : wr.cell? ⟨w.heap.size + 1, 0, none⟩ = some (.int .i64 0) := R5.cell (i := 0) (by decide)
      have fzr0 : wr.frozen? ⟨w.heap.size + 1, 0, none⟩ = false := R5.frozen _
      have zr1 : wr.cell? ⟨w.heap.size + 1, 1, none⟩ = some (.string ⟨#[]⟩) := R5.cell (i := 1) (by decide)
      have fzr1 : wr.frozen? ⟨w.heap.size + 1, 1, none⟩ = false := R5.frozen _
      have zr2 : wr.cell? ⟨w.heap.size + 1, 2, none⟩ = some (.slice none 0 0) := R5.cell (i := 2) (by decide)
      have fzr2 : wr.frozen? ⟨w.heap.size + 1, 2, none⟩ = false := R5.frozen _
      have zr3 : wr.cell? ⟨w.heap.size + 1, 3, none⟩ = some (.string ⟨#[]⟩) := R5.cell (i := 3) (by decide)
      have fzr3 : wr.frozen? ⟨w.heap.size + 1, 3, none⟩ = false := R5.frozen _
      have zr4 : wr.cell? ⟨w.heap.size + 1, 4, none⟩ = some (.slice none 0 0) := R5.cell (i := 4) (by decide)
      have fzr4 : wr.frozen? ⟨w.heap.size + 1, 4, none⟩ = false := R5.frozen _
      have zr5 : wr.cell? ⟨w.heap.size + 1, 5, none⟩ = some (.slice none 0 0) := R5.cell (i := 5) (by decide)
      have fzr5 : wr.frozen? ⟨w.heap.size + 1, 5, none⟩ = false := R5.frozen _
      have zr6 : wr.cell? ⟨w.heap.size + 1, 6, none⟩ = some (.slice none 0 0) := R5.cell (i := 6) (by decide)
      have fzr6 : wr.frozen? ⟨w.heap.size + 1, 6, none⟩ = false := R5.frozen _
      have zr7 : wr.cell? ⟨w.heap.size + 1, 7, none⟩ = some (.int .i64 0) := R5.cell (i := 7) (by decide)
      have fzr7 : wr.frozen? ⟨w.heap.size + 1, 7, none⟩ = false := R5.frozen _
      have zr8 : wr.cell? ⟨w.heap.size + 1, 8, none⟩ = some (.bool false) := R5.cell (i := 8) (by decide)
      have fzr8 : wr.frozen? ⟨w.heap.size + 1, 8, none⟩ = false := R5.frozen _
      obtain ⟨⟨t0, t1, t2, t3, t4, t5, t6, t7, t8⟩, hblk, hszc, hbel⟩ := chain9 R5 (.int .i64 2) (.string ⟨#[]⟩) (.slice none 0 0) (.string ⟨#[]⟩) (.slice none 0 0) (.slice (some ⟨g3, 0, none⟩) X.length d3) (.slice va X.length vc) (.int .i64 bd) (.bool st)
      have HB := hid (hbel w hb (by omega))
      have HBk := hid hblk
      have HO2 := hid (own_kpB (fun g e => hblk g (fun e2 => by have := own_low0 HO.out e; omega)) HO.out)
      have KT2 := hid (SepT.chainS (.inl (by omega)) hblk KT.out)
      have SZ := hid (Nat.le_trans (show u1.heap.size ≤ wr.heap.size from hsz) (Nat.le_of_eq hszc.symm))
      clear hblk hszc hbel hR R5 HO KT hKT R2 RA2 HFR HX hb HBk
      go_wp2
      refine bodyPost_ret (v := .agg #[.int .i64 2, .string ⟨#[]⟩, .slice none 0 0, .string ⟨#[]⟩, .slice none 0 0, .slice (some ⟨g3, 0, none⟩) X.length d3, .slice va X.length vc, .int .i64 bd, .bool st]) (by simp [results, Try.results309, go_sem, t0, t1, t2, t3, t4, t5, t6, t7, t8]) rfl ?_
      clear t0 t1 t2 t3 t4 t5 t6 t7 t8
      obtain ⟨A4, c4, e1, n1, n2, hI⟩ := own_intsB HO2.out
      injection e1 with e1 _ e3
      subst e1 e3
      exact ⟨g3, d3, va, vc, rfl, ⟨l3, l3, u1.heap.size, by omega, Nat.le_refl _, by omega, SZ.out, .inl rfl, .inl rfl, KT2.out.mono (Nat.le_refl _) (by omega), hI⟩, m1, m2, n1, n2, HB.out⟩
    obtain ⟨x0, x1, x2, x3⟩ := HX.out k hlt
    have hgl := cell_lt x0
    have hgk : ∀ {o : Nat} {z : Value}, u1.cell? ⟨g, o, none⟩ = some z → wr.cell? ⟨g, o, none⟩ = some z := fun {o z} h => (World.cell?_of_block (a := ⟨g, o, none⟩) (HFR.out g hgl (by omega))).trans h
    replace x0 := hgk x0
    replace x1 := hgk x1
    replace x2 := hgk x2
    replace x3 := hgk x3
    have gg := cell_lt x0
    have hnx := zlD_next hlt
    clear hgk hgl
    generalize hx : X.getD k default = x at *
    have HNX := hid hnx; clear hx hnx
    have CX := bal (bal (Below.refl wr.heap.size wr) (.cells #[.string (tx x.t), .string x.t.nm, .slice x.a x.t.n x.c, .int .i64 x.z] 344)) (.cells #[.int .i64 x.z] 3)
    have hown4 := own_belowT CX HO.out
    have hR4 := row_below hR CX
    have hl4 : u1.heap.size ≤ ((wr.alloc (.cells #[.string (tx x.t), .string x.t.nm, .slice x.a x.t.n x.c, .int .i64 x.z] 344)).alloc (.cells #[.int .i64 x.z] 3)).heap.size := Nat.le_trans hsz CX.size
    have hnews := new1 (wr.alloc (.cells #[.string (tx x.t), .string x.t.nm, .slice x.a x.t.n x.c, .int .i64 x.z] 344)) (.int .i64 x.z) 3
    rw [show (wr.alloc (.cells #[.string (tx x.t), .string x.t.nm, .slice x.a x.t.n x.c, .int .i64 x.z] 344)).heap.size = wr.heap.size + 1 by simp] at hnews
    have hone : ∀ u ∈ ([.int .i64 x.z] : List Value), u.oneCell' = true := fun u hu => by simp at hu; subst hu; rfl
    go_wp2_with ((at_builtin; go_loud (refine wpList_append_own_at _ rfl _ _ 31 rfl u1.heap.size 3 i0 _ 1 8 Try.underlying31 hi hz0 hz1 hz2 rfl (by decide) (.slice va k vc) k ((zlD X).take k) rfl hown4 ⟨wr.heap.size + 1, 0, none⟩ 1 1 [.int .i64 x.z] rfl rfl hnews hone (by unfold maxLen; omega) (by omega) hl4 ?_); intro v' w6 hown6 hgrow _ _; obtain ⟨va', vc', hve'⟩ := own_sl hown6; subst hve'; have hR6 := hR4.of_block (hgrow.block ab hR4.lt (fun e => by have := own_low0 hown4 e.symm; omega)); have y7 : w6.cell? ⟨ab, 6, none⟩ = some (.slice va k vc) := hR6.cell (i := 6) (by decide); have f7 : w6.frozen? ⟨ab, 6, none⟩ = false := hR6.frozen _))
    go_roundw
    case rel =>
      refine ⟨k + 1, .slice va' (k + 1) vc', by omega, by go_num, (hR6.set 6 (.slice va' (k + 1) vc')).congr (nine ⟨rfl, rfl, rfl, rfl, rfl, rfl, rfl, rfl, rfl⟩), ?_, fun x hx1 hx2 => ?_, ?_, ?_⟩
      · rw [HNX.out]
        exact own_setT2 (fun e => by have := own_low0 hown6 e; omega) hown6
      · have hxw : x < wr.heap.size := Nat.lt_of_lt_of_le hx1 hsz
        exact (Below.heap_setCell _ ⟨ab, 6, none⟩ _ x hx2).trans ((hgrow.block x (Nat.lt_of_lt_of_le hx1 hl4) (fun e => by have := own_low0 hown4 e.symm; omega)).trans ((CX.block x hxw).trans (HFR.out x hx1 hx2)))
      · have := hgrow.size
        simp only [World.setCell]
        simpa using Nat.le_trans hl4 this
      · exact bst (below_grow (btr hb CX) hgrow (fun g e => Nat.le_trans q0.size (own_low0 hown4 e))) (p := ⟨ab, 6, none⟩) (show w.heap.size ≤ ab by omega) _
    case measure => simp [intOf]; omega
end Go.Proofs.Ytanfljajafelgaa

namespace Go.Proofs.Ytanfljajafelgaa
set_option linter.unusedVariables false
set_option linter.unusedSimpArgs false
open Go.RowKit
/-- numbers that are read in a block of numbers -/
def IntT (w : World) (A : Option Addr) (m : Nat) (Z : Nat → Int) : Prop := m = 0 ∨ ∃ (g : Nat) (cs : Array Value), A = some ⟨g, 0, none⟩ ∧ w.heap[g]? = some (.cells cs 3 (0, 0)) ∧ ∀ k, k < m → cs[k]? = some (.int .i64 (Z k))
theorem IntT.keepB {w w' : World} {A : Option Addr} {m : Nat} {Z : Nat → Int} (h : IntT w A m Z) (hk : ∀ (g : Nat) (cs : Array Value), w.heap[g]? = some (Obj.cells cs 3 (0, 0)) → w'.heap[g]? = some (Obj.cells cs 3 (0, 0))) : IntT w' A m Z := by
  rcases h with h | ⟨g, cs, e, hg, hc⟩
  · exact .inl h
  · exact .inr ⟨g, cs, e, hk g cs hg, hc⟩
theorem IntT.below {w w' : World} {A : Option Addr} {m : Nat} {Z : Nat → Int} (h : IntT w A m Z) (hb : Below w.heap.size w w') : IntT w' A m Z :=
  h.keepB fun g cs hg => (hb.block g (Array.getElem?_eq_some_iff.1 hg).1).trans hg
theorem IntT.ints {w : World} {A : Option Addr} {m : Nat} {Z : Nat → Int} (h : IntT w A m Z) : Ints w A m Z := by
  rcases h with h | ⟨g, cs, e, hg, hc⟩
  · exact .inl h
  · refine .inr ⟨g, 0, e, (Array.getElem?_eq_some_iff.1 hg).1, fun k hk => ?_⟩
    rw [Nat.zero_add]
    simp [World.cell?, hg, hc k hk]
/-- a block of another type is written, and new blocks -/
theorem IntT.frame {w C : World} {g n : Nat} {T : TypeId} {f : Nat → Value} {A : Option Addr} {m : Nat} {Z : Nat → Int} (h : IntT w A m Z) (hR : w.rowIs g T n f) (hT : T ≠ 3) (hb : ∀ x, x < w.heap.size → x ≠ g → C.heap[x]? = w.heap[x]?) : IntT C A m Z :=
  h.keepB fun x cs hx => (hb x (Array.getElem?_eq_some_iff.1 hx).1 (fun e => by
    obtain ⟨arr, hblk, _⟩ := hR
    rw [e, hblk] at hx
    injection hx with hx
    injection hx with _ h2 _
    exact hT h2)).trans hx
/-- numbers appended to an empty row -/
theorem app0_ints (g : Nat) (A4 : Option Addr) (c4 m : Nat) (Z : Nat → Int) (ty : TypeId) (w : World) (hm : m ≤ 1048576) (hI : Ints w A4 m Z) :
    ∃ A c w', (Builtin.append_ #[31, 31] ty #[.slice (some ⟨g, 0, none⟩) 0 0, .slice A4 m c4]).run Try.prog w = .ok (.slice A m c) w' ∧ Below w.heap.size w w' ∧ IntT w' A m Z := by
  obtain ⟨i0, hi, hz0, hz1, hz2⟩ := info_parts infoI
  by_cases h0 : m = 0
  · subst h0
    refine ⟨some ⟨g, 0, none⟩, 0, w, ?_, Below.refl _ _, .inl rfl⟩
    cases A4 with
    | none => simp [Builtin.append_, run_underlying Try.underlying31, sizeOf, typeInfo, hi, Builtin.lenOf, Builtin.firstCells, storeCells]
    | some a =>
      have hf := run_firstCells_some (P := Try.prog) w i0.size 0 a 0 c4 [] (by simp) (fun j v h => by simp at h)
      simp [Builtin.append_, run_underlying Try.underlying31, sizeOf, typeInfo, hi, Builtin.lenOf, hf, storeCells]
  · rcases hI with h | ⟨g4, off, rfl, hg4, hc⟩
    · exact absurd h h0
    have hr := run_append_grow (P := Try.prog) w 31 ty 3 i0 (.int .i64 0) Try.underlying31 hi hz0 ⟨g, 0, none⟩ 0 0 [] (by simp) (fun j v h => by simp at h) ⟨g4, off, none⟩ m c4 ((List.range m).map fun k => .int .i64 (Z k)) (by simp [hz1])
      (fun j v h => by
        rw [List.getElem?_map] at h
        by_cases hj : j < m
        · rw [List.getElem?_range hj] at h
          simp at h
          subst h
          have := hc j hj
          have e : (⟨g4, off, none⟩ : Addr).add j = ⟨g4, off + j, none⟩ := by cases j <;> simp [Addr.add]
          rw [e]; exact this
        · rw [List.getElem?_eq_none (by simp; omega)] at h
          simp at h) (by omega) (by omega) (by rw [Nat.zero_add, nextslicecap_zero (by omega), hz2]; omega)
    rw [Nat.zero_add] at hr
    refine ⟨_, _, _, hr, bal (Below.refl w.heap.size w).drew _, .inr ⟨w.heap.size, _, rfl, heap_new w.drew _ _, fun k hk => ?_⟩⟩
    rw [Array.empty_append]
    rw [Array.getElem?_append_left (by simp; omega)]
    simp [hk]
/-- what each operation of the struct's making leaves -/
def PoCp (x : At) (b0 : Nat) (A1 : Option Addr) (c1 : Nat) (A2 : Option Addr) (c2 : Nat) (A4 : Option Addr) (c4 : Nat) (j : Nat) (v : Value) (W : World) : Prop :=
  match j with
  | 0 => v = .pointer (some ⟨b0, 0, none⟩)
  | 1 => v = .int .i64 x.kd
  | 2 => v = .pointer (some ⟨b0, 1, none⟩)
  | 3 => v = .agg #[.string x.a.nm, .slice A1 x.a.n c1]
  | 4 => ∃ A c, v = .agg #[.string x.a.nm, .slice A x.a.n c] ∧ KidT 0 W x.a A
  | 5 => v = .pointer (some ⟨b0, 3, none⟩)
  | 6 => v = .agg #[.string x.b.nm, .slice A2 x.b.n c2]
  | 7 => ∃ A c, v = .agg #[.string x.b.nm, .slice A x.b.n c] ∧ KidT 0 W x.b A
  | 8 => ∃ g, v = .slice (some ⟨g, 0, none⟩) 0 0
  | 9 => v = .pointer (some ⟨b0, 6, none⟩)
  | 10 => v = .slice A4 x.m c4
  | 11 => ∃ A c, v = .slice A x.m c ∧ IntT W A x.m x.Z
  | 12 => v = .pointer (some ⟨b0, 7, none⟩)
  | 13 => v = .int .i64 x.bd
  | 14 => v = .pointer (some ⟨b0, 8, none⟩)
  | 15 => v = .bool x.st
  | 16 => ∃ B1 d1 B2 d2 B4 d4, v = .agg #[.int .i64 x.kd, .string x.a.nm, .slice B1 x.a.n d1, .string x.b.nm, .slice B2 x.b.n d2, .slice none 0 0, .slice B4 x.m d4, .int .i64 x.bd, .bool x.st] ∧ KidT 0 W x.a B1 ∧ KidT 0 W x.b B2 ∧ IntT W B4 x.m x.Z
  | 17 => ∃ p, v = .pointer (some ⟨p, 0, none⟩) ∧ b0 + 1 < p ∧ W.rowIs p 95 9 (rowOf #[.int .i64 0, .string ⟨#[]⟩, .slice none 0 0, .string ⟨#[]⟩, .slice none 0 0, .slice none 0 0, .slice none 0 0, .int .i64 0, .bool false])
  | _ => True
theorem poCp_mono (x : At) (b0 : Nat) (A1 : Option Addr) (c1 : Nat) (A2 : Option Addr) (c2 : Nat) (A4 : Option Addr) (c4 : Nat) (j : Nat) (v : Value) (W W' : World) (hb : Below W.heap.size W W') (h : PoCp x b0 A1 c1 A2 c2 A4 c4 j v W) : PoCp x b0 A1 c1 A2 c2 A4 c4 j v W' := by
  match j, h with
  | 0, h => exact h
  | 1, h => exact h
  | 2, h => exact h
  | 3, h => exact h
  | 4, ⟨A, c, e, hk⟩ => exact ⟨A, c, e, hk.keep (KpT.below hb)⟩
  | 5, h => exact h
  | 6, h => exact h
  | 7, ⟨A, c, e, hk⟩ => exact ⟨A, c, e, hk.keep (KpT.below hb)⟩
  | 8, h => exact h
  | 9, h => exact h
  | 10, h => exact h
  | 11, ⟨A, c, e, hk⟩ => exact ⟨A, c, e, hk.below hb⟩
  | 12, h => exact h
  | 13, h => exact h
  | 14, h => exact h
  | 15, h => exact h
  | 16, ⟨B1, d1, B2, d2, B4, d4, e, k1, k2, k4⟩ => exact ⟨B1, d1, B2, d2, B4, d4, e, k1.keep (KpT.below hb), k2.keep (KpT.below hb), k4.below hb⟩
  | 17, ⟨p, e, hp, hr⟩ => exact ⟨p, e, hp, row_below hr hb⟩
  | n + 18, h => trivial
/-- an atom whose slices are read in blocks of their types -/
def AtU (w : World) (x : At) (A1 A2 A3 A4 : Option Addr) : Prop := KidT 0 w x.a A1 ∧ KidT 0 w x.b A2 ∧ KidT 0 w (.mk ⟨#[]⟩ x.n x.kid) A3 ∧ IntT w A4 x.m x.Z
theorem AtU.k {w : World} {x : At} {A1 A2 A3 A4 : Option Addr} (h : AtU w x A1 A2 A3 A4) : AtK w x A1 A2 A3 A4 := ⟨h.1.kids, h.2.1.kids, h.2.2.1.kids, h.2.2.2.ints⟩
theorem AtU.below {w w' : World} {x : At} {A1 A2 A3 A4 : Option Addr} (h : AtU w x A1 A2 A3 A4) (hb : Below w.heap.size w w') : AtU w' x A1 A2 A3 A4 :=
  ⟨h.1.keep (KpT.below hb), h.2.1.keep (KpT.below hb), h.2.2.1.keep (KpT.below hb), h.2.2.2.below hb⟩
theorem AtU.frame {w C : World} {x : At} {A1 A2 A3 A4 : Option Addr} {g n : Nat} {T : TypeId} {f : Nat → Value} (h : AtU w x A1 A2 A3 A4) (hR : w.rowIs g T n f) (hT : T ≠ 76) (hT2 : T ≠ 3) (hb : ∀ y, y ≠ g → C.heap[y]? = w.heap[y]?) : AtU C x A1 A2 A3 A4 :=
  ⟨h.1.keep (KpT.chain hR hT hb), h.2.1.keep (KpT.chain hR hT hb), h.2.2.1.keep (KpT.chain hR hT hb), h.2.2.2.frame hR hT2 (fun y _ e => hb y e)⟩
def SCpP (x : At) (W : World) (e : Ending) (w' : World) : Prop :=
  ∃ A1 d1 A2 d2 A3 d3 A4 d4, e = .returned (.agg (x.cs A1 d1 A2 d2 A3 d3 A4 d4)) ∧ AtU w' x A1 A2 A3 A4 ∧ Below W.heap.size W w'
set_option maxRecDepth 100000 in
set_option maxHeartbeats 8000000 in
theorem l6copy_any (x : At) (hF : AtF 1048576 x) (A1 : Option Addr) (c1 : Nat) (A2 : Option Addr) (c2 : Nat) (A3 : Option Addr) (c3 : Nat) (A4 : Option Addr) (c4 : Nat) (w : World) (hA : AtK w x A1 A2 A3 A4) :
    Calls Try.prog 137 #[.agg (x.cs A1 c1 A2 c2 A3 c3 A4 c4)] w (SCpP x w) := by
  have C1 := hid (fun W (h : Below w.heap.size w W) => scopy_any x.a hF.1 A1 c1 W (hA.1.below h))
  have C2 := hid (fun W (h : Below w.heap.size w W) => scopy_any x.b hF.2.1 A2 c2 W (hA.2.1.below h))
  have C4 := hid (fun W (h : Below w.heap.size w W) => hA.2.2.2.below h)
  have CK := hid (fun k (hk : k < x.n) a9 c9 W h => scopy_any (x.kid k) (hF.2.2.2.1 k hk) a9 c9 W h)
  have hA3 := hA.2.2.1
  have hn := hF.2.2.1
  have hm := hF.2.2.2.2
  have HPo := hid (fun (b0 : Nat) => poCp_mono x b0 A1 c1 A2 c2 A4 c4)
  clear hF hA
  have H : KcL [(w.heap.size, 0, .int .i64 x.kd), (w.heap.size, 1, .string x.a.nm), (w.heap.size, 2, .slice A1 x.a.n c1), (w.heap.size, 3, .string x.b.nm), (w.heap.size, 4, .slice A2 x.b.n c2), (w.heap.size, 5, .slice A3 x.n c3), (w.heap.size, 6, .slice A4 x.m c4), (w.heap.size, 7, .int .i64 x.bd), (w.heap.size, 8, .bool x.st)] ((w.alloc (.cells #[.int .i64 x.kd, .string x.a.nm, .slice A1 x.a.n c1, .string x.b.nm, .slice A2 x.b.n c2, .slice A3 x.n c3, .slice A4 x.m c4, .int .i64 x.bd, .bool x.st] 95)).alloc (.cells #[.int .i64 0, .string ⟨#[]⟩, .slice none 0 0, .string ⟨#[]⟩, .slice none 0 0, .slice none 0 0, .slice none 0 0, .int .i64 0, .bool false] 95)) := by
    refine ⟨?_, ?_, ?_, ?_, ?_, ?_, ?_, ?_, ?_, trivial⟩ <;> simp [At.cs, go_sem]
  have q0 := bal (bal (Below.refl w.heap.size w) (.cells #[.int .i64 x.kd, .string x.a.nm, .slice A1 x.a.n c1, .string x.b.nm, .slice A2 x.b.n c2, .slice A3 x.n c3, .slice A4 x.m c4, .int .i64 x.bd, .bool x.st] 95)) (.cells #[.int .i64 0, .string ⟨#[]⟩, .slice none 0 0, .string ⟨#[]⟩, .slice none 0 0, .slice none 0 0, .slice none 0 0, .int .i64 0, .bool false] 95)
  have R2 : ((w.alloc (.cells #[.int .i64 x.kd, .string x.a.nm, .slice A1 x.a.n c1, .string x.b.nm, .slice A2 x.b.n c2, .slice A3 x.n c3, .slice A4 x.m c4, .int .i64 x.bd, .bool x.st] 95)).alloc (.cells #[.int .i64 0, .string ⟨#[]⟩, .slice none 0 0, .string ⟨#[]⟩, .slice none 0 0, .slice none 0 0, .slice none 0 0, .int .i64 0, .bool false] 95)).rowIs (w.heap.size + 1) 95 9 (rowOf #[.int .i64 0, .string ⟨#[]⟩, .slice none 0 0, .string ⟨#[]⟩, .slice none 0 0, .slice none 0 0, .slice none 0 0, .int .i64 0, .bool false]) := by
    have h := row_newA (w.alloc (.cells #[.int .i64 x.kd, .string x.a.nm, .slice A1 x.a.n c1, .string x.b.nm, .slice A2 x.b.n c2, .slice A3 x.n c3, .slice A4 x.m c4, .int .i64 x.bd, .bool x.st] 95)) #[.int .i64 0, .string ⟨#[]⟩, .slice none 0 0, .string ⟨#[]⟩, .slice none 0 0, .slice none 0 0, .slice none 0 0, .int .i64 0, .bool false] 95
    rw [World.size_alloc] at h
    exact h
  show Calls _ _ #[.agg #[.int .i64 x.kd, .string x.a.nm, .slice A1 x.a.n c1, .string x.b.nm, .slice A2 x.b.n c2, .slice A3 x.n c3, .slice A4 x.m c4, .int .i64 x.bd, .bool x.st]] w _
  go_enter Try.func137, Try.ntmps137
  go_upto_region 1 with fail
  have zz : ((w.alloc (.cells #[.int .i64 x.kd, .string x.a.nm, .slice A1 x.a.n c1, .string x.b.nm, .slice A2 x.b.n c2, .slice A3 x.n c3, .slice A4 x.m c4, .int .i64 x.bd, .bool x.st] 95)).alloc (.cells #[.int .i64 0, .string ⟨#[]⟩, .slice none 0 0, .string ⟨#[]⟩, .slice none 0 0, .slice none 0 0, .slice none 0 0, .int .i64 0, .bool false] 95)).heap.size = w.heap.size + 2 := by simp
  have hD := (Below.refl ((w.alloc (.cells #[.int .i64 x.kd, .string x.a.nm, .slice A1 x.a.n c1, .string x.b.nm, .slice A2 x.b.n c2, .slice A3 x.n c3, .slice A4 x.m c4, .int .i64 x.bd, .bool x.st] 95)).alloc (.cells #[.int .i64 0, .string ⟨#[]⟩, .slice none 0 0, .string ⟨#[]⟩, .slice none 0 0, .slice none 0 0, .slice none 0 0, .int .i64 0, .bool false] 95)).heap.size ((w.alloc (.cells #[.int .i64 x.kd, .string x.a.nm, .slice A1 x.a.n c1, .string x.b.nm, .slice A2 x.b.n c2, .slice A3 x.n c3, .slice A4 x.m c4, .int .i64 x.bd, .bool x.st] 95)).alloc (.cells #[.int .i64 0, .string ⟨#[]⟩, .slice none 0 0, .string ⟨#[]⟩, .slice none 0 0, .slice none 0 0, .slice none 0 0, .int .i64 0, .bool false] 95))).drew
  generalize (w.alloc (.cells #[.int .i64 x.kd, .string x.a.nm, .slice A1 x.a.n c1, .string x.b.nm, .slice A2 x.b.n c2, .slice A3 x.n c3, .slice A4 x.m c4, .int .i64 x.bd, .bool x.st] 95)).alloc (.cells #[.int .i64 0, .string ⟨#[]⟩, .slice none 0 0, .string ⟨#[]⟩, .slice none 0 0, .slice none 0 0, .slice none 0 0, .int .i64 0, .bool false] 95) = w1 at *
  refine region_stab (fun W => Below w1.heap.size w1 W) (PoCp x w.heap.size A1 c1 A2 c2 A4 c4) [[], [0], [], [2], [3], [], [5], [6], [], [], [9], [8, 10], [], [12], [], [14], [1, 4, 7, 11, 13, 15], []] 18 rfl (by kernel_rfl) hD (fun W W' h1 h2 => btr h2 h1) (HPo.out w.heap.size) (fun i hi => ?_) ?_
  · match i, hi with
    | 0, _ =>
      refine ⟨_, rfl, fun V W hC hP => ?_⟩
      simp only [List.getD_cons_zero, List.getD_cons_succ, puts, dstOf, List.getElem?_toArray, List.getElem?_cons_zero, List.getElem?_cons_succ, Option.bind_some]
      exact stm_quiet (v := .pointer (some ⟨w.heap.size, 0, none⟩)) (by simp [execOp, go_sem]) rfl
    | 1, _ =>
      refine ⟨_, rfl, fun V W hC hP => ?_⟩
      have h0 := hP 0 (by decide)
      obtain ⟨s0, s1, s2, s3, s4, s5, s6, s7, s8, _⟩ := H.below hC
      replace h0 : V 0 = _ := h0
      simp only [List.getD_cons_zero, List.getD_cons_succ, puts, dstOf, List.getElem?_toArray, List.getElem?_cons_zero, List.getElem?_cons_succ, Option.bind_some, h0]
      exact stm_quiet (v := .int .i64 x.kd) (by simp [execOp, go_sem, s0]) rfl
    | 2, _ =>
      refine ⟨_, rfl, fun V W hC hP => ?_⟩
      simp only [List.getD_cons_zero, List.getD_cons_succ, puts, dstOf, List.getElem?_toArray, List.getElem?_cons_zero, List.getElem?_cons_succ, Option.bind_some]
      exact stm_quiet (v := .pointer (some ⟨w.heap.size, 1, none⟩)) (by simp [execOp, go_sem]) rfl
    | 3, _ =>
      refine ⟨_, rfl, fun V W hC hP => ?_⟩
      have h2 := hP 2 (by decide)
      obtain ⟨s0, s1, s2, s3, s4, s5, s6, s7, s8, _⟩ := H.below hC
      replace h2 : V 2 = _ := h2
      simp only [List.getD_cons_zero, List.getD_cons_succ, puts, dstOf, List.getElem?_toArray, List.getElem?_cons_zero, List.getElem?_cons_succ, Option.bind_some, h2]
      exact stm_quiet (run_load2 rfl (by kernel_rfl) Try.underlying76 rfl (by kernel_rfl) s1 s2) rfl
    | 4, _ =>
      refine ⟨_, rfl, fun V W hC hP => ?_⟩
      have h3 := hP 3 (by decide)
      replace h3 : V 3 = _ := h3
      simp only [List.getD_cons_zero, List.getD_cons_succ, puts, dstOf, List.getElem?_toArray, List.getElem?_cons_zero, List.getElem?_cons_succ, Option.bind_some, h3]
      refine stm_call (f := 140) (args := #[.agg #[.string x.a.nm, .slice A1 x.a.n c1]]) (by simp [execOp, go_sem]) ((C1.out W (btr q0 hC)).mono ?_)
      rintro e w3 ⟨B, d, rfl, _, _, hS, hq⟩
      exact ⟨_, rfl, hq, B, d, rfl, hS.kidT (Nat.zero_le _)⟩
    | 5, _ =>
      refine ⟨_, rfl, fun V W hC hP => ?_⟩
      simp only [List.getD_cons_zero, List.getD_cons_succ, puts, dstOf, List.getElem?_toArray, List.getElem?_cons_zero, List.getElem?_cons_succ, Option.bind_some]
      exact stm_quiet (v := .pointer (some ⟨w.heap.size, 3, none⟩)) (by simp [execOp, go_sem]) rfl
    | 6, _ =>
      refine ⟨_, rfl, fun V W hC hP => ?_⟩
      have h5 := hP 5 (by decide)
      obtain ⟨s0, s1, s2, s3, s4, s5, s6, s7, s8, _⟩ := H.below hC
      replace h5 : V 5 = _ := h5
      simp only [List.getD_cons_zero, List.getD_cons_succ, puts, dstOf, List.getElem?_toArray, List.getElem?_cons_zero, List.getElem?_cons_succ, Option.bind_some, h5]
      exact stm_quiet (run_load2 rfl (by kernel_rfl) Try.underlying76 rfl (by kernel_rfl) s3 s4) rfl
    | 7, _ =>
      refine ⟨_, rfl, fun V W hC hP => ?_⟩
      have h6 := hP 6 (by decide)
      replace h6 : V 6 = _ := h6
      simp only [List.getD_cons_zero, List.getD_cons_succ, puts, dstOf, List.getElem?_toArray, List.getElem?_cons_zero, List.getElem?_cons_succ, Option.bind_some, h6]
      refine stm_call (f := 140) (args := #[.agg #[.string x.b.nm, .slice A2 x.b.n c2]]) (by simp [execOp, go_sem]) ((C2.out W (btr q0 hC)).mono ?_)
      rintro e w3 ⟨B, d, rfl, _, _, hS, hq⟩
      exact ⟨_, rfl, hq, B, d, rfl, hS.kidT (Nat.zero_le _)⟩
    | 8, _ =>
      refine ⟨_, rfl, fun V W hC hP => ?_⟩
      simp only [List.getD_cons_zero, List.getD_cons_succ, puts, dstOf, List.getElem?_toArray, List.getElem?_cons_zero, List.getElem?_cons_succ, Option.bind_some]
      exact stm_val (v := .slice (some ⟨W.heap.size, 0, none⟩) 0 0) (w' := W.alloc (.cells #[] 3)) (by simp [execOp, go_sem]) (bal (Below.refl _ _) _) ⟨_, rfl⟩
    | 9, _ =>
      refine ⟨_, rfl, fun V W hC hP => ?_⟩
      simp only [List.getD_cons_zero, List.getD_cons_succ, puts, dstOf, List.getElem?_toArray, List.getElem?_cons_zero, List.getElem?_cons_succ, Option.bind_some]
      exact stm_quiet (v := .pointer (some ⟨w.heap.size, 6, none⟩)) (by simp [execOp, go_sem]) rfl
    | 10, _ =>
      refine ⟨_, rfl, fun V W hC hP => ?_⟩
      have h9 := hP 9 (by decide)
      obtain ⟨s0, s1, s2, s3, s4, s5, s6, s7, s8, _⟩ := H.below hC
      replace h9 : V 9 = _ := h9
      simp only [List.getD_cons_zero, List.getD_cons_succ, puts, dstOf, List.getElem?_toArray, List.getElem?_cons_zero, List.getElem?_cons_succ, Option.bind_some, h9]
      exact stm_quiet (v := .slice A4 x.m c4) (by simp [execOp, go_sem, s6]) rfl
    | 11, _ =>
      refine ⟨_, rfl, fun V W hC hP => ?_⟩
      have h8 := hP 8 (by decide)
      have h10 := hP 10 (by decide)
      obtain ⟨g8, h8'⟩ := h8
      replace h10 : V 10 = _ := h10
      obtain ⟨B, d, w', hr, hb, hI⟩ := app0_ints g8 A4 c4 x.m x.Z 31 W hm (C4.out W (btr q0 hC))
      simp only [List.getD_cons_zero, List.getD_cons_succ, puts, dstOf, List.getElem?_toArray, List.getElem?_cons_zero, List.getElem?_cons_succ, Option.bind_some, h8', h10]
      exact stm_append rfl (by kernel_rfl) (by kernel_rfl) hr hb ⟨B, d, rfl, hI⟩
    | 12, _ =>
      refine ⟨_, rfl, fun V W hC hP => ?_⟩
      simp only [List.getD_cons_zero, List.getD_cons_succ, puts, dstOf, List.getElem?_toArray, List.getElem?_cons_zero, List.getElem?_cons_succ, Option.bind_some]
      exact stm_quiet (v := .pointer (some ⟨w.heap.size, 7, none⟩)) (by simp [execOp, go_sem]) rfl
    | 13, _ =>
      refine ⟨_, rfl, fun V W hC hP => ?_⟩
      have h12 := hP 12 (by decide)
      obtain ⟨s0, s1, s2, s3, s4, s5, s6, s7, s8, _⟩ := H.below hC
      replace h12 : V 12 = _ := h12
      simp only [List.getD_cons_zero, List.getD_cons_succ, puts, dstOf, List.getElem?_toArray, List.getElem?_cons_zero, List.getElem?_cons_succ, Option.bind_some, h12]
      exact stm_quiet (v := .int .i64 x.bd) (by simp [execOp, go_sem, s7]) rfl
    | 14, _ =>
      refine ⟨_, rfl, fun V W hC hP => ?_⟩
      simp only [List.getD_cons_zero, List.getD_cons_succ, puts, dstOf, List.getElem?_toArray, List.getElem?_cons_zero, List.getElem?_cons_succ, Option.bind_some]
      exact stm_quiet (v := .pointer (some ⟨w.heap.size, 8, none⟩)) (by simp [execOp, go_sem]) rfl
    | 15, _ =>
      refine ⟨_, rfl, fun V W hC hP => ?_⟩
      have h14 := hP 14 (by decide)
      obtain ⟨s0, s1, s2, s3, s4, s5, s6, s7, s8, _⟩ := H.below hC
      replace h14 : V 14 = _ := h14
      simp only [List.getD_cons_zero, List.getD_cons_succ, puts, dstOf, List.getElem?_toArray, List.getElem?_cons_zero, List.getElem?_cons_succ, Option.bind_some, h14]
      exact stm_quiet (v := .bool x.st) (by simp [execOp, go_sem, s8]) rfl
    | 16, _ =>
      refine ⟨_, rfl, fun V W hC hP => ?_⟩
      have h1 := hP 1 (by decide)
      have h4 := hP 4 (by decide)
      have h7 := hP 7 (by decide)
      have h11 := hP 11 (by decide)
      have h13 := hP 13 (by decide)
      have h15 := hP 15 (by decide)
      replace h1 : V 1 = _ := h1
      replace h13 : V 13 = _ := h13
      replace h15 : V 15 = _ := h15
      obtain ⟨B1, d1, e4, k1⟩ := h4
      obtain ⟨B2, d2, e7, k2⟩ := h7
      obtain ⟨B4, d4, e11, k4⟩ := h11
      simp only [List.getD_cons_zero, List.getD_cons_succ, puts, dstOf, List.getElem?_toArray, List.getElem?_cons_zero, List.getElem?_cons_succ, Option.bind_some, h1, h13, h15, e4, e7, e11]
      exact stm_quiet (v := .agg #[.int .i64 x.kd, .string x.a.nm, .slice B1 x.a.n d1, .string x.b.nm, .slice B2 x.b.n d2, .slice none 0 0, .slice B4 x.m d4, .int .i64 x.bd, .bool x.st]) (by simp [execOp, go_sem]) ⟨B1, d1, B2, d2, B4, d4, rfl, k1, k2, k4⟩
    | 17, _ =>
      refine ⟨_, rfl, fun V W hC hP => ?_⟩
      simp only [List.getD_cons_zero, List.getD_cons_succ, puts, dstOf, List.getElem?_toArray, List.getElem?_cons_zero, List.getElem?_cons_succ, Option.bind_some]
      exact stm_val (v := .pointer (some ⟨W.heap.size, 0, none⟩)) (w' := W.alloc (.cells #[.int .i64 0, .string ⟨#[]⟩, .slice none 0 0, .string ⟨#[]⟩, .slice none 0 0, .slice none 0 0, .slice none 0 0, .int .i64 0, .bool false] 95)) (by simp [execOp, go_sem]) (bal (Below.refl _ _) _) ⟨_, rfl, by have := hC.size; omega, row_newA W #[.int .i64 0, .string ⟨#[]⟩, .slice none 0 0, .string ⟨#[]⟩, .slice none 0 0, .slice none 0 0, .slice none 0 0, .int .i64 0, .bool false] 95⟩
    | n + 18, h => exact absurd h (by omega)
  intro V W hC hP
  obtain ⟨B1, d1, B2, d2, B4, d4, e16, k1, k2, k4⟩ := hP 16 (by decide)
  obtain ⟨p, e17, hp, hr⟩ := hP 17 (by decide)
  clear hP
  rw [show List.range 18 = [0, 1, 2, 3, 4, 5, 6, 7, 8, 9, 10, 11, 12, 13, 14, 15, 16, 17] from rfl]
  simp only [List.getD_cons_zero, List.getD_cons_succ, puts, dstOf, List.getElem?_toArray, List.getElem?_cons_zero, List.getElem?_cons_succ, Option.bind_some, e16, e17, List.drop_succ_cons, List.drop_zero, Act.put, List.setIfInBounds_toArray, List.set_cons_succ, List.set_cons_zero]
  have z0 : W.cell? ⟨p, 0, none⟩ = some (.int .i64 0) := hr.cell (i := 0) (by decide)
  have fz0 : W.frozen? ⟨p, 0, none⟩ = false := hr.frozen _
  have z1 : W.cell? ⟨p, 1, none⟩ = some (.string ⟨#[]⟩) := hr.cell (i := 1) (by decide)
  have fz1 : W.frozen? ⟨p, 1, none⟩ = false := hr.frozen _
  have z2 : W.cell? ⟨p, 2, none⟩ = some (.slice none 0 0) := hr.cell (i := 2) (by decide)
  have fz2 : W.frozen? ⟨p, 2, none⟩ = false := hr.frozen _
  have z3 : W.cell? ⟨p, 3, none⟩ = some (.string ⟨#[]⟩) := hr.cell (i := 3) (by decide)
  have fz3 : W.frozen? ⟨p, 3, none⟩ = false := hr.frozen _
  have z4 : W.cell? ⟨p, 4, none⟩ = some (.slice none 0 0) := hr.cell (i := 4) (by decide)
  have fz4 : W.frozen? ⟨p, 4, none⟩ = false := hr.frozen _
  have z5 : W.cell? ⟨p, 5, none⟩ = some (.slice none 0 0) := hr.cell (i := 5) (by decide)
  have fz5 : W.frozen? ⟨p, 5, none⟩ = false := hr.frozen _
  have z6 : W.cell? ⟨p, 6, none⟩ = some (.slice none 0 0) := hr.cell (i := 6) (by decide)
  have fz6 : W.frozen? ⟨p, 6, none⟩ = false := hr.frozen _
  have z7 : W.cell? ⟨p, 7, none⟩ = some (.int .i64 0) := hr.cell (i := 7) (by decide)
  have fz7 : W.frozen? ⟨p, 7, none⟩ = false := hr.frozen _
  have z8 : W.cell? ⟨p, 8, none⟩ = some (.bool false) := hr.cell (i := 8) (by decide)
  have fz8 : W.frozen? ⟨p, 8, none⟩ = false := hr.frozen _
  have hpl := hr.lt
  go_upto_region 2 with fail
  clear z0 fz0 z1 fz1 z2 fz2 z3 fz3 z4 fz4 z5 fz5 z6 fz6 z7 fz7 z8 fz8
  obtain ⟨_, hblk, hszc, hbel⟩ := chain9 hr (.int .i64 x.kd) (.string x.a.nm) (.slice B1 x.a.n d1) (.string x.b.nm) (.slice B2 x.b.n d2) (.slice none 0 0) (.slice B4 x.m d4) (.int .i64 x.bd) (.bool x.st)
  have RA2 := row9 hr (.int .i64 x.kd) (.string x.a.nm) (.slice B1 x.a.n d1) (.string x.b.nm) (.slice B2 x.b.n d2) (.slice none 0 0) (.slice B4 x.m d4) (.int .i64 x.bd) (.bool x.st)
  generalize (((((((((W.setCell ⟨p, 0, none⟩ (.int .i64 x.kd)).setCell ⟨p, 1, none⟩ (.string x.a.nm)).setCell ⟨p, 2, none⟩ (.slice B1 x.a.n d1)).setCell ⟨p, 3, none⟩ (.string x.b.nm)).setCell ⟨p, 4, none⟩ (.slice B2 x.b.n d2)).setCell ⟨p, 5, none⟩ (.slice none 0 0)).setCell ⟨p, 6, none⟩ (.slice B4 x.m d4)).setCell ⟨p, 7, none⟩ (.int .i64 x.bd)).setCell ⟨p, 8, none⟩ (.bool x.st)) = u1 at *
  have hB1 : Below w1.heap.size w1 u1 := hbel w1 hC (by omega)
  have K1 := k1.keep (KpT.chain hr (by decide) hblk)
  have K2 := k2.keep (KpT.chain hr (by decide) hblk)
  have K4 := k4.frame hr (by decide) (fun y _ h => hblk y h)
  have hpu : p < u1.heap.size := by rw [hszc]; exact hpl
  clear hblk hszc hbel hr k1 k2 k4 hpl hC C1 C2 C4 HPo hD
  have HB1 := hid hB1; have HK1 := hid K1; have HK2 := hid K2; have HK4 := hid K4; have HRA := hid RA2; have H1 := hid H; have HR2 := hid R2
  clear hB1 K1 K2 K4 RA2 H R2
  have hA4 := (hA3.below q0)
  clear hA3
  go_wp2
  go_loopw [4] (fun i wr => ∃ (k : Nat) (X : List TX) (v : Value), k ≤ x.n ∧ i = .int .i64 k ∧ Below w1.heap.size w1 wr ∧ wr.rowIs p 95 9 (rowOf #[.int .i64 x.kd, .string x.a.nm, .slice B1 x.a.n d1, .string x.b.nm, .slice B2 x.b.n d2, v, .slice B4 x.m d4, .int .i64 x.bd, .bool x.st]) ∧ TRow wr u1.heap.size X v ∧ X.length = k ∧ (∀ i, i < k → (X.getD i default).t = x.kid i) ∧ (∀ y, y < u1.heap.size → y ≠ p → wr.heap[y]? = u1.heap[y]?) ∧ u1.heap.size ≤ wr.heap.size) (fun i _ => x.n - (intOf i).toNat)
  case atStart => exact ⟨0, [], .slice none 0 0, Nat.zero_le _, rfl, HB1.out, HRA.out, TRow.nil _ _, rfl, fun i hi => absurd hi (Nat.not_lt_zero _), fun y _ _ => rfl, Nat.le_refl _⟩
  case round =>
    obtain ⟨k, X, v, hk, rfl, hbr, hrx, hT, hXl, hXk, hfr, hsz⟩ := hrel
    have HT := hid hT; have HXk := hid hXk; have HXl := hid hXl; have HFR := hid hfr
    clear hT hXk hXl hfr
    have hvs : ∃ aa cc, v = .slice aa k cc := by
      obtain ⟨_, ⟨h, h0⟩ | ⟨g, cap, cur, h, _⟩⟩ := HT.out.own
      · exact ⟨none, 0, by rw [h, ← HXl.out, h0]⟩
      · exact ⟨_, _, by rw [← HXl.out]; exact h⟩
    obtain ⟨va, vc, hve⟩ := hvs
    subst hve
    have y5 : wr.cell? ⟨p, 5, none⟩ = some (.slice va k vc) := hrx.cell (i := 5) (by decide)
    have fy5 : wr.frozen? ⟨p, 5, none⟩ = false := hrx.frozen _
    have HR := hid hrx
    clear hrx
    have s5 : wr.cell? ⟨w.heap.size, 5, none⟩ = some (.slice A3 x.n c3) := (H1.out.below hbr).2.2.2.2.2.1
    have l0 : w.heap.size < wr.heap.size := cell_lt s5
    by_cases hlt : k < x.n
    · rcases hA4 with h0 | ⟨g, off, rfl, _, hg, hcA⟩
      · omega
      obtain ⟨a9, ca, a0, a1, hI⟩ := hcA k hlt
      have gg := Nat.lt_of_lt_of_le hg hbr.size
      replace a0 := carry hbr a0
      replace a1 := carry hbr a1
      replace hI := hI.below hbr
      clear hcA
      obtain ⟨i0, hi, hz0, hz1, hz2⟩ := info_parts infoTm
      go_upto_region 5 with fail
      have KL : KcL [(w.heap.size, 5, .slice (some ⟨g, off, none⟩) x.n c3), (p, 5, .slice va k vc), (g, off + k * 2, .string (x.kid k).nm), (g, off + k * 2 + 1, .slice a9 (x.kid k).n ca)] wr := ⟨s5, y5, a0, a1, trivial⟩
      have qd := (Below.refl wr.heap.size wr).drew
      refine region_planC (fun w' => KcL [(w.heap.size, 5, .slice (some ⟨g, off, none⟩) x.n c3), (p, 5, .slice va k vc), (g, off + k * 2, .string (x.kid k).nm), (g, off + k * 2 + 1, .slice a9 (x.kid k).n ca)] w') (.takes [0, 1, 2, 3, 4, 5, 6] (.make 7 (.make 8 (.make 9 (.takes [10] .fin))))) 11 rfl (by kernel_rfl) (KL.below qd) ?_
      refine plan_takes ?_; simp only [pickOps, List.getElem?_cons_zero, List.getElem?_cons_succ]
      refine quiet_doC rfl (.pointer (some ⟨p, 5, none⟩)) (fun w' hw' => by simp [execOp, go_sem]) ?_
      refine quiet_doC rfl (.slice va k vc) (fun w' hw' => by have := hw'.2.1; simp only at this; simp [execOp, go_sem, this]) ?_
      refine quiet_doC rfl (.pointer (some ⟨w.heap.size, 5, none⟩)) (fun w' hw' => by simp [execOp, go_sem]) ?_
      refine quiet_doC rfl (.slice (some ⟨g, off, none⟩) x.n c3) (fun w' hw' => by have := hw'.1; simp only at this; simp [execOp, go_sem, this]) ?_
      refine quiet_doC rfl (.int .i64 k) (fun w' hw' => by simp [execOp, go_sem]) ?_
      refine quiet_doC rfl (.pointer (some ⟨g, off + k * 2, none⟩)) (fun w' hw' => by simp [execOp, go_sem, hlt]) ?_
      refine quiet_doC rfl (.agg #[.string (x.kid k).nm, .slice a9 (x.kid k).n ca]) (fun w' hw' => run_load2 rfl (by kernel_rfl) Try.underlying76 rfl (by kernel_rfl) hw'.2.2.1 hw'.2.2.2.1) ?_
      refine wpQuiet_nil ?_
      replace KL := KL.below qd
      have hTd := hid (HT.out.below qd)
      have hRd := hid (row_below HR.out qd)
      have hbd := btr hbr qd
      have hcall := CK.out k hlt a9 ca wr.drew (hI.below qd)
      have HFd := hid (show ∀ y, y < u1.heap.size → y ≠ p → wr.drew.heap[y]? = u1.heap[y]? from HFR.out)
      have hsd : u1.heap.size ≤ wr.drew.heap.size := hsz
      clear hI qd a0 a1 s5 y5 fy5 l0 gg hbr HT HR HFR
      generalize wr.drew = u at *
      refine planC_call rfl rfl 140 #[.agg #[.string (x.kid k).nm, .slice a9 (x.kid k).n ca]] (by kernel_rfl) ?_
      refine hcall.mono ?_
      rintro e w3 ⟨A9, c9, rfl, m1, m2, hS3, hq3⟩
      refine ⟨_, rfl, KL.below hq3, ?_⟩
      replace KL := KL.below hq3
      clear hcall
      have CX := bal (Below.refl w3.heap.size w3) (.cells #[.string (x.kid k).nm, .slice A9 (x.kid k).n c9] 76)
      have hq4 := btr hq3 CX
      have hS4 := hid (hS3.below CX)
      have hh4 : w3.heap.size ≤ (w3.alloc (.cells #[.string (x.kid k).nm, .slice A9 (x.kid k).n c9] 76)).heap.size := CX.size
      refine planC_val rfl rfl (.slice (some ⟨w3.heap.size, 0, none⟩) 1 1) (w'' := w3.alloc (.cells #[.string (x.kid k).nm, .slice A9 (x.kid k).n c9] 76)) (by simp [execOp, go_sem]) (KL.below CX) ?_
      replace KL := KL.below CX
      have hTg := hid (hTd.out.below hq4)
      have hRg := hid (row_below hRd.out hq4)
      have hbg := btr hbd hq4
      have hnews := new2 w3 (.string (x.kid k).nm) (.slice A9 (x.kid k).n c9) 76
      have hone : ∀ u ∈ ([.string (x.kid k).nm, .slice A9 (x.kid k).n c9] : List Value), u.oneCell' = true := fun u hu => by simp at hu; rcases hu with rfl | rfl <;> rfl
      have hlog : u1.heap.size ≤ (w3.alloc (.cells #[.string (x.kid k).nm, .slice A9 (x.kid k).n c9] 76)).heap.size := Nat.le_trans hsd hq4.size
      have hown0 := hTg.out.own
      rw [HXl.out] at hown0
      refine planC_append rfl rfl _ _ 52 rfl u1.heap.size 76 i0 _ 2 40 Try.underlying52 hi hz0 hz1 hz2 rfl (by decide) (.slice va k vc) k (flatX X) (by kernel_rfl) hown0 ⟨w3.heap.size, 0, none⟩ 1 1 [.string (x.kid k).nm, .slice A9 (x.kid k).n c9] (by kernel_rfl) rfl hnews hone (by unfold maxLen; omega) (by omega) hlog ?_
      intro v' w6 hown6 hgrow hfresh
      have hvs : ∃ a cc, v' = .slice a (k + 1) cc := by
        obtain ⟨_, ⟨h, h0⟩ | ⟨g, cap, cur, h, _⟩⟩ := hown6
        · exact absurd h0 (by omega)
        · exact ⟨_, _, h⟩
      obtain ⟨va', vc', hve⟩ := hvs
      subst hve
      have hrl := fun r (e : (Value.slice va k vc).ownBlock = some r) => hTg.out.lt e
      have hw1u : w1.heap.size ≤ u1.heap.size := HB1.out.size
      have KL6 := KL.keep hgrow (fun e he r hr => by
        have := (hrl r hr).1
        simp at he
        rcases he with rfl | rfl | rfl | rfl
        · simp only; omega
        · simp only; omega
        · simp only; omega
        · simp only; omega)
      refine ⟨KL6, ?_⟩
      refine plan_takes ?_; simp only [pickOps, List.getElem?_cons_zero, List.getElem?_cons_succ, Act.put, List.setIfInBounds_toArray, List.set_cons_succ, List.set_cons_zero]
      refine quiet_doC rfl (.pointer (some ⟨p, 5, none⟩)) (fun w' hw' => by simp [execOp, go_sem]) ?_
      refine wpQuiet_nil ?_
      refine plan_fin ?_
      simp only [List.drop_succ_cons, List.drop_zero, Act.put, List.setIfInBounds_toArray, List.set_cons_succ, List.set_cons_zero]
      have hR6 := hRg.out.of_block (hgrow.block _ hRg.out.lt (fun e => by have := (hrl _ e.symm).1; omega))
      have q1 : w6.cell? ⟨p, 5, none⟩ = some (.slice va k vc) := hR6.cell (i := 5) (by decide)
      have fq1 : w6.frozen? ⟨p, 5, none⟩ = false := hR6.frozen 5
      have hTp := (hTd.out.push (x := ⟨x.kid k, A9, c9⟩) (v' := .slice va' (k + 1) vc') (w' := w6) hsd hq4 hS4.out hq3.size hh4 m1 m2 (by rw [HXl.out]; exact hown6) hgrow hfresh)
      have hb6 : Below w1.heap.size w1 w6 := ⟨hgrow.os.trans hbg.os, hgrow.tape.trans hbg.tape, hgrow.output.trans hbg.output, Nat.le_trans hbg.size hgrow.size, fun j hj => (hgrow.block j (Nat.lt_of_lt_of_le hj hbg.size) (fun e => by have := (hrl _ e.symm).1; omega)).trans (hbg.block j hj)⟩
      have hf6 : ∀ y, y < u1.heap.size → y ≠ p → w6.heap[y]? = u1.heap[y]? := fun y hy hyp => (hgrow.block y (Nat.lt_of_lt_of_le hy hlog) (fun e => by have := (hrl _ e.symm).1; omega)).trans ((hq4.block y (Nat.lt_of_lt_of_le hy hsd)).trans (HFd.out y hy hyp))
      have hz6 := Nat.le_trans hlog hgrow.size
      have HTp := hid hTp; have HB6 := hid hb6; have HR6 := hid hR6; have HF6 := hid hf6
      clear hTp hb6 hR6 hf6 KL6 KL hrl hown6 hgrow hfresh hown0 hnews hone CX hlog
      go_wp2
      go_roundw
      case rel =>
        refine ⟨k + 1, X ++ [⟨x.kid k, A9, c9⟩], .slice va' (k + 1) vc', by omega, by go_num, bst HB6.out (p := ⟨p, 5, none⟩) (show w1.heap.size ≤ p by omega) _, (HR6.out.set 5 (.slice va' (k + 1) vc')).congr (nine ⟨rfl, rfl, rfl, rfl, rfl, rfl, rfl, rfl, rfl⟩), HTp.out.setN (by omega), by rw [List.length_append, HXl.out]; simp, fun i hi => ?_, fun y hy hyp => (Below.heap_setCell _ ⟨p, 5, none⟩ _ y hyp).trans (HF6.out y hy hyp), by simpa [World.setCell] using hz6⟩
        by_cases e : i = k
        · rw [e, ← HXl.out, getX_new, HXl.out]
        · rw [getX_left (by rw [HXl.out]; omega)]
          exact HXk.out i (by omega)
      case measure => simp [intOf]; omega
    · have hke : k = x.n := by omega
      have HKE := hid hke
      have d5 : decide ((k : Int) < (x.n : Int)) = false := by simp; omega
      have R5 := row_below HR2.out hbr
      have hlr : w.heap.size + 1 < wr.heap.size := R5.lt
      clear y5 fy5 hke e16 e17
      have ZZ := hid zz
      clear zz
      go_upto_region 6 with fail
      have zz := ZZ.out
      clear s5 l0
      have ya0 : wr.cell? ⟨p, 0, none⟩ = some (.int .i64 x.kd) := HR.out.cell (i := 0) (by decide)
      have ya1 : wr.cell? ⟨p, 1, none⟩ = some (.string x.a.nm) := HR.out.cell (i := 1) (by decide)
      have ya2 : wr.cell? ⟨p, 2, none⟩ = some (.slice B1 x.a.n d1) := HR.out.cell (i := 2) (by decide)
      have ya3 : wr.cell? ⟨p, 3, none⟩ = some (.string x.b.nm) := HR.out.cell (i := 3) (by decide)
      have ya4 : wr.cell? ⟨p, 4, none⟩ = some (.slice B2 x.b.n d2) := HR.out.cell (i := 4) (by decide)
      have ya5 : wr.cell? ⟨p, 5, none⟩ = some (.slice va k vc) := HR.out.cell (i := 5) (by decide)
      have ya6 : wr.cell? ⟨p, 6, none⟩ = some (.slice B4 x.m d4) := HR.out.cell (i := 6) (by decide)
      have ya7 : wr.cell? ⟨p, 7, none⟩ = some (.int .i64 x.bd) := HR.out.cell (i := 7) (by decide)
      have ya8 : wr.cell? ⟨p, 8, none⟩ = some (.bool x.st) := HR.out.cell (i := 8) (by decide)
      have zr0 : wr.cell? ⟨w.heap.size + 1, 0, none⟩ = some (.int .i64 0) := R5.cell (i := 0) (by decide)
      have fzr0 : wr.frozen? ⟨w.heap.size + 1, 0, none⟩ = false := R5.frozen _
      have zr1 : wr.cell? ⟨w.heap.size + 1, 1, none⟩ = some (.string ⟨#[]⟩) := R5.cell (i := 1) (by decide)
      have fzr1 : wr.frozen? ⟨w.heap.size + 1, 1, none⟩ = false := R5.frozen _
      have zr2 : wr.cell? ⟨w.heap.size + 1, 2, none⟩ = some (.slice none 0 0) := R5.cell (i := 2) (by decide)
      have fzr2 : wr.frozen? ⟨w.heap.size + 1, 2, none⟩ = false := R5.frozen _
      have zr3 : wr.cell? ⟨w.heap.size + 1, 3, none⟩ = some (.string ⟨#[]⟩) := R5.cell (i := 3) (by decide)
      have fzr3 : wr.frozen? ⟨w.heap.size + 1, 3, none⟩ = false := R5.frozen _
      have zr4 : wr.cell? ⟨w.heap.size + 1, 4, none⟩ = some (.slice none 0 0) := R5.cell (i := 4) (by decide)
      have fzr4 : wr.frozen? ⟨w.heap.size + 1, 4, none⟩ = false := R5.frozen _
      have zr5 : wr.cell? ⟨w.heap.size + 1, 5, none⟩ = some (.slice none 0 0) := R5.cell (i := 5) (by decide)
      have fzr5 : wr.frozen? ⟨w.heap.size + 1, 5, none⟩ = false := R5.frozen _
      have zr6 : wr.cell? ⟨w.heap.size + 1, 6, none⟩ = some (.slice none 0 0) := R5.cell (i := 6) (by decide)
      have fzr6 : wr.frozen? ⟨w.heap.size + 1, 6, none⟩ = false := R5.frozen _
      have zr7 : wr.cell? ⟨w.heap.size + 1, 7, none⟩ = some (.int .i64 0) := R5.cell (i := 7) (by decide)
      have fzr7 : wr.frozen? ⟨w.heap.size + 1, 7, none⟩ = false := R5.frozen _
      have zr8 : wr.cell? ⟨w.heap.size + 1, 8, none⟩ = some (.bool false) := R5.cell (i := 8) (by decide)
      have fzr8 : wr.frozen? ⟨w.heap.size + 1, 8, none⟩ = false := R5.frozen _
      obtain ⟨⟨t0, t1, t2, t3, t4, t5, t6, t7, t8⟩, hblk, hszc, hbel⟩ := chain9 R5 (.int .i64 x.kd) (.string x.a.nm) (.slice B1 x.a.n d1) (.string x.b.nm) (.slice B2 x.b.n d2) (.slice va k vc) (.slice B4 x.m d4) (.int .i64 x.bd) (.bool x.st)
      have HB := hid (hbel w (btr q0 hbr) (by omega))
      have KK1 := hid ((HK1.out.keep (KpT.frame HRA.out (by decide) HFR.out)).keep (KpT.chain R5 (by decide) hblk))
      have KK2 := hid ((HK2.out.keep (KpT.frame HRA.out (by decide) HFR.out)).keep (KpT.chain R5 (by decide) hblk))
      have KK4 := hid ((HK4.out.frame HRA.out (by decide) HFR.out).frame R5 (by decide) (fun y _ h => hblk y h))
      have hS9 := HT.out.sep (A := va) (c := vc) (by rw [HXl.out]) ⟨#[]⟩
      rw [HXl.out] at hS9
      have hw1u : w1.heap.size ≤ u1.heap.size := HB1.out.size
      have KK3 : KidT 0 _ (.mk ⟨#[]⟩ k x.kid) va := (SepT.chainS (.inl (by omega)) hblk (hS9.congr (nm' := ⟨#[]⟩) HXk.out)).kidT (Nat.zero_le _)
      have lp : p < wr.heap.size := cell_lt ya0
      clear hblk hszc hbel R5 hS9 zz
      go_wp2
      refine bodyPost_ret (v := .agg #[.int .i64 x.kd, .string x.a.nm, .slice B1 x.a.n d1, .string x.b.nm, .slice B2 x.b.n d2, .slice va k vc, .slice B4 x.m d4, .int .i64 x.bd, .bool x.st]) (by simp [results, Try.results137, go_sem, t0, t1, t2, t3, t4, t5, t6, t7, t8]) rfl ?_
      clear t0 t1 t2 t3 t4 t5 t6 t7 t8
      have hkn := HKE.out
      subst hkn
      exact ⟨B1, d1, B2, d2, va, vc, B4, d4, rfl, ⟨KK1.out, KK2.out, KK3, KK4.out⟩, HB.out⟩
end Go.Proofs.Ytanfljajafelgaa

namespace Go.Proofs.Ytanfljajafelgaa
set_option linter.unusedVariables false
set_option linter.unusedSimpArgs false
open Go.RowKit
/-- ten cells of one block stored one by one -/
theorem chain10 {w : World} {g : Nat} {T : TypeId} {f : Nat → Value} (h : w.rowIs g T 10 f) (v0 v1 v2 v3 v4 v5 v6 v7 v8 v9 : Value) :
    (((((((((((w.setCell ⟨g, 0, none⟩ v0).setCell ⟨g, 1, none⟩ v1).setCell ⟨g, 2, none⟩ v2).setCell ⟨g, 3, none⟩ v3).setCell ⟨g, 4, none⟩ v4).setCell ⟨g, 5, none⟩ v5).setCell ⟨g, 6, none⟩ v6).setCell ⟨g, 7, none⟩ v7).setCell ⟨g, 8, none⟩ v8).setCell ⟨g, 9, none⟩ v9).cell? ⟨g, 0, none⟩ = some v0 ∧ ((((((((((w.setCell ⟨g, 0, none⟩ v0).setCell ⟨g, 1, none⟩ v1).setCell ⟨g, 2, none⟩ v2).setCell ⟨g, 3, none⟩ v3).setCell ⟨g, 4, none⟩ v4).setCell ⟨g, 5, none⟩ v5).setCell ⟨g, 6, none⟩ v6).setCell ⟨g, 7, none⟩ v7).setCell ⟨g, 8, none⟩ v8).setCell ⟨g, 9, none⟩ v9).cell? ⟨g, 1, none⟩ = some v1 ∧ ((((((((((w.setCell ⟨g, 0, none⟩ v0).setCell ⟨g, 1, none⟩ v1).setCell ⟨g, 2, none⟩ v2).setCell ⟨g, 3, none⟩ v3).setCell ⟨g, 4, none⟩ v4).setCell ⟨g, 5, none⟩ v5).setCell ⟨g, 6, none⟩ v6).setCell ⟨g, 7, none⟩ v7).setCell ⟨g, 8, none⟩ v8).setCell ⟨g, 9, none⟩ v9).cell? ⟨g, 2, none⟩ = some v2 ∧ ((((((((((w.setCell ⟨g, 0, none⟩ v0).setCell ⟨g, 1, none⟩ v1).setCell ⟨g, 2, none⟩ v2).setCell ⟨g, 3, none⟩ v3).setCell ⟨g, 4, none⟩ v4).setCell ⟨g, 5, none⟩ v5).setCell ⟨g, 6, none⟩ v6).setCell ⟨g, 7, none⟩ v7).setCell ⟨g, 8, none⟩ v8).setCell ⟨g, 9, none⟩ v9).cell? ⟨g, 3, none⟩ = some v3 ∧ ((((((((((w.setCell ⟨g, 0, none⟩ v0).setCell ⟨g, 1, none⟩ v1).setCell ⟨g, 2, none⟩ v2).setCell ⟨g, 3, none⟩ v3).setCell ⟨g, 4, none⟩ v4).setCell ⟨g, 5, none⟩ v5).setCell ⟨g, 6, none⟩ v6).setCell ⟨g, 7, none⟩ v7).setCell ⟨g, 8, none⟩ v8).setCell ⟨g, 9, none⟩ v9).cell? ⟨g, 4, none⟩ = some v4 ∧ ((((((((((w.setCell ⟨g, 0, none⟩ v0).setCell ⟨g, 1, none⟩ v1).setCell ⟨g, 2, none⟩ v2).setCell ⟨g, 3, none⟩ v3).setCell ⟨g, 4, none⟩ v4).setCell ⟨g, 5, none⟩ v5).setCell ⟨g, 6, none⟩ v6).setCell ⟨g, 7, none⟩ v7).setCell ⟨g, 8, none⟩ v8).setCell ⟨g, 9, none⟩ v9).cell? ⟨g, 5, none⟩ = some v5 ∧ ((((((((((w.setCell ⟨g, 0, none⟩ v0).setCell ⟨g, 1, none⟩ v1).setCell ⟨g, 2, none⟩ v2).setCell ⟨g, 3, none⟩ v3).setCell ⟨g, 4, none⟩ v4).setCell ⟨g, 5, none⟩ v5).setCell ⟨g, 6, none⟩ v6).setCell ⟨g, 7, none⟩ v7).setCell ⟨g, 8, none⟩ v8).setCell ⟨g, 9, none⟩ v9).cell? ⟨g, 6, none⟩ = some v6 ∧ ((((((((((w.setCell ⟨g, 0, none⟩ v0).setCell ⟨g, 1, none⟩ v1).setCell ⟨g, 2, none⟩ v2).setCell ⟨g, 3, none⟩ v3).setCell ⟨g, 4, none⟩ v4).setCell ⟨g, 5, none⟩ v5).setCell ⟨g, 6, none⟩ v6).setCell ⟨g, 7, none⟩ v7).setCell ⟨g, 8, none⟩ v8).setCell ⟨g, 9, none⟩ v9).cell? ⟨g, 7, none⟩ = some v7 ∧ ((((((((((w.setCell ⟨g, 0, none⟩ v0).setCell ⟨g, 1, none⟩ v1).setCell ⟨g, 2, none⟩ v2).setCell ⟨g, 3, none⟩ v3).setCell ⟨g, 4, none⟩ v4).setCell ⟨g, 5, none⟩ v5).setCell ⟨g, 6, none⟩ v6).setCell ⟨g, 7, none⟩ v7).setCell ⟨g, 8, none⟩ v8).setCell ⟨g, 9, none⟩ v9).cell? ⟨g, 8, none⟩ = some v8 ∧ ((((((((((w.setCell ⟨g, 0, none⟩ v0).setCell ⟨g, 1, none⟩ v1).setCell ⟨g, 2, none⟩ v2).setCell ⟨g, 3, none⟩ v3).setCell ⟨g, 4, none⟩ v4).setCell ⟨g, 5, none⟩ v5).setCell ⟨g, 6, none⟩ v6).setCell ⟨g, 7, none⟩ v7).setCell ⟨g, 8, none⟩ v8).setCell ⟨g, 9, none⟩ v9).cell? ⟨g, 9, none⟩ = some v9) ∧ (∀ x, x ≠ g → ((((((((((w.setCell ⟨g, 0, none⟩ v0).setCell ⟨g, 1, none⟩ v1).setCell ⟨g, 2, none⟩ v2).setCell ⟨g, 3, none⟩ v3).setCell ⟨g, 4, none⟩ v4).setCell ⟨g, 5, none⟩ v5).setCell ⟨g, 6, none⟩ v6).setCell ⟨g, 7, none⟩ v7).setCell ⟨g, 8, none⟩ v8).setCell ⟨g, 9, none⟩ v9).heap[x]? = w.heap[x]?) ∧ ((((((((((w.setCell ⟨g, 0, none⟩ v0).setCell ⟨g, 1, none⟩ v1).setCell ⟨g, 2, none⟩ v2).setCell ⟨g, 3, none⟩ v3).setCell ⟨g, 4, none⟩ v4).setCell ⟨g, 5, none⟩ v5).setCell ⟨g, 6, none⟩ v6).setCell ⟨g, 7, none⟩ v7).setCell ⟨g, 8, none⟩ v8).setCell ⟨g, 9, none⟩ v9).heap.size = w.heap.size ∧ ∀ a : World, Below a.heap.size a w → a.heap.size ≤ g → Below a.heap.size a ((((((((((w.setCell ⟨g, 0, none⟩ v0).setCell ⟨g, 1, none⟩ v1).setCell ⟨g, 2, none⟩ v2).setCell ⟨g, 3, none⟩ v3).setCell ⟨g, 4, none⟩ v4).setCell ⟨g, 5, none⟩ v5).setCell ⟨g, 6, none⟩ v6).setCell ⟨g, 7, none⟩ v7).setCell ⟨g, 8, none⟩ v8).setCell ⟨g, 9, none⟩ v9) := by
  have hr := ((((((((((h.set 0 v0).set 1 v1).set 2 v2).set 3 v3).set 4 v4).set 5 v5).set 6 v6).set 7 v7).set 8 v8).set 9 v9)
  refine ⟨⟨(hr.cell (i := 0) (by decide)).trans rfl, (hr.cell (i := 1) (by decide)).trans rfl, (hr.cell (i := 2) (by decide)).trans rfl, (hr.cell (i := 3) (by decide)).trans rfl, (hr.cell (i := 4) (by decide)).trans rfl, (hr.cell (i := 5) (by decide)).trans rfl, (hr.cell (i := 6) (by decide)).trans rfl, (hr.cell (i := 7) (by decide)).trans rfl, (hr.cell (i := 8) (by decide)).trans rfl, (hr.cell (i := 9) (by decide)).trans rfl⟩, fun x hx => ?_, by simp [World.setCell], fun a hb ha => ?_⟩
  · exact (Below.heap_setCell _ ⟨g, 9, none⟩ _ x hx).trans ((Below.heap_setCell _ ⟨g, 8, none⟩ _ x hx).trans ((Below.heap_setCell _ ⟨g, 7, none⟩ _ x hx).trans ((Below.heap_setCell _ ⟨g, 6, none⟩ _ x hx).trans ((Below.heap_setCell _ ⟨g, 5, none⟩ _ x hx).trans ((Below.heap_setCell _ ⟨g, 4, none⟩ _ x hx).trans ((Below.heap_setCell _ ⟨g, 3, none⟩ _ x hx).trans ((Below.heap_setCell _ ⟨g, 2, none⟩ _ x hx).trans ((Below.heap_setCell _ ⟨g, 1, none⟩ _ x hx).trans ((Below.heap_setCell _ ⟨g, 0, none⟩ _ x hx).trans (rfl))))))))))
  · exact (bst (bst (bst (bst (bst (bst (bst (bst (bst (bst hb (p := ⟨g, 0, none⟩) ha v0) (p := ⟨g, 1, none⟩) ha v1) (p := ⟨g, 2, none⟩) ha v2) (p := ⟨g, 3, none⟩) ha v3) (p := ⟨g, 4, none⟩) ha v4) (p := ⟨g, 5, none⟩) ha v5) (p := ⟨g, 6, none⟩) ha v6) (p := ⟨g, 7, none⟩) ha v7) (p := ⟨g, 8, none⟩) ha v8) (p := ⟨g, 9, none⟩) ha v9)
def zAt : At := ⟨0, noT, noT, 0, fun _ => .bad, 0, fun _ => 0, 0, false⟩
/-- what LitNot answers: the atom, or none -/
def lnA (res : Bool) (x : At) : At := if res = true then x else zAt
def SLnP (x : At) (no : Bool) (W : World) (e : Ending) (w' : World) : Prop :=
  ∃ A1 d1 A2 d2 A3 d3 A4 d4, e = .returned (.agg (x.lit no A1 d1 A2 d2 A3 d3 A4 d4)) ∧ AtU w' x A1 A2 A3 A4 ∧ Below W.heap.size W w'
theorem zAt_k (w : World) : AtU w zAt none none none none := ⟨.inl rfl, .inl rfl, .inl rfl, .inl rfl⟩
theorem zAt_s {w : World} {lo hi : Nat} (h : lo ≤ hi) : LtS w zAt lo hi none none none none := ⟨lo, lo, lo, Nat.le_refl _, Nat.le_refl _, Nat.le_refl _, h, .inl rfl, .inl rfl, .inl rfl, .inl rfl⟩
set_option maxRecDepth 100000 in
set_option maxHeartbeats 4000000 in
theorem slitnot_no (x : At) (no : Bool) (A1 : Option Addr) (c1 : Nat) (A2 : Option Addr) (c2 : Nat) (A3 : Option Addr) (c3 : Nat) (A4 : Option Addr) (c4 : Nat) (w : World) (hR : ∀ W, Below w.heap.size w W → Calls Try.prog 131 #[.agg (x.cs A1 c1 A2 c2 A3 c3 A4 c4)] W fun e w' => e = .returned (.bool false) ∧ Below W.heap.size W w') :
    Calls Try.prog 71 #[.agg (x.lit no A1 c1 A2 c2 A3 c3 A4 c4)] w (SLnP zAt false w) := by
  have HR := hid hR
  clear hR
  have q0 : Below w.heap.size w ((w.alloc (.cells #[.int .i64 x.kd, .string x.a.nm, .slice A1 x.a.n c1, .string x.b.nm, .slice A2 x.b.n c2, .slice A3 x.n c3, .slice A4 x.m c4, .int .i64 x.bd, .bool x.st, .bool no] 104)).alloc (.cells #[.int .i64 0, .string ⟨#[]⟩, .slice none 0 0, .string ⟨#[]⟩, .slice none 0 0, .slice none 0 0, .slice none 0 0, .int .i64 0, .bool false, .bool false] 104)) := bal (bal (Below.refl _ _) _) _
  have R2 : ((w.alloc (.cells #[.int .i64 x.kd, .string x.a.nm, .slice A1 x.a.n c1, .string x.b.nm, .slice A2 x.b.n c2, .slice A3 x.n c3, .slice A4 x.m c4, .int .i64 x.bd, .bool x.st, .bool no] 104)).alloc (.cells #[.int .i64 0, .string ⟨#[]⟩, .slice none 0 0, .string ⟨#[]⟩, .slice none 0 0, .slice none 0 0, .slice none 0 0, .int .i64 0, .bool false, .bool false] 104)).rowIs (w.heap.size + 1) 104 10 (rowOf #[.int .i64 0, .string ⟨#[]⟩, .slice none 0 0, .string ⟨#[]⟩, .slice none 0 0, .slice none 0 0, .slice none 0 0, .int .i64 0, .bool false, .bool false]) := by
    have h := row_newA (w.alloc (.cells #[.int .i64 x.kd, .string x.a.nm, .slice A1 x.a.n c1, .string x.b.nm, .slice A2 x.b.n c2, .slice A3 x.n c3, .slice A4 x.m c4, .int .i64 x.bd, .bool x.st, .bool no] 104)) #[.int .i64 0, .string ⟨#[]⟩, .slice none 0 0, .string ⟨#[]⟩, .slice none 0 0, .slice none 0 0, .slice none 0 0, .int .i64 0, .bool false, .bool false] 104
    rw [World.size_alloc] at h
    exact h
  show Calls _ _ #[.agg #[.int .i64 x.kd, .string x.a.nm, .slice A1 x.a.n c1, .string x.b.nm, .slice A2 x.b.n c2, .slice A3 x.n c3, .slice A4 x.m c4, .int .i64 x.bd, .bool x.st, .bool no]] w _
  simp only [At.cs] at HR
  go_enter Try.func71, Try.ntmps71
  go_wp2_with fail
  refine (HR.out _ q0).mono ?_
  rintro e w1 ⟨rfl, hq⟩
  replace R2 := row_below R2 hq
  replace q0 := btr q0 hq
  clear hq HR
  have hlr : w.heap.size + 1 < w1.heap.size := R2.lt
  have zr0 : w1.cell? ⟨w.heap.size + 1, 0, none⟩ = some (.int .i64 0) := R2.cell (i := 0) (by decide)
  have fzr0 : w1.frozen? ⟨w.heap.size + 1, 0, none⟩ = false := R2.frozen _
  have zr1 : w1.cell? ⟨w.heap.size + 1, 1, none⟩ = some (.string ⟨#[]⟩) := R2.cell (i := 1) (by decide)
  have fzr1 : w1.frozen? ⟨w.heap.size + 1, 1, none⟩ = false := R2.frozen _
  have zr2 : w1.cell? ⟨w.heap.size + 1, 2, none⟩ = some (.slice none 0 0) := R2.cell (i := 2) (by decide)
  have fzr2 : w1.frozen? ⟨w.heap.size + 1, 2, none⟩ = false := R2.frozen _
  have zr3 : w1.cell? ⟨w.heap.size + 1, 3, none⟩ = some (.string ⟨#[]⟩) := R2.cell (i := 3) (by decide)
  have fzr3 : w1.frozen? ⟨w.heap.size + 1, 3, none⟩ = false := R2.frozen _
  have zr4 : w1.cell? ⟨w.heap.size + 1, 4, none⟩ = some (.slice none 0 0) := R2.cell (i := 4) (by decide)
  have fzr4 : w1.frozen? ⟨w.heap.size + 1, 4, none⟩ = false := R2.frozen _
  have zr5 : w1.cell? ⟨w.heap.size + 1, 5, none⟩ = some (.slice none 0 0) := R2.cell (i := 5) (by decide)
  have fzr5 : w1.frozen? ⟨w.heap.size + 1, 5, none⟩ = false := R2.frozen _
  have zr6 : w1.cell? ⟨w.heap.size + 1, 6, none⟩ = some (.slice none 0 0) := R2.cell (i := 6) (by decide)
  have fzr6 : w1.frozen? ⟨w.heap.size + 1, 6, none⟩ = false := R2.frozen _
  have zr7 : w1.cell? ⟨w.heap.size + 1, 7, none⟩ = some (.int .i64 0) := R2.cell (i := 7) (by decide)
  have fzr7 : w1.frozen? ⟨w.heap.size + 1, 7, none⟩ = false := R2.frozen _
  have zr8 : w1.cell? ⟨w.heap.size + 1, 8, none⟩ = some (.bool false) := R2.cell (i := 8) (by decide)
  have fzr8 : w1.frozen? ⟨w.heap.size + 1, 8, none⟩ = false := R2.frozen _
  have zr9 : w1.cell? ⟨w.heap.size + 1, 9, none⟩ = some (.bool false) := R2.cell (i := 9) (by decide)
  have fzr9 : w1.frozen? ⟨w.heap.size + 1, 9, none⟩ = false := R2.frozen _
  obtain ⟨⟨t0, t1, t2, t3, t4, t5, t6, t7, t8, t9⟩, hblk, hszc, hbel⟩ := chain10 R2 (.int .i64 0) (.string ⟨#[]⟩) (.slice none 0 0) (.string ⟨#[]⟩) (.slice none 0 0) (.slice none 0 0) (.slice none 0 0) (.int .i64 0) (.bool false) (.bool false)
  have HB := hid (hbel w q0 (by omega))
  clear hblk hszc hbel
  go_wp2
  refine bodyPost_ret (v := .agg #[.int .i64 0, .string ⟨#[]⟩, .slice none 0 0, .string ⟨#[]⟩, .slice none 0 0, .slice none 0 0, .slice none 0 0, .int .i64 0, .bool false, .bool false]) (by simp [results, Try.results71, go_sem, t0, t1, t2, t3, t4, t5, t6, t7, t8, t9]) rfl ?_
  exact ⟨none, 0, none, 0, none, 0, none, 0, rfl, zAt_k _, HB.out⟩
/-- what each operation of the model's answer leaves -/
def PoLn (x : At) (no : Bool) (b0 : Nat) (A1 : Option Addr) (c1 : Nat) (A2 : Option Addr) (c2 : Nat) (A3 : Option Addr) (c3 : Nat) (A4 : Option Addr) (c4 : Nat) (j : Nat) (v : Value) (W : World) : Prop :=
  match j with
  | 0 => v = .pointer (some ⟨b0, 0, none⟩)
  | 1 => v = .agg (x.cs A1 c1 A2 c2 A3 c3 A4 c4)
  | 2 => ∃ B1 d1 B2 d2 B3 d3 B4 d4, v = .agg (x.cs B1 d1 B2 d2 B3 d3 B4 d4) ∧ AtU W x B1 B2 B3 B4
  | 3 => v = .pointer (some ⟨b0, 9, none⟩)
  | 4 => v = .bool no
  | 5 => v = .bool (!no)
  | 6 => ∃ B1 d1 B2 d2 B3 d3 B4 d4, v = .agg (x.lit (!no) B1 d1 B2 d2 B3 d3 B4 d4) ∧ AtU W x B1 B2 B3 B4
  | _ => True
theorem poLn_mono (x : At) (no : Bool) (b0 : Nat) (A1 : Option Addr) (c1 : Nat) (A2 : Option Addr) (c2 : Nat) (A3 : Option Addr) (c3 : Nat) (A4 : Option Addr) (c4 : Nat) (j : Nat) (v : Value) (W W' : World) (hb : Below W.heap.size W W') (h : PoLn x no b0 A1 c1 A2 c2 A3 c3 A4 c4 j v W) : PoLn x no b0 A1 c1 A2 c2 A3 c3 A4 c4 j v W' := by
  match j, h with
  | 0, h => exact h
  | 1, h => exact h
  | 2, ⟨B1, d1, B2, d2, B3, d3, B4, d4, e, k⟩ => exact ⟨B1, d1, B2, d2, B3, d3, B4, d4, e, k.below hb⟩
  | 3, h => exact h
  | 4, h => exact h
  | 5, h => exact h
  | 6, ⟨B1, d1, B2, d2, B3, d3, B4, d4, e, k⟩ => exact ⟨B1, d1, B2, d2, B3, d3, B4, d4, e, k.below hb⟩
  | n + 7, h => trivial
set_option maxRecDepth 100000 in
set_option maxHeartbeats 8000000 in
theorem slitnot_yes (x : At) (no : Bool) (hF : AtF 1048576 x) (A1 : Option Addr) (c1 : Nat) (A2 : Option Addr) (c2 : Nat) (A3 : Option Addr) (c3 : Nat) (A4 : Option Addr) (c4 : Nat) (w : World) (hA : AtK w x A1 A2 A3 A4) (hR : ∀ W, Below w.heap.size w W → Calls Try.prog 131 #[.agg (x.cs A1 c1 A2 c2 A3 c3 A4 c4)] W fun e w' => e = .returned (.bool true) ∧ Below W.heap.size W w') :
    Calls Try.prog 71 #[.agg (x.lit no A1 c1 A2 c2 A3 c3 A4 c4)] w (SLnP x (!no) w) := by
  have HR := hid hR
  have CC := hid (fun W (h : Below w.heap.size w W) => l6copy_any x hF A1 c1 A2 c2 A3 c3 A4 c4 W (hA.below h))
  clear hR hF hA
  have H : KcL [(w.heap.size, 0, .int .i64 x.kd), (w.heap.size, 1, .string x.a.nm), (w.heap.size, 2, .slice A1 x.a.n c1), (w.heap.size, 3, .string x.b.nm), (w.heap.size, 4, .slice A2 x.b.n c2), (w.heap.size, 5, .slice A3 x.n c3), (w.heap.size, 6, .slice A4 x.m c4), (w.heap.size, 7, .int .i64 x.bd), (w.heap.size, 8, .bool x.st), (w.heap.size, 9, .bool no)] ((w.alloc (.cells #[.int .i64 x.kd, .string x.a.nm, .slice A1 x.a.n c1, .string x.b.nm, .slice A2 x.b.n c2, .slice A3 x.n c3, .slice A4 x.m c4, .int .i64 x.bd, .bool x.st, .bool no] 104)).alloc (.cells #[.int .i64 0, .string ⟨#[]⟩, .slice none 0 0, .string ⟨#[]⟩, .slice none 0 0, .slice none 0 0, .slice none 0 0, .int .i64 0, .bool false, .bool false] 104)) := by
    refine ⟨?_, ?_, ?_, ?_, ?_, ?_, ?_, ?_, ?_, ?_, trivial⟩ <;> simp [go_sem]
  have q0 : Below w.heap.size w ((w.alloc (.cells #[.int .i64 x.kd, .string x.a.nm, .slice A1 x.a.n c1, .string x.b.nm, .slice A2 x.b.n c2, .slice A3 x.n c3, .slice A4 x.m c4, .int .i64 x.bd, .bool x.st, .bool no] 104)).alloc (.cells #[.int .i64 0, .string ⟨#[]⟩, .slice none 0 0, .string ⟨#[]⟩, .slice none 0 0, .slice none 0 0, .slice none 0 0, .int .i64 0, .bool false, .bool false] 104)) := bal (bal (Below.refl _ _) _) _
  have R2 : ((w.alloc (.cells #[.int .i64 x.kd, .string x.a.nm, .slice A1 x.a.n c1, .string x.b.nm, .slice A2 x.b.n c2, .slice A3 x.n c3, .slice A4 x.m c4, .int .i64 x.bd, .bool x.st, .bool no] 104)).alloc (.cells #[.int .i64 0, .string ⟨#[]⟩, .slice none 0 0, .string ⟨#[]⟩, .slice none 0 0, .slice none 0 0, .slice none 0 0, .int .i64 0, .bool false, .bool false] 104)).rowIs (w.heap.size + 1) 104 10 (rowOf #[.int .i64 0, .string ⟨#[]⟩, .slice none 0 0, .string ⟨#[]⟩, .slice none 0 0, .slice none 0 0, .slice none 0 0, .int .i64 0, .bool false, .bool false]) := by
    have h := row_newA (w.alloc (.cells #[.int .i64 x.kd, .string x.a.nm, .slice A1 x.a.n c1, .string x.b.nm, .slice A2 x.b.n c2, .slice A3 x.n c3, .slice A4 x.m c4, .int .i64 x.bd, .bool x.st, .bool no] 104)) #[.int .i64 0, .string ⟨#[]⟩, .slice none 0 0, .string ⟨#[]⟩, .slice none 0 0, .slice none 0 0, .slice none 0 0, .int .i64 0, .bool false, .bool false] 104
    rw [World.size_alloc] at h
    exact h
  show Calls _ _ #[.agg #[.int .i64 x.kd, .string x.a.nm, .slice A1 x.a.n c1, .string x.b.nm, .slice A2 x.b.n c2, .slice A3 x.n c3, .slice A4 x.m c4, .int .i64 x.bd, .bool x.st, .bool no]] w _
  simp only [At.cs] at HR
  go_enter Try.func71, Try.ntmps71
  have HH_ := H; obtain ⟨s0, s1, s2, s3, s4, s5, s6, s7, s8, s9, _⟩ := HH_
  go_wp2_with fail
  refine (HR.out _ q0).mono ?_
  rintro e w1 ⟨rfl, hq⟩
  clear s0 s1 s2 s3 s4 s5 s6 s7 s8 s9
  replace H := H.below hq
  replace R2 := row_below R2 hq
  replace q0 := btr q0 hq
  clear hq HR
  have hD := (Below.refl w1.heap.size w1).drew
  go_upto_region 3 with fail
  refine region_stab (fun W => Below w1.heap.size w1 W) (PoLn x no w.heap.size A1 c1 A2 c2 A3 c3 A4 c4) [[], [0], [1], [], [3], [4], [2, 5]] 7 rfl (by kernel_rfl) hD (fun W W' h1 h2 => btr h2 h1) (poLn_mono x no w.heap.size A1 c1 A2 c2 A3 c3 A4 c4) (fun i hi => ?_) ?_
  · match i, hi with
    | 0, _ =>
      refine ⟨_, rfl, fun V W hC hP => ?_⟩
      simp only [List.getD_cons_zero, List.getD_cons_succ, puts, dstOf, List.getElem?_toArray, List.getElem?_cons_zero, List.getElem?_cons_succ, Option.bind_some]
      exact stm_quiet (v := .pointer (some ⟨w.heap.size, 0, none⟩)) (by simp [execOp, go_sem]) rfl
    | 1, _ =>
      refine ⟨_, rfl, fun V W hC hP => ?_⟩
      have h0 := hP 0 (by decide)
      obtain ⟨s0, s1, s2, s3, s4, s5, s6, s7, s8, s9, _⟩ := H.below hC
      replace h0 : V 0 = _ := h0
      simp only [List.getD_cons_zero, List.getD_cons_succ, puts, dstOf, List.getElem?_toArray, List.getElem?_cons_zero, List.getElem?_cons_succ, Option.bind_some, h0]
      exact stm_quiet (v := .agg #[.int .i64 x.kd, .string x.a.nm, .slice A1 x.a.n c1, .string x.b.nm, .slice A2 x.b.n c2, .slice A3 x.n c3, .slice A4 x.m c4, .int .i64 x.bd, .bool x.st]) (by simp [execOp, go_sem, s0, s1, s2, s3, s4, s5, s6, s7, s8]) rfl
    | 2, _ =>
      refine ⟨_, rfl, fun V W hC hP => ?_⟩
      have h1 := hP 1 (by decide)
      replace h1 : V 1 = _ := h1
      simp only [List.getD_cons_zero, List.getD_cons_succ, puts, dstOf, List.getElem?_toArray, List.getElem?_cons_zero, List.getElem?_cons_succ, Option.bind_some, h1]
      refine stm_call (f := 137) (args := #[.agg (x.cs A1 c1 A2 c2 A3 c3 A4 c4)]) (by simp [execOp, go_sem]) ((CC.out W (btr q0 hC)).mono ?_)
      rintro e w3 ⟨B1, d1, B2, d2, B3, d3, B4, d4, rfl, hk, hq⟩
      exact ⟨_, rfl, hq, B1, d1, B2, d2, B3, d3, B4, d4, rfl, hk⟩
    | 3, _ =>
      refine ⟨_, rfl, fun V W hC hP => ?_⟩
      simp only [List.getD_cons_zero, List.getD_cons_succ, puts, dstOf, List.getElem?_toArray, List.getElem?_cons_zero, List.getElem?_cons_succ, Option.bind_some]
      exact stm_quiet (v := .pointer (some ⟨w.heap.size, 9, none⟩)) (by simp [execOp, go_sem]) rfl
    | 4, _ =>
      refine ⟨_, rfl, fun V W hC hP => ?_⟩
      have h3 := hP 3 (by decide)
      obtain ⟨s0, s1, s2, s3, s4, s5, s6, s7, s8, s9, _⟩ := H.below hC
      replace h3 : V 3 = _ := h3
      simp only [List.getD_cons_zero, List.getD_cons_succ, puts, dstOf, List.getElem?_toArray, List.getElem?_cons_zero, List.getElem?_cons_succ, Option.bind_some, h3]
      exact stm_quiet (v := .bool no) (by simp [execOp, go_sem, s9]) rfl
    | 5, _ =>
      refine ⟨_, rfl, fun V W hC hP => ?_⟩
      have h4 := hP 4 (by decide)
      replace h4 : V 4 = _ := h4
      simp only [List.getD_cons_zero, List.getD_cons_succ, puts, dstOf, List.getElem?_toArray, List.getElem?_cons_zero, List.getElem?_cons_succ, Option.bind_some, h4]
      exact stm_quiet (v := .bool (!no)) (by simp [execOp, go_sem]) rfl
    | 6, _ =>
      refine ⟨_, rfl, fun V W hC hP => ?_⟩
      have h2 := hP 2 (by decide)
      have h5 := hP 5 (by decide)
      replace h5 : V 5 = _ := h5
      obtain ⟨B1, d1, B2, d2, B3, d3, B4, d4, e2, hk⟩ := h2
      simp only [At.cs] at e2
      simp only [List.getD_cons_zero, List.getD_cons_succ, puts, dstOf, List.getElem?_toArray, List.getElem?_cons_zero, List.getElem?_cons_succ, Option.bind_some, h5, e2]
      exact stm_quiet (v := .agg (x.lit (!no) B1 d1 B2 d2 B3 d3 B4 d4)) (by simp [execOp, go_sem, At.lit]) ⟨B1, d1, B2, d2, B3, d3, B4, d4, rfl, hk⟩
    | n + 7, h => exact absurd h (by omega)
  intro V W hC hP
  obtain ⟨B1, d1, B2, d2, B3, d3, B4, d4, e6, hk⟩ := hP 6 (by decide)
  clear hP
  simp only [At.lit] at e6
  rw [show List.range 7 = [0, 1, 2, 3, 4, 5, 6] from rfl]
  simp only [List.getD_cons_zero, List.getD_cons_succ, puts, dstOf, List.getElem?_toArray, List.getElem?_cons_zero, List.getElem?_cons_succ, Option.bind_some, e6, List.drop_succ_cons, List.drop_zero, Act.put, List.setIfInBounds_toArray, List.set_cons_succ, List.set_cons_zero]
  have R5 := row_below R2 hC
  have q1 := btr q0 hC
  have hlr : w.heap.size + 1 < W.heap.size := R5.lt
  have zr0 : W.cell? ⟨w.heap.size + 1, 0, none⟩ = some (.int .i64 0) := R5.cell (i := 0) (by decide)
  have fzr0 : W.frozen? ⟨w.heap.size + 1, 0, none⟩ = false := R5.frozen _
  have zr1 : W.cell? ⟨w.heap.size + 1, 1, none⟩ = some (.string ⟨#[]⟩) := R5.cell (i := 1) (by decide)
  have fzr1 : W.frozen? ⟨w.heap.size + 1, 1, none⟩ = false := R5.frozen _
  have zr2 : W.cell? ⟨w.heap.size + 1, 2, none⟩ = some (.slice none 0 0) := R5.cell (i := 2) (by decide)
  have fzr2 : W.frozen? ⟨w.heap.size + 1, 2, none⟩ = false := R5.frozen _
  have zr3 : W.cell? ⟨w.heap.size + 1, 3, none⟩ = some (.string ⟨#[]⟩) := R5.cell (i := 3) (by decide)
  have fzr3 : W.frozen? ⟨w.heap.size + 1, 3, none⟩ = false := R5.frozen _
  have zr4 : W.cell? ⟨w.heap.size + 1, 4, none⟩ = some (.slice none 0 0) := R5.cell (i := 4) (by decide)
  have fzr4 : W.frozen? ⟨w.heap.size + 1, 4, none⟩ = false := R5.frozen _
  have zr5 : W.cell? ⟨w.heap.size + 1, 5, none⟩ = some (.slice none 0 0) := R5.cell (i := 5) (by decide)
  have fzr5 : W.frozen? ⟨w.heap.size + 1, 5, none⟩ = false := R5.frozen _
  have zr6 : W.cell? ⟨w.heap.size + 1, 6, none⟩ = some (.slice none 0 0) := R5.cell (i := 6) (by decide)
  have fzr6 : W.frozen? ⟨w.heap.size + 1, 6, none⟩ = false := R5.frozen _
  have zr7 : W.cell? ⟨w.heap.size + 1, 7, none⟩ = some (.int .i64 0) := R5.cell (i := 7) (by decide)
  have fzr7 : W.frozen? ⟨w.heap.size + 1, 7, none⟩ = false := R5.frozen _
  have zr8 : W.cell? ⟨w.heap.size + 1, 8, none⟩ = some (.bool false) := R5.cell (i := 8) (by decide)
  have fzr8 : W.frozen? ⟨w.heap.size + 1, 8, none⟩ = false := R5.frozen _
  have zr9 : W.cell? ⟨w.heap.size + 1, 9, none⟩ = some (.bool false) := R5.cell (i := 9) (by decide)
  have fzr9 : W.frozen? ⟨w.heap.size + 1, 9, none⟩ = false := R5.frozen _
  obtain ⟨⟨t0, t1, t2, t3, t4, t5, t6, t7, t8, t9⟩, hblk, hszc, hbel⟩ := chain10 R5 (.int .i64 x.kd) (.string x.a.nm) (.slice B1 x.a.n d1) (.string x.b.nm) (.slice B2 x.b.n d2) (.slice B3 x.n d3) (.slice B4 x.m d4) (.int .i64 x.bd) (.bool x.st) (.bool (!no))
  have HB := hid (hbel w q1 (by omega))
  have HK := hid hk
  have hR5 := R5
  have HBL := hid hblk
  clear hszc hbel e6 hk hblk
  go_wp2
  refine bodyPost_ret (v := .agg #[.int .i64 x.kd, .string x.a.nm, .slice B1 x.a.n d1, .string x.b.nm, .slice B2 x.b.n d2, .slice B3 x.n d3, .slice B4 x.m d4, .int .i64 x.bd, .bool x.st, .bool (!no)]) (by simp [results, Try.results71, go_sem, t0, t1, t2, t3, t4, t5, t6, t7, t8, t9]) rfl ?_
  exact ⟨B1, d1, B2, d2, B3, d3, B4, d4, rfl, HK.out.frame hR5 (by decide) (by decide) HBL.out, HB.out⟩
theorem slitnot_any (res : Bool) (x : At) (no : Bool) (hres : res = true ↔ RightQ x) (hF : AtF 1048576 x) (A1 : Option Addr) (c1 : Nat) (A2 : Option Addr) (c2 : Nat) (A3 : Option Addr) (c3 : Nat) (A4 : Option Addr) (c4 : Nat) (w : World) (hA : AtK w x A1 A2 A3 A4) :
    Calls Try.prog 71 #[.agg (x.lit no A1 c1 A2 c2 A3 c3 A4 c4)] w (SLnP (lnA res x) (res && !no) w) := by
  have hR := fun W (h : Below w.heap.size w W) => l6right_any res x hres hF A1 c1 A2 c2 A3 c3 A4 c4 W (hA.below h)
  cases res with
  | false => exact slitnot_no x no A1 c1 A2 c2 A3 c3 A4 c4 w hR
  | true => exact slitnot_yes x no hF A1 c1 A2 c2 A3 c3 A4 c4 w hA hR
end Go.Proofs.Ytanfljajafelgaa

namespace Go.Proofs.Ytanfljajafelgaa
set_option linter.unusedVariables false
set_option linter.unusedSimpArgs false
open Go.RowKit
theorem OwnB.chainB {u C : World} {ab lo hi : Nat} {A : Option Addr} {n : Nat} {Z : Nat → Int} (hd : ab < lo ∨ hi ≤ ab) (hblk : ∀ x, x ≠ ab → C.heap[x]? = u.heap[x]?) (hsz : C.heap.size = u.heap.size) (h : OwnB lo hi u A n Z) : OwnB lo hi C A n Z := by
  rcases h with h | ⟨g, ha, h1, h2, hgw, hc⟩
  · exact .inl h
  · have hb := hblk g (by omega)
    exact .inr ⟨g, ha, h1, h2, by rw [hsz]; exact hgw, fun k hk => ⟨(World.cell?_of_block (w := u) (a := ⟨g, k, none⟩) hb).trans (hc k hk).1, (World.frozen?_of_block (w := u) (a := ⟨g, k, none⟩) hb).trans (hc k hk).2⟩⟩
theorem LtS.chainB {u C : World} {x : At} {ab lo hi : Nat} {A1 A2 A3 A4 : Option Addr} (hd : ab < lo ∨ hi ≤ ab) (hblk : ∀ x, x ≠ ab → C.heap[x]? = u.heap[x]?) (hsz : C.heap.size = u.heap.size) (h : LtS u x lo hi A1 A2 A3 A4) : LtS C x lo hi A1 A2 A3 A4 := by
  obtain ⟨h1, h2, h3, a, b, c, d, s1, s2, s3, o⟩ := h
  exact ⟨h1, h2, h3, a, b, c, d, SepT.chainS (by omega) hblk s1, SepT.chainS (by omega) hblk s2, SepT.chainS (by omega) hblk s3, OwnB.chainB (by omega) hblk hsz o⟩
theorem lts_eq {w : World} {x : At} {lo hi : Nat} {A1 A2 : Option Addr} (hk : x.kd = 1) (hE : EqQ x) (h : LtS w (atAB x.a x.b) lo hi A1 A2 none none) : LtS w x lo hi A1 A2 none none := by
  obtain ⟨h1, h2, h3, a, b, c, d, s1, s2, s3, o⟩ := h
  obtain ⟨_, _, e1, e2, _, _⟩ := hE
  exact ⟨h1, h2, h3, a, b, c, d, s1, s2, .inl e1, .inl e2⟩
theorem cs_eq {x : At} (hk : x.kd = 1) (hE : EqQ x) (B1 : Option Addr) (d1 : Nat) (B2 : Option Addr) (d2 : Nat) : (atAB x.a x.b).cs B1 d1 B2 d2 none 0 none 0 = x.cs B1 d1 B2 d2 none 0 none 0 := by
  obtain ⟨_, _, e1, e2, e3, e4⟩ := hE
  simp only [At.cs, atAB]
  rw [hk, e1, e2, e3, e4]
theorem noT_mk {t : Tm} (hF : Fits 1048576 t) (h : NoT t) : t.nm = ⟨#[]⟩ ∧ t.n = 0 := (teq_noT h |> fun e => by
  cases t with
  | bad => exact False.elim hF
  | mk nm n kid => exact ⟨(teq_mk e).1, (teq_mk e).2.1⟩)
theorem lts_sum {w : World} {x : At} {X : List Ad} {lo hi g3 : Nat} {A4 : Option Addr} (hF : AtF 1048576 x) (hS : SumQ x) (hl : X.length = x.n) (hX : ∀ k, k < x.n → (X.getD k default).t = x.kid k ∧ (X.getD k default).z = x.Z k) (h : LtS w (atSum X x.bd x.st) lo hi none none (some ⟨g3, 0, none⟩) A4) : LtS w x lo hi none none (some ⟨g3, 0, none⟩) A4 := by
  obtain ⟨h1, h2, h3, a, b, c, d, s1, s2, s3, o⟩ := h
  have emp : ∀ {t : Tm} {l h : Nat}, Fits 1048576 t → NoT t → SepT w t l h none := fun {t l h} hf hn => by
    have := (noT_mk hf hn).2
    cases t with
    | bad => exact False.elim hf
    | mk nm n kid => exact .inl this
  refine ⟨h1, h2, h3, a, b, c, d, emp hF.1 hS.1, emp hF.2.1 hS.2.1, ?_, ?_⟩
  · have h4 : SepT w (.mk ⟨#[]⟩ X.length (fun k => (X.getD k default).t)) h2 h3 (some ⟨g3, 0, none⟩) := s3
    have h5 := h4.congr (nm' := ⟨#[]⟩) (kid' := x.kid) (fun k hk => (hX k (by omega)).1)
    rw [hl] at h5
    exact h5
  · have o' : OwnB h3 hi w A4 X.length (fun k => (X.getD k default).z) := o
    rcases o' with h | ⟨g, ha, g1, g2, hgw, hc⟩
    · exact .inl (by have := hS.2.2.1; omega)
    · refine .inr ⟨g, ha, g1, g2, hgw, fun k hk => ?_⟩
      have hkn : k < x.n := by have := hS.2.2.1; omega
      rw [← (hX k hkn).2]
      exact hc k (by omega)
theorem cs_sum {x : At} {X : List Ad} (hk : x.kd = 2) (hF : AtF 1048576 x) (hS : SumQ x) (hl : X.length = x.n) (g3 d3 : Nat) (B4 : Option Addr) (d4 : Nat) : (atSum X x.bd x.st).cs none 0 none 0 (some ⟨g3, 0, none⟩) d3 B4 d4 = x.cs none 0 none 0 (some ⟨g3, 0, none⟩) d3 B4 d4 := by
  obtain ⟨a1, a2⟩ := noT_mk hF.1 hS.1
  obtain ⟨b1, b2⟩ := noT_mk hF.2.1 hS.2.1
  have e := hS.2.2.1
  simp only [At.cs, atSum]
  rw [hk, a1, a2, b1, b2, ← e, hl]
  rfl
def PLnP (x : At) (no : Bool) (W : World) (e : Ending) (w' : World) : Prop :=
  ∃ A1 d1 A2 d2 A3 d3 A4 d4, e = .returned (.agg (x.lit no A1 d1 A2 d2 A3 d3 A4 d4)) ∧ LtS w' x W.heap.size w'.heap.size A1 A2 A3 A4 ∧ Below W.heap.size W w'
set_option maxRecDepth 100000 in
set_option maxHeartbeats 4000000 in
theorem litnot_no (x : At) (no : Bool) (A1 A2 A3 A4 : Option Addr) (w : World) (hC : ∀ W, Below w.heap.size w W → Calls Try.prog 135 #[.agg (x.cs A1 x.a.n A2 x.b.n A3 x.n A4 x.m)] W fun e w' => e = .returned (.tuple #[.nilIface, .bool false]) ∧ Below W.heap.size W w') :
    Calls Try.prog 72 #[.agg (x.lit no A1 x.a.n A2 x.b.n A3 x.n A4 x.m)] w (PLnP zAt false w) := by
  have HC := hid hC
  clear hC
  have q0 : Below w.heap.size w ((w.alloc (.cells #[.int .i64 x.kd, .string x.a.nm, .slice A1 x.a.n x.a.n, .string x.b.nm, .slice A2 x.b.n x.b.n, .slice A3 x.n x.n, .slice A4 x.m x.m, .int .i64 x.bd, .bool x.st, .bool no] 104)).alloc (.cells #[.int .i64 0, .string ⟨#[]⟩, .slice none 0 0, .string ⟨#[]⟩, .slice none 0 0, .slice none 0 0, .slice none 0 0, .int .i64 0, .bool false, .bool false] 104)) := bal (bal (Below.refl _ _) _) _
  have R2 : ((w.alloc (.cells #[.int .i64 x.kd, .string x.a.nm, .slice A1 x.a.n x.a.n, .string x.b.nm, .slice A2 x.b.n x.b.n, .slice A3 x.n x.n, .slice A4 x.m x.m, .int .i64 x.bd, .bool x.st, .bool no] 104)).alloc (.cells #[.int .i64 0, .string ⟨#[]⟩, .slice none 0 0, .string ⟨#[]⟩, .slice none 0 0, .slice none 0 0, .slice none 0 0, .int .i64 0, .bool false, .bool false] 104)).rowIs (w.heap.size + 1) 104 10 (rowOf #[.int .i64 0, .string ⟨#[]⟩, .slice none 0 0, .string ⟨#[]⟩, .slice none 0 0, .slice none 0 0, .slice none 0 0, .int .i64 0, .bool false, .bool false]) := by
    have h := row_newA (w.alloc (.cells #[.int .i64 x.kd, .string x.a.nm, .slice A1 x.a.n x.a.n, .string x.b.nm, .slice A2 x.b.n x.b.n, .slice A3 x.n x.n, .slice A4 x.m x.m, .int .i64 x.bd, .bool x.st, .bool no] 104)) #[.int .i64 0, .string ⟨#[]⟩, .slice none 0 0, .string ⟨#[]⟩, .slice none 0 0, .slice none 0 0, .slice none 0 0, .int .i64 0, .bool false, .bool false] 104
    rw [World.size_alloc] at h
    exact h
  show Calls _ _ #[.agg #[.int .i64 x.kd, .string x.a.nm, .slice A1 x.a.n x.a.n, .string x.b.nm, .slice A2 x.b.n x.b.n, .slice A3 x.n x.n, .slice A4 x.m x.m, .int .i64 x.bd, .bool x.st, .bool no]] w _
  simp only [At.cs] at HC
  go_enter Try.func72, Try.ntmps72
  go_wp2_with fail
  refine (HC.out _ q0).mono ?_
  rintro e w1 ⟨rfl, hq⟩
  replace R2 := row_below R2 hq
  replace q0 := btr q0 hq
  clear hq HC
  have hlr : w.heap.size + 1 < w1.heap.size := R2.lt
  have zr0 : w1.cell? ⟨w.heap.size + 1, 0, none⟩ = some (.int .i64 0) := R2.cell (i := 0) (by decide)
  have fzr0 : w1.frozen? ⟨w.heap.size + 1, 0, none⟩ = false := R2.frozen _
  have zr1 : w1.cell? ⟨w.heap.size + 1, 1, none⟩ = some (.string ⟨#[]⟩) := R2.cell (i := 1) (by decide)
  have fzr1 : w1.frozen? ⟨w.heap.size + 1, 1, none⟩ = false := R2.frozen _
  have zr2 : w1.cell? ⟨w.heap.size + 1, 2, none⟩ = some (.slice none 0 0) := R2.cell (i := 2) (by decide)
  have fzr2 : w1.frozen? ⟨w.heap.size + 1, 2, none⟩ = false := R2.frozen _
  have zr3 : w1.cell? ⟨w.heap.size + 1, 3, none⟩ = some (.string ⟨#[]⟩) := R2.cell (i := 3) (by decide)
  have fzr3 : w1.frozen? ⟨w.heap.size + 1, 3, none⟩ = false := R2.frozen _
  have zr4 : w1.cell? ⟨w.heap.size + 1, 4, none⟩ = some (.slice none 0 0) := R2.cell (i := 4) (by decide)
  have fzr4 : w1.frozen? ⟨w.heap.size + 1, 4, none⟩ = false := R2.frozen _
  have zr5 : w1.cell? ⟨w.heap.size + 1, 5, none⟩ = some (.slice none 0 0) := R2.cell (i := 5) (by decide)
  have fzr5 : w1.frozen? ⟨w.heap.size + 1, 5, none⟩ = false := R2.frozen _
  have zr6 : w1.cell? ⟨w.heap.size + 1, 6, none⟩ = some (.slice none 0 0) := R2.cell (i := 6) (by decide)
  have fzr6 : w1.frozen? ⟨w.heap.size + 1, 6, none⟩ = false := R2.frozen _
  have zr7 : w1.cell? ⟨w.heap.size + 1, 7, none⟩ = some (.int .i64 0) := R2.cell (i := 7) (by decide)
  have fzr7 : w1.frozen? ⟨w.heap.size + 1, 7, none⟩ = false := R2.frozen _
  have zr8 : w1.cell? ⟨w.heap.size + 1, 8, none⟩ = some (.bool false) := R2.cell (i := 8) (by decide)
  have fzr8 : w1.frozen? ⟨w.heap.size + 1, 8, none⟩ = false := R2.frozen _
  have zr9 : w1.cell? ⟨w.heap.size + 1, 9, none⟩ = some (.bool false) := R2.cell (i := 9) (by decide)
  have fzr9 : w1.frozen? ⟨w.heap.size + 1, 9, none⟩ = false := R2.frozen _
  obtain ⟨⟨t0, t1, t2, t3, t4, t5, t6, t7, t8, t9⟩, hblk, hszc, hbel⟩ := chain10 R2 (.int .i64 0) (.string ⟨#[]⟩) (.slice none 0 0) (.string ⟨#[]⟩) (.slice none 0 0) (.slice none 0 0) (.slice none 0 0) (.int .i64 0) (.bool false) (.bool false)
  have HB := hid (hbel w q0 (by omega))
  clear hblk hszc hbel
  go_wp2
  refine bodyPost_ret (v := .agg #[.int .i64 0, .string ⟨#[]⟩, .slice none 0 0, .string ⟨#[]⟩, .slice none 0 0, .slice none 0 0, .slice none 0 0, .int .i64 0, .bool false, .bool false]) (by simp [results, Try.results72, go_sem, t0, t1, t2, t3, t4, t5, t6, t7, t8, t9]) rfl ?_
  exact ⟨none, 0, none, 0, none, 0, none, 0, rfl, zAt_s HB.out.size, HB.out⟩
/-- what each operation of the program's answer leaves -/
def PoLm (x : At) (no : Bool) (b0 : Nat) (vv : Value) (j : Nat) (v : Value) (W : World) : Prop :=
  match j with
  | 0 => v = vv
  | 1 => ∃ B1 d1 B2 d2 B3 d3 B4 d4 lo hi, v = .agg (x.cs B1 d1 B2 d2 B3 d3 B4 d4) ∧ b0 + 1 < lo ∧ hi ≤ W.heap.size ∧ LtS W x lo hi B1 B2 B3 B4
  | 2 => v = .pointer (some ⟨b0, 9, none⟩)
  | 3 => v = .bool no
  | 4 => v = .bool (!no)
  | 5 => ∃ B1 d1 B2 d2 B3 d3 B4 d4 lo hi, v = .agg (x.lit (!no) B1 d1 B2 d2 B3 d3 B4 d4) ∧ b0 + 1 < lo ∧ hi ≤ W.heap.size ∧ LtS W x lo hi B1 B2 B3 B4
  | _ => True
theorem poLm_mono (x : At) (no : Bool) (b0 : Nat) (vv : Value) (j : Nat) (v : Value) (W W' : World) (hb : Below W.heap.size W W') (h : PoLm x no b0 vv j v W) : PoLm x no b0 vv j v W' := by
  match j, h with
  | 0, h => exact h
  | 1, ⟨B1, d1, B2, d2, B3, d3, B4, d4, lo, hi, e, h1, h2, k⟩ => exact ⟨B1, d1, B2, d2, B3, d3, B4, d4, lo, hi, e, h1, Nat.le_trans h2 hb.size, k.below hb⟩
  | 2, h => exact h
  | 3, h => exact h
  | 4, h => exact h
  | 5, ⟨B1, d1, B2, d2, B3, d3, B4, d4, lo, hi, e, h1, h2, k⟩ => exact ⟨B1, d1, B2, d2, B3, d3, B4, d4, lo, hi, e, h1, Nat.le_trans h2 hb.size, k.below hb⟩
  | n + 6, h => trivial
set_option maxRecDepth 100000 in
set_option maxHeartbeats 8000000 in
theorem litnot_eq (x : At) (no : Bool) (A1 A2 A3 A4 : Option Addr) (w : World) (hk1 : x.kd = 1) (hE : EqQ x) (hF : AtF 1048576 x) (hA : AtT w x A1 A2 A3 A4) (hC : ∀ W, Below w.heap.size w W → Calls Try.prog 135 #[.agg (x.cs A1 x.a.n A2 x.b.n A3 x.n A4 x.m)] W fun e w' => e = .returned (.tuple #[.iface 294 (eqV x.a x.b A1 x.a.n A2 x.b.n), .bool true]) ∧ Below W.heap.size W w') :
    Calls Try.prog 72 #[.agg (x.lit no A1 x.a.n A2 x.b.n A3 x.n A4 x.m)] w (PLnP x (!no) w) := by
  have CT := hid (fun W (h : Below w.heap.size w W) => (show Calls Try.prog 302 #[.agg #[.string x.a.nm, .slice A1 x.a.n x.a.n, .string x.b.nm, .slice A2 x.b.n x.b.n]] W (EqAtomS W x.a x.b) from eqatom_S x.a x.b hF.1 hF.2.1 A1 x.a.n A2 x.b.n W (hA.below h).1.kids (hA.below h).2.1.kids))
  have HC := hid hC
  have HK1 := hid hk1; have HE := hid hE
  clear hC hA hF hk1 hE
  have H : KcL [(w.heap.size, 0, .int .i64 x.kd), (w.heap.size, 1, .string x.a.nm), (w.heap.size, 2, .slice A1 x.a.n x.a.n), (w.heap.size, 3, .string x.b.nm), (w.heap.size, 4, .slice A2 x.b.n x.b.n), (w.heap.size, 5, .slice A3 x.n x.n), (w.heap.size, 6, .slice A4 x.m x.m), (w.heap.size, 7, .int .i64 x.bd), (w.heap.size, 8, .bool x.st), (w.heap.size, 9, .bool no)] ((w.alloc (.cells #[.int .i64 x.kd, .string x.a.nm, .slice A1 x.a.n x.a.n, .string x.b.nm, .slice A2 x.b.n x.b.n, .slice A3 x.n x.n, .slice A4 x.m x.m, .int .i64 x.bd, .bool x.st, .bool no] 104)).alloc (.cells #[.int .i64 0, .string ⟨#[]⟩, .slice none 0 0, .string ⟨#[]⟩, .slice none 0 0, .slice none 0 0, .slice none 0 0, .int .i64 0, .bool false, .bool false] 104)) := by
    refine ⟨?_, ?_, ?_, ?_, ?_, ?_, ?_, ?_, ?_, ?_, trivial⟩ <;> simp [go_sem]
  have q0 : Below w.heap.size w ((w.alloc (.cells #[.int .i64 x.kd, .string x.a.nm, .slice A1 x.a.n x.a.n, .string x.b.nm, .slice A2 x.b.n x.b.n, .slice A3 x.n x.n, .slice A4 x.m x.m, .int .i64 x.bd, .bool x.st, .bool no] 104)).alloc (.cells #[.int .i64 0, .string ⟨#[]⟩, .slice none 0 0, .string ⟨#[]⟩, .slice none 0 0, .slice none 0 0, .slice none 0 0, .int .i64 0, .bool false, .bool false] 104)) := bal (bal (Below.refl _ _) _) _
  have R2 : ((w.alloc (.cells #[.int .i64 x.kd, .string x.a.nm, .slice A1 x.a.n x.a.n, .string x.b.nm, .slice A2 x.b.n x.b.n, .slice A3 x.n x.n, .slice A4 x.m x.m, .int .i64 x.bd, .bool x.st, .bool no] 104)).alloc (.cells #[.int .i64 0, .string ⟨#[]⟩, .slice none 0 0, .string ⟨#[]⟩, .slice none 0 0, .slice none 0 0, .slice none 0 0, .int .i64 0, .bool false, .bool false] 104)).rowIs (w.heap.size + 1) 104 10 (rowOf #[.int .i64 0, .string ⟨#[]⟩, .slice none 0 0, .string ⟨#[]⟩, .slice none 0 0, .slice none 0 0, .slice none 0 0, .int .i64 0, .bool false, .bool false]) := by
    have h := row_newA (w.alloc (.cells #[.int .i64 x.kd, .string x.a.nm, .slice A1 x.a.n x.a.n, .string x.b.nm, .slice A2 x.b.n x.b.n, .slice A3 x.n x.n, .slice A4 x.m x.m, .int .i64 x.bd, .bool x.st, .bool no] 104)) #[.int .i64 0, .string ⟨#[]⟩, .slice none 0 0, .string ⟨#[]⟩, .slice none 0 0, .slice none 0 0, .slice none 0 0, .int .i64 0, .bool false, .bool false] 104
    rw [World.size_alloc] at h
    exact h
  show Calls _ _ #[.agg #[.int .i64 x.kd, .string x.a.nm, .slice A1 x.a.n x.a.n, .string x.b.nm, .slice A2 x.b.n x.b.n, .slice A3 x.n x.n, .slice A4 x.m x.m, .int .i64 x.bd, .bool x.st, .bool no]] w _
  simp only [At.cs] at HC
  go_enter Try.func72, Try.ntmps72
  have HH_ := H; obtain ⟨s0, s1, s2, s3, s4, s5, s6, s7, s8, s9, _⟩ := HH_
  go_wp2_with fail
  refine (HC.out _ q0).mono ?_
  rintro e w1 ⟨rfl, hq⟩
  unfold eqV
  clear s0 s1 s2 s3 s4 s5 s6 s7 s8 s9
  replace H := H.below hq
  replace R2 := row_below R2 hq
  replace q0 := btr q0 hq
  clear hq HC
  have hD := (Below.refl w1.heap.size w1).drew
  have hlr1 : w.heap.size + 1 < w1.heap.size := R2.lt
  go_upto_region 4 with fail
  refine region_stab (fun W => Below w1.heap.size w1 W) (PoLm x no w.heap.size (.iface 294 (.agg #[.string x.a.nm, .slice A1 x.a.n x.a.n, .string x.b.nm, .slice A2 x.b.n x.b.n]))) [[], [0], [], [2], [3], [1, 4]] 6 rfl (by kernel_rfl) hD (fun W W' h1 h2 => btr h2 h1) (poLm_mono x no w.heap.size _) (fun i hi => ?_) ?_
  · match i, hi with
    | 0, _ =>
      refine ⟨_, rfl, fun V W hC hP => ?_⟩
      simp only [List.getD_cons_zero, List.getD_cons_succ, puts, dstOf, List.getElem?_toArray, List.getElem?_cons_zero, List.getElem?_cons_succ, Option.bind_some]
      exact stm_quiet (v := .iface 294 (.agg #[.string x.a.nm, .slice A1 x.a.n x.a.n, .string x.b.nm, .slice A2 x.b.n x.b.n])) (by simp [execOp, go_sem]) rfl
    | 1, _ =>
      refine ⟨_, rfl, fun V W hC hP => ?_⟩
      have h0 := hP 0 (by decide)
      replace h0 : V 0 = _ := h0
      simp only [List.getD_cons_zero, List.getD_cons_succ, puts, dstOf, List.getElem?_toArray, List.getElem?_cons_zero, List.getElem?_cons_succ, Option.bind_some, h0]
      refine stm_call (f := 302) (args := #[.agg #[.string x.a.nm, .slice A1 x.a.n x.a.n, .string x.b.nm, .slice A2 x.b.n x.b.n]]) (by kernel_rfl) ((CT.out W (btr q0 hC)).mono ?_)
      rintro e w3 ⟨B1, d1, B2, d2, rfl, hS, _, hq⟩
      exact ⟨_, rfl, hq, B1, d1, B2, d2, none, 0, none, 0, _, _, by rw [cs_eq HK1.out HE.out], by have := hC.size; omega, Nat.le_refl _, lts_eq HK1.out HE.out hS⟩
    | 2, _ =>
      refine ⟨_, rfl, fun V W hC hP => ?_⟩
      simp only [List.getD_cons_zero, List.getD_cons_succ, puts, dstOf, List.getElem?_toArray, List.getElem?_cons_zero, List.getElem?_cons_succ, Option.bind_some]
      exact stm_quiet (v := .pointer (some ⟨w.heap.size, 9, none⟩)) (by simp [execOp, go_sem]) rfl
    | 3, _ =>
      refine ⟨_, rfl, fun V W hC hP => ?_⟩
      have h2 := hP 2 (by decide)
      obtain ⟨s0, s1, s2, s3, s4, s5, s6, s7, s8, s9, _⟩ := H.below hC
      replace h2 : V 2 = _ := h2
      simp only [List.getD_cons_zero, List.getD_cons_succ, puts, dstOf, List.getElem?_toArray, List.getElem?_cons_zero, List.getElem?_cons_succ, Option.bind_some, h2]
      exact stm_quiet (v := .bool no) (by simp [execOp, go_sem, s9]) rfl
    | 4, _ =>
      refine ⟨_, rfl, fun V W hC hP => ?_⟩
      have h3 := hP 3 (by decide)
      replace h3 : V 3 = _ := h3
      simp only [List.getD_cons_zero, List.getD_cons_succ, puts, dstOf, List.getElem?_toArray, List.getElem?_cons_zero, List.getElem?_cons_succ, Option.bind_some, h3]
      exact stm_quiet (v := .bool (!no)) (by simp [execOp, go_sem]) rfl
    | 5, _ =>
      refine ⟨_, rfl, fun V W hC hP => ?_⟩
      have h1 := hP 1 (by decide)
      have h4 := hP 4 (by decide)
      replace h4 : V 4 = _ := h4
      obtain ⟨B1, d1, B2, d2, B3, d3, B4, d4, lo, hi, e2, g1, g2, hk⟩ := h1
      simp only [At.cs] at e2
      simp only [List.getD_cons_zero, List.getD_cons_succ, puts, dstOf, List.getElem?_toArray, List.getElem?_cons_zero, List.getElem?_cons_succ, Option.bind_some, h4, e2]
      exact stm_quiet (v := .agg (x.lit (!no) B1 d1 B2 d2 B3 d3 B4 d4)) (by simp [execOp, go_sem, At.lit]) ⟨B1, d1, B2, d2, B3, d3, B4, d4, lo, hi, rfl, g1, g2, hk⟩
    | n + 6, h => exact absurd h (by omega)
  intro V W hC hP
  obtain ⟨B1, d1, B2, d2, B3, d3, B4, d4, lo, hi, e6, g1, g2, hk⟩ := hP 5 (by decide)
  clear hP
  simp only [At.lit] at e6
  rw [show List.range 6 = [0, 1, 2, 3, 4, 5] from rfl]
  simp only [List.getD_cons_zero, List.getD_cons_succ, puts, dstOf, List.getElem?_toArray, List.getElem?_cons_zero, List.getElem?_cons_succ, Option.bind_some, e6, List.drop_succ_cons, List.drop_zero, Act.put, List.setIfInBounds_toArray, List.set_cons_succ, List.set_cons_zero]
  have R5 := row_below R2 hC
  have q1 := btr q0 hC
  have hlr : w.heap.size + 1 < W.heap.size := R5.lt
  have zr0 : W.cell? ⟨w.heap.size + 1, 0, none⟩ = some (.int .i64 0) := R5.cell (i := 0) (by decide)
  have fzr0 : W.frozen? ⟨w.heap.size + 1, 0, none⟩ = false := R5.frozen _
  have zr1 : W.cell? ⟨w.heap.size + 1, 1, none⟩ = some (.string ⟨#[]⟩) := R5.cell (i := 1) (by decide)
  have fzr1 : W.frozen? ⟨w.heap.size + 1, 1, none⟩ = false := R5.frozen _
  have zr2 : W.cell? ⟨w.heap.size + 1, 2, none⟩ = some (.slice none 0 0) := R5.cell (i := 2) (by decide)
  have fzr2 : W.frozen? ⟨w.heap.size + 1, 2, none⟩ = false := R5.frozen _
  have zr3 : W.cell? ⟨w.heap.size + 1, 3, none⟩ = some (.string ⟨#[]⟩) := R5.cell (i := 3) (by decide)
  have fzr3 : W.frozen? ⟨w.heap.size + 1, 3, none⟩ = false := R5.frozen _
  have zr4 : W.cell? ⟨w.heap.size + 1, 4, none⟩ = some (.slice none 0 0) := R5.cell (i := 4) (by decide)
  have fzr4 : W.frozen? ⟨w.heap.size + 1, 4, none⟩ = false := R5.frozen _
  have zr5 : W.cell? ⟨w.heap.size + 1, 5, none⟩ = some (.slice none 0 0) := R5.cell (i := 5) (by decide)
  have fzr5 : W.frozen? ⟨w.heap.size + 1, 5, none⟩ = false := R5.frozen _
  have zr6 : W.cell? ⟨w.heap.size + 1, 6, none⟩ = some (.slice none 0 0) := R5.cell (i := 6) (by decide)
  have fzr6 : W.frozen? ⟨w.heap.size + 1, 6, none⟩ = false := R5.frozen _
  have zr7 : W.cell? ⟨w.heap.size + 1, 7, none⟩ = some (.int .i64 0) := R5.cell (i := 7) (by decide)
  have fzr7 : W.frozen? ⟨w.heap.size + 1, 7, none⟩ = false := R5.frozen _
  have zr8 : W.cell? ⟨w.heap.size + 1, 8, none⟩ = some (.bool false) := R5.cell (i := 8) (by decide)
  have fzr8 : W.frozen? ⟨w.heap.size + 1, 8, none⟩ = false := R5.frozen _
  have zr9 : W.cell? ⟨w.heap.size + 1, 9, none⟩ = some (.bool false) := R5.cell (i := 9) (by decide)
  have fzr9 : W.frozen? ⟨w.heap.size + 1, 9, none⟩ = false := R5.frozen _
  obtain ⟨⟨t0, t1, t2, t3, t4, t5, t6, t7, t8, t9⟩, hblk, hszc, hbel⟩ := chain10 R5 (.int .i64 x.kd) (.string x.a.nm) (.slice B1 x.a.n d1) (.string x.b.nm) (.slice B2 x.b.n d2) (.slice B3 x.n d3) (.slice B4 x.m d4) (.int .i64 x.bd) (.bool x.st) (.bool (!no))
  have HB := hid (hbel w q1 (by omega))
  have HK := hid ((LtS.chainB (.inl g1) hblk hszc hk).mono (lo' := w.heap.size) (hi' := W.heap.size) (by omega) g2)
  have HZ := hid (Nat.le_of_eq hszc.symm)
  clear hszc hbel e6 hk hblk
  go_wp2
  refine bodyPost_ret (v := .agg #[.int .i64 x.kd, .string x.a.nm, .slice B1 x.a.n d1, .string x.b.nm, .slice B2 x.b.n d2, .slice B3 x.n d3, .slice B4 x.m d4, .int .i64 x.bd, .bool x.st, .bool (!no)]) (by simp [results, Try.results72, go_sem, t0, t1, t2, t3, t4, t5, t6, t7, t8, t9]) rfl ?_
  exact ⟨B1, d1, B2, d2, B3, d3, B4, d4, rfl, HK.out.mono (Nat.le_refl _) HZ.out, HB.out⟩
set_option maxRecDepth 100000 in
set_option maxHeartbeats 8000000 in
theorem litnot_sum (x : At) (no : Bool) (A1 A2 A3 A4 : Option Addr) (w : World) (hk2 : x.kd = 2) (hS : SumQ x) (hF : AtF 1048576 x) (X : List Ad) (hl : X.length = x.n) (hX : ∀ k, k < x.n → (X.getD k default).t = x.kid k ∧ (X.getD k default).z = x.Z k) (hC : ∀ W, Below w.heap.size w W → Calls Try.prog 135 #[.agg (x.cs A1 x.a.n A2 x.b.n A3 x.n A4 x.m)] W fun e w' => ∃ sa cap, e = .returned (.tuple #[.iface 299 (ineqV sa X.length cap x.bd x.st), .bool true]) ∧ RdD w' sa X ∧ KdD w' X ∧ Below W.heap.size W w') :
    Calls Try.prog 72 #[.agg (x.lit no A1 x.a.n A2 x.b.n A3 x.n A4 x.m)] w (PLnP x (!no) w) := by
  have CT := hid (fun (sa : Option Addr) (cap : Nat) W hR hK => (show Calls Try.prog 309 #[.agg #[.slice sa X.length cap, .int .i64 x.bd, .bool x.st]] W (IneqAtomS W X x.bd x.st) from ineqatom_S X sa cap x.bd x.st W (by have := hS.2.2.2.2.1; omega) (by have := hS.2.2.2.1; omega) hR hK (ad_fits hF hl hX)))
  have HC := hid hC
  have HF := hid hF; have HS := hid hS; have HL := hid hl; have HX := hid hX; have HK2 := hid hk2
  clear hC hF hS hl hX hk2
  have H : KcL [(w.heap.size, 0, .int .i64 x.kd), (w.heap.size, 1, .string x.a.nm), (w.heap.size, 2, .slice A1 x.a.n x.a.n), (w.heap.size, 3, .string x.b.nm), (w.heap.size, 4, .slice A2 x.b.n x.b.n), (w.heap.size, 5, .slice A3 x.n x.n), (w.heap.size, 6, .slice A4 x.m x.m), (w.heap.size, 7, .int .i64 x.bd), (w.heap.size, 8, .bool x.st), (w.heap.size, 9, .bool no)] ((w.alloc (.cells #[.int .i64 x.kd, .string x.a.nm, .slice A1 x.a.n x.a.n, .string x.b.nm, .slice A2 x.b.n x.b.n, .slice A3 x.n x.n, .slice A4 x.m x.m, .int .i64 x.bd, .bool x.st, .bool no] 104)).alloc (.cells #[.int .i64 0, .string ⟨#[]⟩, .slice none 0 0, .string ⟨#[]⟩, .slice none 0 0, .slice none 0 0, .slice none 0 0, .int .i64 0, .bool false, .bool false] 104)) := by
    refine ⟨?_, ?_, ?_, ?_, ?_, ?_, ?_, ?_, ?_, ?_, trivial⟩ <;> simp [go_sem]
  have q0 : Below w.heap.size w ((w.alloc (.cells #[.int .i64 x.kd, .string x.a.nm, .slice A1 x.a.n x.a.n, .string x.b.nm, .slice A2 x.b.n x.b.n, .slice A3 x.n x.n, .slice A4 x.m x.m, .int .i64 x.bd, .bool x.st, .bool no] 104)).alloc (.cells #[.int .i64 0, .string ⟨#[]⟩, .slice none 0 0, .string ⟨#[]⟩, .slice none 0 0, .slice none 0 0, .slice none 0 0, .int .i64 0, .bool false, .bool false] 104)) := bal (bal (Below.refl _ _) _) _
  have R2 : ((w.alloc (.cells #[.int .i64 x.kd, .string x.a.nm, .slice A1 x.a.n x.a.n, .string x.b.nm, .slice A2 x.b.n x.b.n, .slice A3 x.n x.n, .slice A4 x.m x.m, .int .i64 x.bd, .bool x.st, .bool no] 104)).alloc (.cells #[.int .i64 0, .string ⟨#[]⟩, .slice none 0 0, .string ⟨#[]⟩, .slice none 0 0, .slice none 0 0, .slice none 0 0, .int .i64 0, .bool false, .bool false] 104)).rowIs (w.heap.size + 1) 104 10 (rowOf #[.int .i64 0, .string ⟨#[]⟩, .slice none 0 0, .string ⟨#[]⟩, .slice none 0 0, .slice none 0 0, .slice none 0 0, .int .i64 0, .bool false, .bool false]) := by
    have h := row_newA (w.alloc (.cells #[.int .i64 x.kd, .string x.a.nm, .slice A1 x.a.n x.a.n, .string x.b.nm, .slice A2 x.b.n x.b.n, .slice A3 x.n x.n, .slice A4 x.m x.m, .int .i64 x.bd, .bool x.st, .bool no] 104)) #[.int .i64 0, .string ⟨#[]⟩, .slice none 0 0, .string ⟨#[]⟩, .slice none 0 0, .slice none 0 0, .slice none 0 0, .int .i64 0, .bool false, .bool false] 104
    rw [World.size_alloc] at h
    exact h
  show Calls _ _ #[.agg #[.int .i64 x.kd, .string x.a.nm, .slice A1 x.a.n x.a.n, .string x.b.nm, .slice A2 x.b.n x.b.n, .slice A3 x.n x.n, .slice A4 x.m x.m, .int .i64 x.bd, .bool x.st, .bool no]] w _
  simp only [At.cs] at HC
  go_enter Try.func72, Try.ntmps72
  have HH_ := H; obtain ⟨s0, s1, s2, s3, s4, s5, s6, s7, s8, s9, _⟩ := HH_
  go_wp2_with fail
  refine (HC.out _ q0).mono ?_
  rintro e w1 ⟨sa, cap, rfl, hRd, hKd, hq⟩
  unfold ineqV
  clear s0 s1 s2 s3 s4 s5 s6 s7 s8 s9
  replace H := H.below hq
  replace R2 := row_below R2 hq
  replace q0 := btr q0 hq
  clear hq HC
  have hD := (Below.refl w1.heap.size w1).drew
  have hlr1 : w.heap.size + 1 < w1.heap.size := R2.lt
  go_upto_region 4 with fail
  refine region_stab (fun W => Below w1.heap.size w1 W) (PoLm x no w.heap.size (.iface 299 (.agg #[.slice sa X.length cap, .int .i64 x.bd, .bool x.st]))) [[], [0], [], [2], [3], [1, 4]] 6 rfl (by kernel_rfl) hD (fun W W' h1 h2 => btr h2 h1) (poLm_mono x no w.heap.size _) (fun i hi => ?_) ?_
  · match i, hi with
    | 0, _ =>
      refine ⟨_, rfl, fun V W hC hP => ?_⟩
      simp only [List.getD_cons_zero, List.getD_cons_succ, puts, dstOf, List.getElem?_toArray, List.getElem?_cons_zero, List.getElem?_cons_succ, Option.bind_some]
      exact stm_quiet (v := .iface 299 (.agg #[.slice sa X.length cap, .int .i64 x.bd, .bool x.st])) (by simp [execOp, go_sem]) rfl
    | 1, _ =>
      refine ⟨_, rfl, fun V W hC hP => ?_⟩
      have h0 := hP 0 (by decide)
      replace h0 : V 0 = _ := h0
      simp only [List.getD_cons_zero, List.getD_cons_succ, puts, dstOf, List.getElem?_toArray, List.getElem?_cons_zero, List.getElem?_cons_succ, Option.bind_some, h0]
      refine stm_call (f := 309) (args := #[.agg #[.slice sa X.length cap, .int .i64 x.bd, .bool x.st]]) (by kernel_rfl) ((CT.out sa cap W (hRd.below hC) (hKd.below hC)).mono ?_)
      rintro e w3 ⟨g3, d3, B4, d4, rfl, hS3, _, _, _, _, hq⟩
      exact ⟨_, rfl, hq, none, 0, none, 0, some ⟨g3, 0, none⟩, d3, B4, d4, _, _, by rw [cs_sum HK2.out HF.out HS.out HL.out], by have := hC.size; omega, Nat.le_refl _, lts_sum HF.out HS.out HL.out HX.out hS3⟩
    | 2, _ =>
      refine ⟨_, rfl, fun V W hC hP => ?_⟩
      simp only [List.getD_cons_zero, List.getD_cons_succ, puts, dstOf, List.getElem?_toArray, List.getElem?_cons_zero, List.getElem?_cons_succ, Option.bind_some]
      exact stm_quiet (v := .pointer (some ⟨w.heap.size, 9, none⟩)) (by simp [execOp, go_sem]) rfl
    | 3, _ =>
      refine ⟨_, rfl, fun V W hC hP => ?_⟩
      have h2 := hP 2 (by decide)
      obtain ⟨s0, s1, s2, s3, s4, s5, s6, s7, s8, s9, _⟩ := H.below hC
      replace h2 : V 2 = _ := h2
      simp only [List.getD_cons_zero, List.getD_cons_succ, puts, dstOf, List.getElem?_toArray, List.getElem?_cons_zero, List.getElem?_cons_succ, Option.bind_some, h2]
      exact stm_quiet (v := .bool no) (by simp [execOp, go_sem, s9]) rfl
    | 4, _ =>
      refine ⟨_, rfl, fun V W hC hP => ?_⟩
      have h3 := hP 3 (by decide)
      replace h3 : V 3 = _ := h3
      simp only [List.getD_cons_zero, List.getD_cons_succ, puts, dstOf, List.getElem?_toArray, List.getElem?_cons_zero, List.getElem?_cons_succ, Option.bind_some, h3]
      exact stm_quiet (v := .bool (!no)) (by simp [execOp, go_sem]) rfl
    | 5, _ =>
      refine ⟨_, rfl, fun V W hC hP => ?_⟩
      have h1 := hP 1 (by decide)
      have h4 := hP 4 (by decide)
      replace h4 : V 4 = _ := h4
      obtain ⟨B1, d1, B2, d2, B3, d3, B4, d4, lo, hi, e2, g1, g2, hk⟩ := h1
      simp only [At.cs] at e2
      simp only [List.getD_cons_zero, List.getD_cons_succ, puts, dstOf, List.getElem?_toArray, List.getElem?_cons_zero, List.getElem?_cons_succ, Option.bind_some, h4, e2]
      exact stm_quiet (v := .agg (x.lit (!no) B1 d1 B2 d2 B3 d3 B4 d4)) (by simp [execOp, go_sem, At.lit]) ⟨B1, d1, B2, d2, B3, d3, B4, d4, lo, hi, rfl, g1, g2, hk⟩
    | n + 6, h => exact absurd h (by omega)
  intro V W hC hP
  obtain ⟨B1, d1, B2, d2, B3, d3, B4, d4, lo, hi, e6, g1, g2, hk⟩ := hP 5 (by decide)
  clear hP
  simp only [At.lit] at e6
  rw [show List.range 6 = [0, 1, 2, 3, 4, 5] from rfl]
  simp only [List.getD_cons_zero, List.getD_cons_succ, puts, dstOf, List.getElem?_toArray, List.getElem?_cons_zero, List.getElem?_cons_succ, Option.bind_some, e6, List.drop_succ_cons, List.drop_zero, Act.put, List.setIfInBounds_toArray, List.set_cons_succ, List.set_cons_zero]
  have R5 := row_below R2 hC
  have q1 := btr q0 hC
  have hlr : w.heap.size + 1 < W.heap.size := R5.lt
  have zr0 : W.cell? ⟨w.heap.size + 1, 0, none⟩ = some (.int .i64 0) := R5.cell (i := 0) (by decide)
  have fzr0 : W.frozen? ⟨w.heap.size + 1, 0, none⟩ = false := R5.frozen _
  have zr1 : W.cell? ⟨w.heap.size + 1, 1, none⟩ = some (.string ⟨#[]⟩) := R5.cell (i := 1) (by decide)
  have fzr1 : W.frozen? ⟨w.heap.size + 1, 1, none⟩ = false := R5.frozen _
  have zr2 : W.cell? ⟨w.heap.size + 1, 2, none⟩ = some (.slice none 0 0) := R5.cell (i := 2) (by decide)
  have fzr2 : W.frozen? ⟨w.heap.size + 1, 2, none⟩ = false := R5.frozen _
  have zr3 : W.cell? ⟨w.heap.size + 1, 3, none⟩ = some (.string ⟨#[]⟩) := R5.cell (i := 3) (by decide)
  have fzr3 : W.frozen? ⟨w.heap.size + 1, 3, none⟩ = false := R5.frozen _
  have zr4 : W.cell? ⟨w.heap.size + 1, 4, none⟩ = some (.slice none 0 0) := R5.cell (i := 4) (by decide)
  have fzr4 : W.frozen? ⟨w.heap.size + 1, 4, none⟩ = false := R5.frozen _
  have zr5 : W.cell? ⟨w.heap.size + 1, 5, none⟩ = some (.slice none 0 0) := R5.cell (i := 5) (by decide)
  have fzr5 : W.frozen? ⟨w.heap.size + 1, 5, none⟩ = false := R5.frozen _
  have zr6 : W.cell? ⟨w.heap.size + 1, 6, none⟩ = some (.slice none 0 0) := R5.cell (i := 6) (by decide)
  have fzr6 : W.frozen? ⟨w.heap.size + 1, 6, none⟩ = false := R5.frozen _
  have zr7 : W.cell? ⟨w.heap.size + 1, 7, none⟩ = some (.int .i64 0) := R5.cell (i := 7) (by decide)
  have fzr7 : W.frozen? ⟨w.heap.size + 1, 7, none⟩ = false := R5.frozen _
  have zr8 : W.cell? ⟨w.heap.size + 1, 8, none⟩ = some (.bool false) := R5.cell (i := 8) (by decide)
  have fzr8 : W.frozen? ⟨w.heap.size + 1, 8, none⟩ = false := R5.frozen _
  have zr9 : W.cell? ⟨w.heap.size + 1, 9, none⟩ = some (.bool false) := R5.cell (i := 9) (by decide)
  have fzr9 : W.frozen? ⟨w.heap.size + 1, 9, none⟩ = false := R5.frozen _
  obtain ⟨⟨t0, t1, t2, t3, t4, t5, t6, t7, t8, t9⟩, hblk, hszc, hbel⟩ := chain10 R5 (.int .i64 x.kd) (.string x.a.nm) (.slice B1 x.a.n d1) (.string x.b.nm) (.slice B2 x.b.n d2) (.slice B3 x.n d3) (.slice B4 x.m d4) (.int .i64 x.bd) (.bool x.st) (.bool (!no))
  have HB := hid (hbel w q1 (by omega))
  have HK := hid ((LtS.chainB (.inl g1) hblk hszc hk).mono (lo' := w.heap.size) (hi' := W.heap.size) (by omega) g2)
  have HZ := hid (Nat.le_of_eq hszc.symm)
  clear hszc hbel e6 hk hblk
  go_wp2
  refine bodyPost_ret (v := .agg #[.int .i64 x.kd, .string x.a.nm, .slice B1 x.a.n d1, .string x.b.nm, .slice B2 x.b.n d2, .slice B3 x.n d3, .slice B4 x.m d4, .int .i64 x.bd, .bool x.st, .bool (!no)]) (by simp [results, Try.results72, go_sem, t0, t1, t2, t3, t4, t5, t6, t7, t8, t9]) rfl ?_
  exact ⟨B1, d1, B2, d2, B3, d3, B4, d4, rfl, HK.out.mono (Nat.le_refl _) HZ.out, HB.out⟩
theorem litnot_any (res : Bool) (x : At) (no : Bool) (hres : res = true ↔ RightQ x) (hF : AtF 1048576 x) (hz : atSz x ≤ 1048580) (A1 A2 A3 A4 : Option Addr) (w : World) (hA : AtT w x A1 A2 A3 A4) :
    Calls Try.prog 72 #[.agg (x.lit no A1 x.a.n A2 x.b.n A3 x.n A4 x.m)] w (PLnP (lnA res x) (res && !no) w) := by
  rcases kind_cases res x hres hF hz A1 A2 A3 A4 w hA with ⟨rfl, hC⟩ | ⟨rfl, h1, hE, hC⟩ | ⟨rfl, h2, hS, X, hl, hX, hC⟩
  · exact litnot_no x no A1 A2 A3 A4 w hC
  · exact litnot_eq x no A1 A2 A3 A4 w h1 hE hF hA hC
  · exact litnot_sum x no A1 A2 A3 A4 w h2 hS hF X hl hX hC
set_option maxRecDepth 100000 in
set_option maxHeartbeats 8000000 in
theorem heldatom_S (x : At) (k : Nat) (hF : AtF 1048576 x) (hk0 : 0 < k) (hk : k + atSz x + x.m ≤ 1000000000000) (A1 : Option Addr) (c1 : Nat) (A2 : Option Addr) (c2 : Nat) (A3 : Option Addr) (c3 : Nat) (A4 : Option Addr) (c4 : Nat) (w : World) (hA : AtK w (mkA x k) A1 A2 A3 A4) :
    Calls Try.prog 139 #[.agg (x.cs A1 c1 A2 c2 A3 c3 A4 c4), .int .i64 (k : Int)] w fun e w' => e = .returned (.int .i64 ((mkN3 x k + x.m : Nat) : Int)) ∧ Below w.heap.size w w' := by
  obtain ⟨k1, k2, k3, k4⟩ := hA
  obtain ⟨f1, f2, f3, f4, f5⟩ := hF
  have p1 := tSz_pos x.a
  have p2 := tSz_pos x.b
  have n1 : mkN1 x k = k + tSz x.a - 1 := rfl
  have n2 : mkN2 x k = mkN1 x k + tSz x.b - 1 := rfl
  have n3 : mkN3 x k = mkN2 x k + tSz (.mk ⟨#[]⟩ x.n x.kid) - 1 := rfl
  have p3 : tSz (.mk ⟨#[]⟩ x.n x.kid) = 1 + sumT x.n (fun i => tSz (x.kid i)) := by rw [tSz]
  unfold atSz at hk
  have C1 := fun W (h : Below w.heap.size w W) => heldterm_S x.a A1 c1 k W hk0 (by omega) f1 (k1.below h)
  have C2 := fun W (h : Below w.heap.size w W) => heldterm_S x.b A2 c2 (mkN1 x k) W (by omega) (by omega) f2 (k2.below h)
  have C3 := fun W (h : Below w.heap.size w W) => heldterms_any (.mk ⟨#[]⟩ x.n x.kid) A3 c3 (mkN2 x k) W f3 (by omega) (by omega) ⟨Nat.zero_le _, f3, f4⟩ (k3.below h)
  have C4 := fun W (h : Below w.heap.size w W) => heldints_any A4 x.m c4 (mkN3 x k : Int) W f5 (by omega) (k4.below h)
  rw [← n1] at C1
  rw [← n2] at C2
  rw [← n3] at C3
  have r3 : ((mkN3 x k : Nat) : Int) + (x.m : Int) = ((mkN3 x k + x.m : Nat) : Int) := by omega
  rw [r3] at C4
  clear n1 n2 n3 p3 p1 p2 r3 f1 f2 f4 hk hk0 k1 k2 k3 k4
  generalize mkN3 x k + x.m = K4 at *
  generalize mkN1 x k = K1 at *
  generalize mkN2 x k = K2 at *
  generalize mkN3 x k = K3 at *
  have d1 : decide ((K1 : Int) < 0) = false := by simp
  have d2 : decide ((K2 : Int) < 0) = false := by simp
  have d3 : decide ((K3 : Int) < 0) = false := by simp
  have d4 : decide ((K4 : Int) < 0) = false := by simp
  obtain ⟨kd, a, b, n, kid, m, Z, bd, st⟩ := x
  simp only at *
  simp only [At.cs]
  replace C1 := hid C1; replace C2 := hid C2; replace C3 := hid C3; replace C4 := hid C4
  have H : KcL [(w.heap.size, 3, .string b.nm), (w.heap.size, 4, .slice A2 b.n c2), (w.heap.size, 5, .slice A3 n c3), (w.heap.size, 6, .slice A4 m c4)] (w.alloc (.cells #[.int .i64 kd, .string a.nm, .slice A1 a.n c1, .string b.nm, .slice A2 b.n c2, .slice A3 n c3, .slice A4 m c4, .int .i64 bd, .bool st] 95)) := by
    refine ⟨?_, ?_, ?_, ?_, trivial⟩ <;> simp [go_sem]
  have q0 := bal (Below.refl w.heap.size w) (.cells #[.int .i64 kd, .string a.nm, .slice A1 a.n c1, .string b.nm, .slice A2 b.n c2, .slice A3 n c3, .slice A4 m c4, .int .i64 bd, .bool st] 95)
  go_enter Try.func139, Try.ntmps139
  go_wp2_with fail
  refine (C1.out _ q0).mono ?_
  rintro e w1 ⟨rfl, hq⟩
  replace H := H.below hq
  replace q0 := btr q0 hq
  clear hq C1
  have HH_ := H; obtain ⟨c0, c1, c2, c3, _⟩ := HH_
  have l0 := cell_lt c0
  go_wp2_with fail
  refine (C2.out _ q0).mono ?_
  rintro e w2 ⟨rfl, hq⟩
  clear c0 c1 c2 c3
  clear l0
  replace H := H.below hq
  replace q0 := btr q0 hq
  clear hq C2
  have HH_ := H; obtain ⟨c0, c1, c2, c3, _⟩ := HH_
  have l0 := cell_lt c0
  go_wp2_with fail
  refine (C3.out _ q0).mono ?_
  rintro e w3 ⟨rfl, hq⟩
  clear c0 c1 c2 c3
  clear l0
  replace H := H.below hq
  replace q0 := btr q0 hq
  clear hq C3
  have HH_ := H; obtain ⟨c0, c1, c2, c3, _⟩ := HH_
  have l0 := cell_lt c0
  go_wp2_with fail
  refine (C4.out _ q0).mono ?_
  rintro e w4 ⟨rfl, rfl⟩
  clear c0 c1 c2 c3
  clear l0 C4
  go_wp2
  go_ret
  exact ⟨rfl, q0⟩
set_option maxRecDepth 100000 in
set_option maxHeartbeats 8000000 in
theorem heldlit_S (x : At) (no : Bool) (k : Nat) (hF : AtF 1048576 x) (hk0 : 0 < k) (hk : k + atSz x + x.m ≤ 1000000000000) (A1 : Option Addr) (c1 : Nat) (A2 : Option Addr) (c2 : Nat) (A3 : Option Addr) (c3 : Nat) (A4 : Option Addr) (c4 : Nat) (w : World) (hA : AtK w (mkA x k) A1 A2 A3 A4) :
    Calls Try.prog 74 #[.agg (x.lit no A1 c1 A2 c2 A3 c3 A4 c4), .int .i64 (k : Int)] w fun e w' => e = .returned (.int .i64 ((mkN3 x k + x.m : Nat) : Int)) ∧ Below w.heap.size w w' := by
  have q0 := bal (Below.refl w.heap.size w) (.cells (x.lit no A1 c1 A2 c2 A3 c3 A4 c4) 104)
  have C := heldatom_S x k hF hk0 hk A1 c1 A2 c2 A3 c3 A4 c4 _ (hA.below q0)
  clear hA hF hk hk0
  generalize mkN3 x k + x.m = K at C ⊢
  have d4 : decide ((K : Int) < 0) = false := by simp
  obtain ⟨kd, a, b, n, kid, m, Z, bd, st⟩ := x
  simp only [At.cs, At.lit] at C q0
  simp only [At.lit]
  replace C := hid C
  go_enter Try.func74, Try.ntmps74
  go_wp2_with fail
  refine C.out.mono ?_
  rintro e w1 ⟨rfl, hq⟩
  go_wp2
  go_ret
  exact ⟨rfl, btr q0 hq⟩
end Go.Proofs.Ytanfljajafelgaa

namespace Go.Proofs.Ytanfljajafelgaa
set_option linter.unusedVariables false
set_option linter.unusedSimpArgs false
open Go.RowKit
theorem lnA_bd {res : Bool} {x : At} (hF : AtF 1048576 x) (hz : atSz x ≤ 1048580) : AtF 1048576 (lnA res x) ∧ atSz (lnA res x) ≤ 1048590 := by
  unfold lnA; split
  · exact ⟨hF, by omega⟩
  · refine ⟨⟨⟨by decide, by decide, fun k hk => absurd hk (Nat.not_lt_zero _)⟩, ⟨by decide, by decide, fun k hk => absurd hk (Nat.not_lt_zero _)⟩, by decide, fun k hk => absurd hk (Nat.not_lt_zero _), by decide⟩, ?_⟩
    simp [atSz, zAt, noT, tSz, sumT]
set_option maxRecDepth 100000 in
set_option maxHeartbeats 8000000 in
theorem walk_ExactLitNot (x : At) (no : Bool) (A1 : Option Addr) (c1 : Nat) (A2 : Option Addr) (c2 : Nat) (A3 : Option Addr) (c3 : Nat) (A4 : Option Addr) (c4 : Nat) (w : World) (hF : AtF 9223372036854775807 x) (hA : AtK w x A1 A2 A3 A4) :
    Calls Try.prog 11 #[.agg (x.lit no A1 c1 A2 c2 A3 c3 A4 c4)] w fun e w' => e = .returned (.bool true) ∧ Below w.heap.size w w' := by
  show Calls _ _ #[.agg #[.int .i64 x.kd, .string x.a.nm, .slice A1 x.a.n c1, .string x.b.nm, .slice A2 x.b.n c2, .slice A3 x.n c3, .slice A4 x.m c4, .int .i64 x.bd, .bool x.st, .bool no]] w _
  have hS := hid (fun W (h : Below w.heap.size w W) => (show Calls Try.prog 66 #[.agg #[.int .i64 x.kd, .string x.a.nm, .slice A1 x.a.n c1, .string x.b.nm, .slice A2 x.b.n c2, .slice A3 x.n c3, .slice A4 x.m c4, .int .i64 x.bd, .bool x.st, .bool no], .int .i64 1048576] W (SzA W x 1048576) from szlit_any x no hF A1 c1 A2 c2 A3 c3 A4 c4 1048576 W (by omega) (hA.below h)))
  have H : KcL [(w.heap.size, 0, .int .i64 x.kd), (w.heap.size, 1, .string x.a.nm), (w.heap.size, 2, .slice A1 x.a.n c1), (w.heap.size, 3, .string x.b.nm), (w.heap.size, 4, .slice A2 x.b.n c2), (w.heap.size, 5, .slice A3 x.n c3), (w.heap.size, 6, .slice A4 x.m c4), (w.heap.size, 7, .int .i64 x.bd), (w.heap.size, 8, .bool x.st), (w.heap.size, 9, .bool no)] (w.alloc (.cells #[.int .i64 x.kd, .string x.a.nm, .slice A1 x.a.n c1, .string x.b.nm, .slice A2 x.b.n c2, .slice A3 x.n c3, .slice A4 x.m c4, .int .i64 x.bd, .bool x.st, .bool no] 100)) := by
    refine ⟨?_, ?_, ?_, ?_, ?_, ?_, ?_, ?_, ?_, ?_, trivial⟩ <;> simp [go_sem]
  have q0 := bal (Below.refl w.heap.size w) (.cells #[.int .i64 x.kd, .string x.a.nm, .slice A1 x.a.n c1, .string x.b.nm, .slice A2 x.b.n c2, .slice A3 x.n c3, .slice A4 x.m c4, .int .i64 x.bd, .bool x.st, .bool no] 100)
  go_enter Try.func11, Try.ntmps11
  have HH_ := H; obtain ⟨s0, s1, s2, s3, s4, s5, s6, s7, s8, s9, _⟩ := HH_
  go_wp2_with fail
  refine (hS.out _ q0).mono ?_
  rintro e w1 ⟨r, rfl, hr, hq⟩
  clear s0 s1 s2 s3 s4 s5 s6 s7 s8 s9
  replace H := H.below hq
  replace q0 := btr q0 hq
  clear hS hq
  rcases hr with hr | ⟨r1, r2, hN⟩
  · go_wp2
    go_ret
    exact ⟨rfl, q0⟩
  obtain ⟨res, hres⟩ := bool_of (RightQ x)
  have hz : atSz x ≤ 1048580 := by omega
  clear r2
  obtain ⟨hyF, hyz⟩ := lnA_bd (res := res) hN hz
  have hmm := hN.2.2.2.2
  have hym := hyF.2.2.2.2
  have hT := hid (fun W (h : Below w.heap.size w W) => (show Calls Try.prog 68 #[.agg #[.int .i64 x.kd, .string x.a.nm, .slice A1 x.a.n c1, .string x.b.nm, .slice A2 x.b.n c2, .slice A3 x.n c3, .slice A4 x.m c4, .int .i64 x.bd, .bool x.st, .bool no]] W (NewLS W x no) from tolit_S x no hN A1 c1 A2 c2 A3 c3 A4 c4 W (hA.below h)))
  have hPs := hid (fun (P1 P2 : Option Addr) (P3 : Nat) (P4 : Option Addr) W (h : AtK W x P1 P2 (some ⟨P3, 0, none⟩) P4) => (show Calls Try.prog 71 #[.agg #[.int .i64 x.kd, .string x.a.nm, .slice P1 x.a.n x.a.n, .string x.b.nm, .slice P2 x.b.n x.b.n, .slice (some ⟨P3, 0, none⟩) x.n x.n, .slice P4 x.m x.m, .int .i64 x.bd, .bool x.st, .bool no]] W (SLnP (lnA res x) (res && !no) W) from slitnot_any res x no hres hN P1 x.a.n P2 x.b.n _ x.n P4 x.m W h))
  have hP := hid (fun (P1 P2 : Option Addr) (P3 : Nat) (P4 : Option Addr) W (h : AtT W x P1 P2 (some ⟨P3, 0, none⟩) P4) => (show Calls Try.prog 72 #[.agg #[.int .i64 x.kd, .string x.a.nm, .slice P1 x.a.n x.a.n, .string x.b.nm, .slice P2 x.b.n x.b.n, .slice (some ⟨P3, 0, none⟩) x.n x.n, .slice P4 x.m x.m, .int .i64 x.bd, .bool x.st, .bool no]] W (PLnP (lnA res x) (res && !no) W) from litnot_any res x no hres hN hz P1 P2 _ P4 W h))
  have hEx := hid (fun (P1 P2 : Option Addr) (P3 : Nat) (P4 : Option Addr) (Q1 Q2 : Option Addr) (Q3 : Nat) (Q4 : Option Addr) W (h1 : AtK W x P1 P2 (some ⟨P3, 0, none⟩) P4) (h2 : AtK W x Q1 Q2 (some ⟨Q3, 0, none⟩) Q4) => (show Calls Try.prog 70 #[.agg #[.int .i64 x.kd, .string x.a.nm, .slice P1 x.a.n x.a.n, .string x.b.nm, .slice P2 x.b.n x.b.n, .slice (some ⟨P3, 0, none⟩) x.n x.n, .slice P4 x.m x.m, .int .i64 x.bd, .bool x.st, .bool no], .agg #[.int .i64 x.kd, .string x.a.nm, .slice Q1 x.a.n x.a.n, .string x.b.nm, .slice Q2 x.b.n x.b.n, .slice (some ⟨Q3, 0, none⟩) x.n x.n, .slice Q4 x.m x.m, .int .i64 x.bd, .bool x.st, .bool no]] W (fun e w' => e = .returned (.bool true) ∧ Below W.heap.size W w') from eqlit_same x no (hN.mono (by decide)) P1 x.a.n P2 x.b.n _ x.n P4 x.m Q1 x.a.n Q2 x.b.n _ x.n Q4 x.m W h1 h2))
  have hMx := hid (fun (lo hi : Nat) (P1 P2 : Option Addr) (P3 : Nat) (P4 : Option Addr) W (hh : hi ≤ W.heap.size) (h : LtS W x lo hi P1 P2 (some ⟨P3, 0, none⟩) P4) => (show Calls Try.prog 73 #[.agg #[.int .i64 x.kd, .string x.a.nm, .slice P1 x.a.n x.a.n, .string x.b.nm, .slice P2 x.b.n x.b.n, .slice (some ⟨P3, 0, none⟩) x.n x.n, .slice P4 x.m x.m, .int .i64 x.bd, .bool x.st, .bool no], .int .i64 ((1 : Nat) : Int)] W (fun e w' => e = .returned (.int .i64 ((mkN3 x 1 + x.m : Nat) : Int)) ∧ LtS w' (mkA x 1) lo hi P1 P2 (some ⟨P3, 0, none⟩) P4 ∧ Wrt lo hi W w') from marklit_S x no lo hi 1 hN (by decide) (by omega) W hh P1 x.a.n P2 x.b.n _ x.n P4 x.m h))
  generalize (mkN3 x 1 + x.m : Nat) = K1 at hMx
  have dK1 : decide ((K1 : Int) < 0) = false := by simp
  generalize lnA res x = y at *
  generalize (res && !no) = nb at *
  have hE := hid (fun (P1 : Option Addr) (p1 : Nat) (P2 : Option Addr) (p2 : Nat) (P3 : Option Addr) (p3 : Nat) (P4 : Option Addr) (p4 : Nat) (Q1 : Option Addr) (q1 : Nat) (Q2 : Option Addr) (q2 : Nat) (Q3 : Option Addr) (q3 : Nat) (Q4 : Option Addr) (q4 : Nat) W (h1 : AtK W y P1 P2 P3 P4) (h2 : AtK W y Q1 Q2 Q3 Q4) => (show Calls Try.prog 70 #[.agg #[.int .i64 y.kd, .string y.a.nm, .slice P1 y.a.n p1, .string y.b.nm, .slice P2 y.b.n p2, .slice P3 y.n p3, .slice P4 y.m p4, .int .i64 y.bd, .bool y.st, .bool nb], .agg #[.int .i64 y.kd, .string y.a.nm, .slice Q1 y.a.n q1, .string y.b.nm, .slice Q2 y.b.n q2, .slice Q3 y.n q3, .slice Q4 y.m q4, .int .i64 y.bd, .bool y.st, .bool nb]] W (fun e w' => e = .returned (.bool true) ∧ Below W.heap.size W w') from eqlit_same y nb (hyF.mono (by decide)) P1 p1 P2 p2 P3 p3 P4 p4 Q1 q1 Q2 q2 Q3 q3 Q4 q4 W h1 h2))
  have hMg := hid (fun (lo hi : Nat) (P1 : Option Addr) (p1 : Nat) (P2 : Option Addr) (p2 : Nat) (P3 : Option Addr) (p3 : Nat) (P4 : Option Addr) (p4 : Nat) W (hh : hi ≤ W.heap.size) (h : LtS W y lo hi P1 P2 P3 P4) => (show Calls Try.prog 73 #[.agg #[.int .i64 y.kd, .string y.a.nm, .slice P1 y.a.n p1, .string y.b.nm, .slice P2 y.b.n p2, .slice P3 y.n p3, .slice P4 y.m p4, .int .i64 y.bd, .bool y.st, .bool nb], .int .i64 ((1 : Nat) : Int)] W (fun e w' => e = .returned (.int .i64 ((mkN3 y 1 + y.m : Nat) : Int)) ∧ LtS w' (mkA y 1) lo hi P1 P2 P3 P4 ∧ Wrt lo hi W w') from marklit_S y nb lo hi 1 hyF (by decide) (by omega) W hh P1 p1 P2 p2 P3 p3 P4 p4 h))
  have hHg := hid (fun (P1 : Option Addr) (p1 : Nat) (P2 : Option Addr) (p2 : Nat) (P3 : Option Addr) (p3 : Nat) (P4 : Option Addr) (p4 : Nat) W (h : AtK W (mkA y 1) P1 P2 P3 P4) => (show Calls Try.prog 74 #[.agg #[.int .i64 y.kd, .string y.a.nm, .slice P1 y.a.n p1, .string y.b.nm, .slice P2 y.b.n p2, .slice P3 y.n p3, .slice P4 y.m p4, .int .i64 y.bd, .bool y.st, .bool nb], .int .i64 ((1 : Nat) : Int)] W (fun e w' => e = .returned (.int .i64 ((mkN3 y 1 + y.m : Nat) : Int)) ∧ Below W.heap.size W w') from heldlit_S y nb 1 hyF (by decide) (by omega) P1 p1 P2 p2 P3 p3 P4 p4 W h))
  generalize (mkN3 y 1 + y.m : Nat) = K2 at hMg hHg
  have dK2 : decide ((K2 : Int) < 0) = false := by simp
  have dK3 : ((K2 : Int) != (K2 : Int)) = false := by simp
  clear hz hF hN hres hyF hyz hmm hym
  have HH_ := H; obtain ⟨s0, s1, s2, s3, s4, s5, s6, s7, s8, s9, _⟩ := HH_
  have l0 := cell_lt s0
  go_wp2_with fail
  refine (hT.out _ q0).mono ?_
  rintro e w2 ⟨P1, P2, P3, P4, rfl, S2, hq⟩
  unfold At.lit
  clear s0 s1 s2 s3 s4 s5 s6 s7 s8 s9
  clear l0
  replace H := H.below hq
  replace q0 := btr q0 hq
  clear hq
  go_wp2_with fail
  refine (hPs.out P1 P2 P3 P4 w2 S2.k).mono ?_
  rintro e w3 ⟨W1, d1, W2, d2, W3, d3, W4, d4, rfl, U, hq⟩
  unfold At.lit
  clear S2
  replace H := H.below hq
  replace q0 := btr q0 hq
  clear hq hPs
  have HB4 : KcL [(w3.heap.size, 0, .int .i64 y.kd), (w3.heap.size, 1, .string y.a.nm), (w3.heap.size, 2, .slice W1 y.a.n d1), (w3.heap.size, 3, .string y.b.nm), (w3.heap.size, 4, .slice W2 y.b.n d2), (w3.heap.size, 5, .slice W3 y.n d3), (w3.heap.size, 6, .slice W4 y.m d4), (w3.heap.size, 7, .int .i64 y.bd), (w3.heap.size, 8, .bool y.st), (w3.heap.size, 9, .bool nb)] (w3.alloc (.cells #[.int .i64 y.kd, .string y.a.nm, .slice W1 y.a.n d1, .string y.b.nm, .slice W2 y.b.n d2, .slice W3 y.n d3, .slice W4 y.m d4, .int .i64 y.bd, .bool y.st, .bool nb] 104)) := by
    refine ⟨?_, ?_, ?_, ?_, ?_, ?_, ?_, ?_, ?_, ?_, trivial⟩ <;> simp [go_sem]
  have CX := bal (Below.refl w3.heap.size w3) (.cells #[.int .i64 y.kd, .string y.a.nm, .slice W1 y.a.n d1, .string y.b.nm, .slice W2 y.b.n d2, .slice W3 y.n d3, .slice W4 y.m d4, .int .i64 y.bd, .bool y.st, .bool nb] 104)
  go_upto_region 6 with fail
  replace U := U.below CX
  replace H := H.below CX
  have q04 := btr q0 CX
  have z34 : w.heap.size ≤ w3.heap.size := q0.size
  have z4 : w3.heap.size < (w3.alloc (.cells #[.int .i64 y.kd, .string y.a.nm, .slice W1 y.a.n d1, .string y.b.nm, .slice W2 y.b.n d2, .slice W3 y.n d3, .slice W4 y.m d4, .int .i64 y.bd, .bool y.st, .bool nb] 104)).heap.size := by simp
  clear CX q0
  generalize w3.alloc (.cells #[.int .i64 y.kd, .string y.a.nm, .slice W1 y.a.n d1, .string y.b.nm, .slice W2 y.b.n d2, .slice W3 y.n d3, .slice W4 y.m d4, .int .i64 y.bd, .bool y.st, .bool nb] 104) = w4 at *
  generalize w3.heap.size = bw at *
  have qw := Below.refl w4.heap.size w4
  have Hc := H.below qw
  have HH_ := Hc; obtain ⟨s0, s1, s2, s3, s4, s5, s6, s7, s8, s9, _⟩ := HH_
  have l0 := cell_lt s0
  have q0 := btr q04 qw
  go_wp2_with fail
  refine (hT.out _ q0).mono ?_
  rintro e w5 ⟨Q1, Q2, Q3, Q4, rfl, S5, hq⟩
  unfold At.lit
  clear s0 s1 s2 s3 s4 s5 s6 s7 s8 s9
  clear l0 Hc q0
  replace qw := btr qw hq
  clear hq
  have HB5 : KcL [(w5.heap.size, 0, .int .i64 x.kd), (w5.heap.size, 1, .string x.a.nm), (w5.heap.size, 2, .slice Q1 x.a.n x.a.n), (w5.heap.size, 3, .string x.b.nm), (w5.heap.size, 4, .slice Q2 x.b.n x.b.n), (w5.heap.size, 5, .slice (some ⟨Q3, 0, none⟩) x.n x.n), (w5.heap.size, 6, .slice Q4 x.m x.m), (w5.heap.size, 7, .int .i64 x.bd), (w5.heap.size, 8, .bool x.st), (w5.heap.size, 9, .bool no)] (w5.alloc (.cells #[.int .i64 x.kd, .string x.a.nm, .slice Q1 x.a.n x.a.n, .string x.b.nm, .slice Q2 x.b.n x.b.n, .slice (some ⟨Q3, 0, none⟩) x.n x.n, .slice Q4 x.m x.m, .int .i64 x.bd, .bool x.st, .bool no] 104)) := by
    refine ⟨?_, ?_, ?_, ?_, ?_, ?_, ?_, ?_, ?_, ?_, trivial⟩ <;> simp [go_sem]
  have CX := bal (Below.refl w5.heap.size w5) (.cells #[.int .i64 x.kd, .string x.a.nm, .slice Q1 x.a.n x.a.n, .string x.b.nm, .slice Q2 x.b.n x.b.n, .slice (some ⟨Q3, 0, none⟩) x.n x.n, .slice Q4 x.m x.m, .int .i64 x.bd, .bool x.st, .bool no] 104)
  go_upto_region 7 with fail
  have z5 : w5.heap.size < (w5.alloc (.cells #[.int .i64 x.kd, .string x.a.nm, .slice Q1 x.a.n x.a.n, .string x.b.nm, .slice Q2 x.b.n x.b.n, .slice (some ⟨Q3, 0, none⟩) x.n x.n, .slice Q4 x.m x.m, .int .i64 x.bd, .bool x.st, .bool no] 104)).heap.size := by simp
  have z45 : w4.heap.size ≤ w5.heap.size := qw.size
  replace S5 := S5.below CX
  replace qw := btr qw CX
  clear CX
  generalize w5.alloc (.cells #[.int .i64 x.kd, .string x.a.nm, .slice Q1 x.a.n x.a.n, .string x.b.nm, .slice Q2 x.b.n x.b.n, .slice (some ⟨Q3, 0, none⟩) x.n x.n, .slice Q4 x.m x.m, .int .i64 x.bd, .bool x.st, .bool no] 104) = w6 at *
  generalize w5.heap.size = bx at *
  have HH_ := HB5; obtain ⟨b0, b1, b2, b3, b4, b5, b6, b7, b8, b9, _⟩ := HH_
  have lb := cell_lt b0
  go_wp2_with fail
  refine (hP.out Q1 Q2 Q3 Q4 w6 S5.t).mono ?_
  rintro e w7 ⟨G1, g1, G2, g2, G3, g3, G4, g4, rfl, S7, hq⟩
  unfold At.lit
  clear b0 b1 b2 b3 b4 b5 b6 b7 b8 b9
  clear lb
  have hz67 := hq.size
  replace S5 := S5.below hq
  replace HB5 := HB5.below hq
  replace qw := btr qw hq
  clear hq
  have HB6 : KcL [(w7.heap.size, 0, .int .i64 y.kd), (w7.heap.size, 1, .string y.a.nm), (w7.heap.size, 2, .slice G1 y.a.n g1), (w7.heap.size, 3, .string y.b.nm), (w7.heap.size, 4, .slice G2 y.b.n g2), (w7.heap.size, 5, .slice G3 y.n g3), (w7.heap.size, 6, .slice G4 y.m g4), (w7.heap.size, 7, .int .i64 y.bd), (w7.heap.size, 8, .bool y.st), (w7.heap.size, 9, .bool nb)] (w7.alloc (.cells #[.int .i64 y.kd, .string y.a.nm, .slice G1 y.a.n g1, .string y.b.nm, .slice G2 y.b.n g2, .slice G3 y.n g3, .slice G4 y.m g4, .int .i64 y.bd, .bool y.st, .bool nb] 104)) := by
    refine ⟨?_, ?_, ?_, ?_, ?_, ?_, ?_, ?_, ?_, ?_, trivial⟩ <;> simp [go_sem]
  have CX := bal (Below.refl w7.heap.size w7) (.cells #[.int .i64 y.kd, .string y.a.nm, .slice G1 y.a.n g1, .string y.b.nm, .slice G2 y.b.n g2, .slice G3 y.n g3, .slice G4 y.m g4, .int .i64 y.bd, .bool y.st, .bool nb] 104)
  go_upto_region 8 with fail
  have z7 : w7.heap.size < (w7.alloc (.cells #[.int .i64 y.kd, .string y.a.nm, .slice G1 y.a.n g1, .string y.b.nm, .slice G2 y.b.n g2, .slice G3 y.n g3, .slice G4 y.m g4, .int .i64 y.bd, .bool y.st, .bool nb] 104)).heap.size := by simp
  have z67 : w6.heap.size ≤ w7.heap.size := hz67
  replace S7 := S7.below CX
  replace S5 := S5.below CX
  replace HB5 := HB5.below CX
  replace qw := btr qw CX
  clear CX
  generalize w7.alloc (.cells #[.int .i64 y.kd, .string y.a.nm, .slice G1 y.a.n g1, .string y.b.nm, .slice G2 y.b.n g2, .slice G3 y.n g3, .slice G4 y.m g4, .int .i64 y.bd, .bool y.st, .bool nb] 104) = w8 at *
  generalize w7.heap.size = bg at *
  have zx : bx ≤ w8.heap.size := by omega
  have zg : bg ≤ w8.heap.size := by omega
  have Hb4 := HB4.below qw
  have HH_ := HB6; obtain ⟨b0, b1, b2, b3, b4, b5, b6, b7, b8, b9, _⟩ := HH_
  have lb := cell_lt b0
  have HH_ := Hb4; obtain ⟨c0, c1, c2, c3, c4, c5, c6, c7, c8, c9, _⟩ := HH_
  have lc := cell_lt c0
  go_wp2_with fail
  refine (hE.out G1 g1 G2 g2 G3 g3 G4 g4 W1 d1 W2 d2 W3 d3 W4 d4 w8 S7.k (U.below qw).k).mono ?_
  rintro e w9 ⟨rfl, hq⟩
  clear b0 b1 b2 b3 b4 b5 b6 b7 b8 b9
  clear lb
  clear c0 c1 c2 c3 c4 c5 c6 c7 c8 c9
  clear lc
  clear Hb4
  replace S5 := S5.below hq
  replace HB5 := HB5.below hq
  replace S7 := S7.below hq
  replace HB6 := HB6.below hq
  replace qw := btr qw hq
  replace zx := Nat.le_trans zx hq.size
  replace zg := Nat.le_trans zg hq.size
  clear hq
  go_upto_region 10 with fail
  have hd := (Below.refl w9.heap.size w9).drew
  replace S5 := S5.below hd
  replace HB5 := HB5.below hd
  replace S7 := S7.below hd
  replace HB6 := HB6.below hd
  replace qw := btr qw hd
  replace zx := Nat.le_trans zx hd.size
  replace zg := Nat.le_trans zg hd.size
  clear hd
  refine region_planC (fun w' => KcL [(bx, 0, .int .i64 x.kd), (bx, 1, .string x.a.nm), (bx, 2, .slice Q1 x.a.n x.a.n), (bx, 3, .string x.b.nm), (bx, 4, .slice Q2 x.b.n x.b.n), (bx, 5, .slice (some ⟨Q3, 0, none⟩) x.n x.n), (bx, 6, .slice Q4 x.m x.m), (bx, 7, .int .i64 x.bd), (bx, 8, .bool x.st), (bx, 9, .bool no)] w' ∧ KcL [(w.heap.size, 0, .int .i64 x.kd), (w.heap.size, 1, .string x.a.nm), (w.heap.size, 2, .slice A1 x.a.n c1), (w.heap.size, 3, .string x.b.nm), (w.heap.size, 4, .slice A2 x.b.n c2), (w.heap.size, 5, .slice A3 x.n c3), (w.heap.size, 6, .slice A4 x.m c4), (w.heap.size, 7, .int .i64 x.bd), (w.heap.size, 8, .bool x.st), (w.heap.size, 9, .bool no)] w') (.takes [0, 1] (.make 2 (.make 3 .fin))) 4 rfl (by kernel_rfl) ⟨HB5, H.below qw⟩ ?_
  refine plan_takes ?_; simp only [pickOps, List.getElem?_cons_zero, List.getElem?_cons_succ]
  refine quiet_doC rfl (.agg #[.int .i64 x.kd, .string x.a.nm, .slice Q1 x.a.n x.a.n, .string x.b.nm, .slice Q2 x.b.n x.b.n, .slice (some ⟨Q3, 0, none⟩) x.n x.n, .slice Q4 x.m x.m, .int .i64 x.bd, .bool x.st, .bool no]) (fun w' hw' => by obtain ⟨s0, s1, s2, s3, s4, s5, s6, s7, s8, s9, _⟩ := hw'.1; simp [execOp, go_sem, s0, s1, s2, s3, s4, s5, s6, s7, s8, s9]) ?_
  refine quiet_doC rfl (.agg #[.int .i64 x.kd, .string x.a.nm, .slice A1 x.a.n c1, .string x.b.nm, .slice A2 x.b.n c2, .slice A3 x.n c3, .slice A4 x.m c4, .int .i64 x.bd, .bool x.st, .bool no]) (fun w' hw' => by obtain ⟨s0, s1, s2, s3, s4, s5, s6, s7, s8, s9, _⟩ := hw'.2; simp [execOp, go_sem, s0, s1, s2, s3, s4, s5, s6, s7, s8, s9]) ?_
  refine wpQuiet_nil ?_
  generalize w9.drew = u at *
  refine planC_call rfl rfl 68 #[.agg #[.int .i64 x.kd, .string x.a.nm, .slice A1 x.a.n c1, .string x.b.nm, .slice A2 x.b.n c2, .slice A3 x.n c3, .slice A4 x.m c4, .int .i64 x.bd, .bool x.st, .bool no]] (by kernel_rfl) ?_
  refine (hT.out _ (btr q04 qw)).mono ?_
  rintro e w10 ⟨R1, R2, R3, R4, rfl, S8, hq⟩
  unfold At.lit
  refine ⟨_, rfl, ⟨HB5.below hq, H.below (btr qw hq)⟩, ?_⟩
  replace S5 := S5.below hq
  replace HB5 := HB5.below hq
  replace S7 := S7.below hq
  replace HB6 := HB6.below hq
  replace qw := btr qw hq
  replace zx := Nat.le_trans zx hq.size
  replace zg := Nat.le_trans zg hq.size
  clear hq
  refine planC_call rfl rfl 70 #[.agg #[.int .i64 x.kd, .string x.a.nm, .slice Q1 x.a.n x.a.n, .string x.b.nm, .slice Q2 x.b.n x.b.n, .slice (some ⟨Q3, 0, none⟩) x.n x.n, .slice Q4 x.m x.m, .int .i64 x.bd, .bool x.st, .bool no], .agg #[.int .i64 x.kd, .string x.a.nm, .slice R1 x.a.n x.a.n, .string x.b.nm, .slice R2 x.b.n x.b.n, .slice (some ⟨R3, 0, none⟩) x.n x.n, .slice R4 x.m x.m, .int .i64 x.bd, .bool x.st, .bool no]] (by kernel_rfl) ?_
  refine (hEx.out Q1 Q2 Q3 Q4 R1 R2 R3 R4 w10 S5.k S8.k).mono ?_
  rintro e w11 ⟨rfl, hq⟩
  refine ⟨_, rfl, ⟨HB5.below hq, H.below (btr qw hq)⟩, ?_⟩
  clear S8
  replace S5 := S5.below hq
  replace HB5 := HB5.below hq
  replace S7 := S7.below hq
  replace HB6 := HB6.below hq
  replace qw := btr qw hq
  replace zx := Nat.le_trans zx hq.size
  replace zg := Nat.le_trans zg hq.size
  clear hq
  refine plan_fin ?_
  simp only [List.drop_succ_cons, List.drop_zero, Act.put, List.setIfInBounds_toArray, List.set_cons_succ, List.set_cons_zero]
  have HH_ := HB5; obtain ⟨b0, b1, b2, b3, b4, b5, b6, b7, b8, b9, _⟩ := HH_
  have lb := cell_lt b0
  go_wp2_with fail
  refine (hMx.out _ _ Q1 Q2 Q3 Q4 w11 zx S5).mono ?_
  rintro e w12 ⟨rfl, _, p9⟩
  clear b0 b1 b2 b3 b4 b5 b6 b7 b8 b9
  clear lb
  replace S7 := S7.wrt p9 (.inr (by omega))
  replace HB6 := p9.kc (fun e he => .inr (by simp at he; rcases he with rfl | rfl | rfl | rfl | rfl | rfl | rfl | rfl | rfl | rfl <;> simp only <;> omega)) HB6
  replace qw := p9.below qw (Nat.le_refl _)
  replace zg := Nat.le_trans zg p9.size
  clear p9 S5 HB5 zx hMx hEx
  have Hb4 := HB4.below qw
  have HH_ := HB6; obtain ⟨b0, b1, b2, b3, b4, b5, b6, b7, b8, b9, _⟩ := HH_
  have lb := cell_lt b0
  have HH_ := Hb4; obtain ⟨c0, c1, c2, c3, c4, c5, c6, c7, c8, c9, _⟩ := HH_
  have lc := cell_lt c0
  go_wp2_with fail
  refine (hE.out G1 g1 G2 g2 G3 g3 G4 g4 W1 d1 W2 d2 W3 d3 W4 d4 w12 S7.k (U.below qw).k).mono ?_
  rintro e w13 ⟨rfl, hq⟩
  clear b0 b1 b2 b3 b4 b5 b6 b7 b8 b9
  clear lb
  clear c0 c1 c2 c3 c4 c5 c6 c7 c8 c9
  clear lc
  clear Hb4
  replace S7 := S7.below hq
  replace HB6 := HB6.below hq
  replace qw := btr qw hq
  replace zg := Nat.le_trans zg hq.size
  clear hq
  have HH_ := HB6; obtain ⟨b0, b1, b2, b3, b4, b5, b6, b7, b8, b9, _⟩ := HH_
  have lb := cell_lt b0
  go_wp2_with fail
  refine (hMg.out _ _ G1 g1 G2 g2 G3 g3 G4 g4 w13 zg S7).mono ?_
  rintro e w14 ⟨rfl, S9, p9⟩
  clear b0 b1 b2 b3 b4 b5 b6 b7 b8 b9
  clear lb
  replace HB6 := p9.kc (fun e he => .inr (by simp at he; rcases he with rfl | rfl | rfl | rfl | rfl | rfl | rfl | rfl | rfl | rfl <;> simp only <;> omega)) HB6
  replace qw := p9.below qw (by omega)
  clear p9 S7 zg hMg
  have HH_ := HB6; obtain ⟨b0, b1, b2, b3, b4, b5, b6, b7, b8, b9, _⟩ := HH_
  have lb := cell_lt b0
  go_wp2_with fail
  refine (hHg.out G1 g1 G2 g2 G3 g3 G4 g4 w14 S9.k).mono ?_
  rintro e w15 ⟨rfl, hq⟩
  clear b0 b1 b2 b3 b4 b5 b6 b7 b8 b9
  clear lb
  replace S9 := S9.below hq
  replace HB6 := HB6.below hq
  replace qw := btr qw hq
  clear hq
  have Hc := H.below qw
  have HH_ := Hc; obtain ⟨s0, s1, s2, s3, s4, s5, s6, s7, s8, s9, _⟩ := HH_
  have l0 := cell_lt s0
  have q0 := btr q04 qw
  go_wp2_with fail
  refine (hT.out _ q0).mono ?_
  rintro e w16 ⟨R1, R2, R3, R4, rfl, S8, hq⟩
  unfold At.lit
  clear s0 s1 s2 s3 s4 s5 s6 s7 s8 s9
  clear l0 Hc q0
  replace S9 := S9.below hq
  replace HB6 := HB6.below hq
  replace qw := btr qw hq
  clear hq
  go_wp2_with fail
  refine (hP.out R1 R2 R3 R4 w16 S8.t).mono ?_
  rintro e w17 ⟨F1, f1, F2, f2, F3, f3, F4, f4, rfl, S10, hq⟩
  unfold At.lit
  clear S8
  replace S9 := S9.below hq
  replace HB6 := HB6.below hq
  replace qw := btr qw hq
  clear hq
  have HB7 : KcL [(w17.heap.size, 0, .int .i64 y.kd), (w17.heap.size, 1, .string y.a.nm), (w17.heap.size, 2, .slice F1 y.a.n f1), (w17.heap.size, 3, .string y.b.nm), (w17.heap.size, 4, .slice F2 y.b.n f2), (w17.heap.size, 5, .slice F3 y.n f3), (w17.heap.size, 6, .slice F4 y.m f4), (w17.heap.size, 7, .int .i64 y.bd), (w17.heap.size, 8, .bool y.st), (w17.heap.size, 9, .bool nb)] (w17.alloc (.cells #[.int .i64 y.kd, .string y.a.nm, .slice F1 y.a.n f1, .string y.b.nm, .slice F2 y.b.n f2, .slice F3 y.n f3, .slice F4 y.m f4, .int .i64 y.bd, .bool y.st, .bool nb] 104)) := by
    refine ⟨?_, ?_, ?_, ?_, ?_, ?_, ?_, ?_, ?_, ?_, trivial⟩ <;> simp [go_sem]
  have CX := bal (Below.refl w17.heap.size w17) (.cells #[.int .i64 y.kd, .string y.a.nm, .slice F1 y.a.n f1, .string y.b.nm, .slice F2 y.b.n f2, .slice F3 y.n f3, .slice F4 y.m f4, .int .i64 y.bd, .bool y.st, .bool nb] 104)
  go_upto_region 25 with fail
  replace S10 := S10.below CX
  replace S9 := S9.below CX
  replace HB6 := HB6.below CX
  replace qw := btr qw CX
  clear CX
  generalize w17.alloc (.cells #[.int .i64 y.kd, .string y.a.nm, .slice F1 y.a.n f1, .string y.b.nm, .slice F2 y.b.n f2, .slice F3 y.n f3, .slice F4 y.m f4, .int .i64 y.bd, .bool y.st, .bool nb] 104) = w18 at *
  generalize w17.heap.size = bf at *
  have Hb4 := HB4.below qw
  have HH_ := HB7; obtain ⟨b0, b1, b2, b3, b4, b5, b6, b7, b8, b9, _⟩ := HH_
  have lb := cell_lt b0
  have HH_ := Hb4; obtain ⟨c0, c1, c2, c3, c4, c5, c6, c7, c8, c9, _⟩ := HH_
  have lc := cell_lt c0
  go_wp2_with fail
  refine (hE.out F1 f1 F2 f2 F3 f3 F4 f4 W1 d1 W2 d2 W3 d3 W4 d4 w18 S10.k (U.below qw).k).mono ?_
  rintro e w19 ⟨rfl, hq⟩
  clear b0 b1 b2 b3 b4 b5 b6 b7 b8 b9
  clear lb
  clear c0 c1 c2 c3 c4 c5 c6 c7 c8 c9
  clear lc
  clear Hb4 HB7 S10
  replace S9 := S9.below hq
  replace HB6 := HB6.below hq
  replace qw := btr qw hq
  clear hq
  have HH_ := HB6; obtain ⟨b0, b1, b2, b3, b4, b5, b6, b7, b8, b9, _⟩ := HH_
  have lb := cell_lt b0
  go_wp2_with fail
  refine (hHg.out G1 g1 G2 g2 G3 g3 G4 g4 w19 S9.k).mono ?_
  rintro e w20 ⟨rfl, hq⟩
  clear b0 b1 b2 b3 b4 b5 b6 b7 b8 b9
  clear lb
  replace S9 := S9.below hq
  replace HB6 := HB6.below hq
  replace qw := btr qw hq
  clear hq
  go_wp2
  go_ret
  exact ⟨rfl, btr q04 qw⟩
end Go.Proofs.Ytanfljajafelgaa
