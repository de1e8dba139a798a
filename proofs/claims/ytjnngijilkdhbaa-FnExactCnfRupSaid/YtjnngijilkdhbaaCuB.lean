/- Mathematics of two watched literals: what holds of the program's state, and that a literal that is put keeps it. -/
import Derived.Test.YtjnngijilkdhbaaCuA
namespace Go.Proofs.Ytjnngijilkdhbaa
set_option linter.unusedVariables false
set_option linter.unusedSimpArgs false
def plc (x : Int) : Nat := (60 + x).toNat
theorem plc_inj {x y : Int} (hx : ofC x 60 = true) (hy : ofC y 60 = true) (h : plc x = plc y) : x = y := by
  have := ofC_iff.1 hx; have := ofC_iff.1 hy; unfold plc at h; omega
def swp (a b : Nat) (c : Nat → Int) : Nat → Int := fun k => if k = a then c b else if k = b then c a else c k
theorem swp_mem {N a b : Nat} {c : Nat → Int} (ha : a < N) (hb : b < N) (x : Int) : MemC N (swp a b c) x ↔ MemC N c x := by
  constructor
  · rintro ⟨k, hk, h⟩
    unfold swp at h
    split at h
    · exact ⟨b, hb, h⟩
    · split at h
      · exact ⟨a, ha, h⟩
      · exact ⟨k, hk, h⟩
  · rintro ⟨k, hk, h⟩
    by_cases e1 : k = a
    · subst e1
      by_cases e2 : b = k
      · subst e2; exact ⟨b, hb, by unfold swp; rw [if_pos rfl]; exact h⟩
      · exact ⟨b, hb, by unfold swp; rw [if_neg e2, if_pos rfl]; exact h⟩
    · by_cases e2 : k = b
      · subst e2; exact ⟨a, ha, by unfold swp; rw [if_pos rfl]; exact h⟩
      · exact ⟨k, hk, by unfold swp; rw [if_neg e1, if_neg e2]; exact h⟩
theorem swp_inj {N a b : Nat} {c : Nat → Int} (ha : a < N) (hb : b < N) (h : InjC N c) : InjC N (swp a b c) := by
  intro j k hj hk e
  unfold swp at e
  by_cases j1 : j = a
  · rw [if_pos j1] at e
    by_cases k1 : k = a
    · omega
    · rw [if_neg k1] at e
      by_cases k2 : k = b
      · rw [if_pos k2] at e; have := h b a hb ha e; omega
      · rw [if_neg k2] at e; have := h b k hb hk e; omega
  · rw [if_neg j1] at e
    by_cases j2 : j = b
    · rw [if_pos j2] at e
      by_cases k1 : k = a
      · rw [if_pos k1] at e; have := h a b ha hb e; omega
      · rw [if_neg k1] at e
        by_cases k2 : k = b
        · omega
        · rw [if_neg k2] at e; have := h a k ha hk e; omega
    · rw [if_neg j2] at e
      by_cases k1 : k = a
      · rw [if_pos k1] at e; have := h j b hj hb e; omega
      · rw [if_neg k1] at e
        by_cases k2 : k = b
        · rw [if_pos k2] at e; have := h j a hj ha e; omega
        · rw [if_neg k2] at e; exact h j k hj hk e
/-- the one that is gone comes second -/
def sw01 (g : Int) (c : Nat → Int) : Nat → Int := if c 0 = g then swp 0 1 c else c
theorem sw01_mem {N : Nat} {c : Nat → Int} {g : Int} (hN : 2 ≤ N) (x : Int) : MemC N (sw01 g c) x ↔ MemC N c x := by
  unfold sw01; split
  · exact swp_mem (by omega) (by omega) x
  · exact Iff.rfl
theorem sw01_inj {N : Nat} {c : Nat → Int} {g : Int} (hN : 2 ≤ N) (h : InjC N c) : InjC N (sw01 g c) := by
  unfold sw01; split
  · exact swp_inj (by omega) (by omega) h
  · exact h
def D1 (N : Nat) (c : Nat → Int) (T : List Int) : Prop := ∀ k, 1 ≤ k → k < N → atU T (c k) = -1
def D2 (N : Nat) (c : Nat → Int) (T : List Int) (m : Int) : Prop := (0 < N ∧ (atU T (c 0) = 1 ∨ c 0 = m)) ∨ (2 ≤ N ∧ atU T (c 0) ≠ -1 ∧ atU T (c 1) ≠ -1)
def Dd (N : Nat) (c : Nat → Int) (T : List Int) (m : Int) (d : Bool) : Prop := if d = true then D1 N c T else D2 N c T m
/-- what holds of the clauses and of who watches them -/
structure InvB (n : Nat) (L : Lls) (C : Nat → Nat → Int) (Wl : Nat → List Nat) (T : List Int) : Prop where
  perm : ∀ i, i < n → ∀ x, MemC (L.N i) (C i) x ↔ MemC (L.N i) (L.Z i) x
  inj : ∀ i, i < n → InjC (L.N i) (C i)
  wat : ∀ i, i < n → 2 ≤ L.N i → i ∈ Wl (plc (C i 0)) ∧ i ∈ Wl (plc (C i 1))
  wok : ∀ x, ofC x 60 = true → ∀ i, i ∈ Wl (plc x) → i < n ∧ 2 ≤ L.N i ∧ (atU T x = -1 ∨ C i 0 = x ∨ C i 1 = x)
  nod : ∀ x, ofC x 60 = true → atU T x ≠ -1 → (Wl (plc x)).Nodup
/-- all literals are of the variables 1 to 60 -/
def LitL (n : Nat) (L : Lls) : Prop := ∀ i, i < n → ∀ x, MemC (L.N i) (L.Z i) x → ofC x 60 = true
def InvD (n : Nat) (L : Lls) (C : Nat → Nat → Int) (due : Nat → Bool) (T : List Int) (m : Int) : Prop := ∀ i, i < n → Dd (L.N i) (C i) T m (due i)
/-- the literal m was put, and q of the clauses that watch its negation were looked at -/
structure Mid (n : Nat) (L : Lls) (C : Nat → Nat → Int) (Wl : Nat → List Nat) (due : Nat → Bool) (T : List Int) (m : Int) (l : List Nat) (q : Nat) : Prop where
  base : InvB n L C Wl (T ++ [m])
  hl : Wl (plc (-m)) = l
  nd : l.Nodup
  rest : ∀ j i, q ≤ j → l[j]? = some i → (C i 0 = -m ∨ C i 1 = -m) ∧ Dd (L.N i) (C i) T m (due i)
  done : ∀ i, i < n → (∀ j, q ≤ j → l[j]? ≠ some i) → Dd (L.N i) (C i) (T ++ [m]) 0 (due i)
section
variable {n : Nat} {L : Lls} {C : Nat → Nat → Int} {Wl : Nat → List Nat} {due : Nat → Bool} {T : List Int} {m : Int} {l : List Nat} {q : Nat}
theorem fal_push (h0 : atU T m = 0) (hm : m ≠ 0) {x : Int} (h : atU T x = -1) : atU (T ++ [m]) x = -1 := by
  rw [atU_push h0 hm]
  split
  · rename_i e; subst e; omega
  · split
    · rfl
    · exact h
theorem tru_push (h0 : atU T m = 0) (hm : m ≠ 0) {x : Int} (h : atU T x = 1) : atU (T ++ [m]) x = 1 := by
  rw [atU_push h0 hm]
  split
  · rfl
  · split
    · rename_i e; subst e; have := atU_neg T hm; omega
    · exact h
theorem not_push (h0 : atU T m = 0) (hm : m ≠ 0) {x : Int} (h : atU T x ≠ -1) (he : x ≠ -m) : atU (T ++ [m]) x ≠ -1 := by
  rw [atU_push h0 hm, if_neg (show ¬ x = -m from he)]
  split
  · omega
  · exact h
theorem mem_lit (hL : LitL n L) (h : InvB n L C Wl T) {i k : Nat} (hi : i < n) (hk : k < L.N i) : ofC (C i k) 60 = true :=
  hL i hi _ ((h.perm i hi _).1 ⟨k, hk, rfl⟩)
theorem mid_start (hL : LitL n L) (h : InvB n L C Wl T) (hd : InvD n L C due T m) (hm : ofC m 60 = true) (h0 : atU T m = 0) : Mid n L C Wl due T m (Wl (plc (-m))) 0 := by
  have hm0 : m ≠ 0 := (ofC_iff.1 hm).1
  have hmn : ofC (-m) 60 = true := by have := ofC_iff.1 hm; exact ofC_iff.2 ⟨by omega, by omega, by omega⟩
  have hn0 : atU T (-m) = 0 := by rw [atU_neg T hm0, h0]; rfl
  refine ⟨⟨h.perm, h.inj, h.wat, fun x hx i hi => ?_, fun x hx hn => h.nod x hx fun e => hn (fal_push h0 hm0 e)⟩, rfl, h.nod _ hmn (by omega), fun j i _ hj => ?_, fun i hi hno => ?_⟩
  · obtain ⟨a, b, c⟩ := h.wok x hx i hi
    exact ⟨a, b, c.imp (fal_push h0 hm0) id⟩
  · have hi := List.mem_of_getElem? hj
    obtain ⟨a, b, c⟩ := h.wok _ hmn i hi
    exact ⟨c.resolve_left (by omega), hd i a⟩
  · have hx := hd i hi
    unfold Dd at hx ⊢
    have hnot : i ∉ Wl (plc (-m)) := fun hmem => by
      obtain ⟨j, hj⟩ := List.getElem?_of_mem hmem
      exact hno j (Nat.zero_le _) hj
    split
    · rename_i e; rw [if_pos e] at hx
      exact fun k k1 k2 => fal_push h0 hm0 (hx k k1 k2)
    · rename_i e; rw [if_neg e] at hx
      rcases hx with ⟨a, b⟩ | ⟨a, b, c⟩
      · refine .inl ⟨a, .inl ?_⟩
        rcases b with b | b
        · exact tru_push h0 hm0 b
        · rw [b, atU_push h0 hm0, if_pos rfl]
      · obtain ⟨w0, w1⟩ := h.wat i hi a
        exact .inr ⟨a, not_push h0 hm0 b (fun e => hnot (e ▸ w0)), not_push h0 hm0 c (fun e => hnot (e ▸ w1))⟩
theorem mid_end (h : Mid n L C Wl due T m l l.length) : InvB n L C Wl (T ++ [m]) ∧ InvD n L C due (T ++ [m]) 0 :=
  ⟨h.base, fun i hi => h.done i hi fun j hj e => by
    have := (List.getElem?_eq_some_iff.1 e).1
    omega⟩
theorem mid_at (hL : LitL n L) (h : Mid n L C Wl due T m l q) {i : Nat} (hq : l[q]? = some i) (hm : ofC m 60 = true) : i < n ∧ 2 ≤ L.N i ∧ (C i 0 = -m ∨ C i 1 = -m) := by
  have hmn : ofC (-m) 60 = true := by have := ofC_iff.1 hm; exact ofC_iff.2 ⟨by omega, by omega, by omega⟩
  obtain ⟨a, b, _⟩ := h.base.wok _ hmn i (by rw [h.hl]; exact List.mem_of_getElem? hq)
  exact ⟨a, b, (h.rest q i (Nat.le_refl _) hq).1⟩
/-- the clause that is looked at, with the one that is gone behind: what holds of it -/
theorem mid_front (hL : LitL n L) (h : Mid n L C Wl due T m l q) {i : Nat} (hq : l[q]? = some i) (hm : ofC m 60 = true) (h0 : atU T m = 0) :
    sw01 (-m) (C i) 1 = -m ∧ sw01 (-m) (C i) 0 ≠ -m ∧
      ((∀ k, k < L.N i → sw01 (-m) (C i) k ≠ -m → atU (T ++ [m]) (sw01 (-m) (C i) k) = -1) ∨ atU (T ++ [m]) (sw01 (-m) (C i) 0) = 1 ∨ atU (T ++ [m]) (sw01 (-m) (C i) 0) ≠ -1) := by
  obtain ⟨hi, h2, hc⟩ := mid_at hL h hq hm
  have hm0 : m ≠ 0 := (ofC_iff.1 hm).1
  have hinj := h.base.inj i hi
  have hd := (h.rest q i (Nat.le_refl _) hq).2
  have hn0 : atU T (-m) = 0 := by rw [atU_neg T hm0, h0]; rfl
  unfold Dd at hd
  unfold sw01
  by_cases e : C i 0 = -m
  · rw [if_pos e]
    have e1 : C i 1 ≠ -m := fun e1 => by have := hinj 0 1 (by omega) (by omega) (e.trans e1.symm); omega
    refine ⟨by unfold swp; rw [if_neg (by omega), if_pos rfl]; exact e, by unfold swp; rw [if_pos rfl]; exact e1, ?_⟩
    split at hd
    · refine .inl fun k hk hne => ?_
      unfold swp at hne ⊢
      by_cases k0 : k = 0
      · rw [if_pos k0]; exact fal_push h0 hm0 (hd 1 (Nat.le_refl _) (by omega))
      · rw [if_neg k0] at hne ⊢
        by_cases k1 : k = 1
        · rw [if_pos k1] at hne; exact absurd e hne
        · rw [if_neg k1]; exact fal_push h0 hm0 (hd k (by omega) hk)
    · rcases hd with ⟨_, a⟩ | ⟨_, a, b⟩
      · rcases a with a | a
        · rw [e] at a; omega
        · rw [e] at a; omega
      · refine .inr (.inr ?_)
        unfold swp
        rw [if_pos rfl]
        exact not_push h0 hm0 b e1
  · rw [if_neg e]
    have e1 : C i 1 = -m := hc.resolve_left e
    refine ⟨e1, e, ?_⟩
    split at hd
    · have := hd 1 (Nat.le_refl _) (by omega)
      rw [e1] at this
      omega
    · rcases hd with ⟨_, a⟩ | ⟨_, a, b⟩
      · rcases a with a | a
        · exact .inr (.inl (tru_push h0 hm0 a))
        · exact .inr (.inl (by rw [a, atU_push h0 hm0, if_pos rfl]))
      · exact .inr (.inr (not_push h0 hm0 a e))
/-- another literal is watched -/
theorem mid_found (hL : LitL n L) (h : Mid n L C Wl due T m l q) {i at_ : Nat} (hq : l[q]? = some i) (hm : ofC m 60 = true) (h0 : atU T m = 0) (a2 : 2 ≤ at_) (aN : at_ < L.N i) (hf : atU (T ++ [m]) (sw01 (-m) (C i) at_) ≠ -1) :
    Mid n L (fun j => if j = i then swp 1 at_ (sw01 (-m) (C i)) else C j) (fun p => if p = plc (sw01 (-m) (C i) at_) then Wl p ++ [i] else Wl p) (fun j => if j = i then false else due j) T m l (q + 1) := by
  obtain ⟨hi, h2, hc⟩ := mid_at hL h hq hm
  obtain ⟨f1, f0, fr⟩ := mid_front hL h hq hm h0
  have hm0 : m ≠ 0 := (ofC_iff.1 hm).1
  have hmn : ofC (-m) 60 = true := by have := ofC_iff.1 hm; exact ofC_iff.2 ⟨by omega, by omega, by omega⟩
  have hnm : atU (T ++ [m]) (-m) = -1 := by rw [atU_push h0 hm0, if_neg (by omega), if_pos rfl]
  generalize hc1 : sw01 (-m) (C i) = c1 at *
  have hmem : ∀ x, MemC (L.N i) c1 x ↔ MemC (L.N i) (C i) x := fun x => by rw [← hc1]; exact sw01_mem h2 x
  have hinj : InjC (L.N i) c1 := by rw [← hc1]; exact sw01_inj h2 (h.base.inj i hi)
  have hlit : ∀ k, k < L.N i → ofC (c1 k) 60 = true := fun k hk => hL i hi _ ((h.base.perm i hi _).1 ((hmem _).1 ⟨k, hk, rfl⟩))
  have hpair : ∀ x, (C i 0 = x ∨ C i 1 = x) → x = c1 0 ∨ x = -m := fun x hx => by
    rw [← hc1]; unfold sw01
    by_cases e : C i 0 = -m
    · rw [if_pos e]; unfold swp; rw [if_pos rfl]; rcases hx with hx | hx
      · right; omega
      · left; exact hx.symm
    · rw [if_neg e]
      have e1 := hc.resolve_left e
      rcases hx with hx | hx
      · left; exact hx.symm
      · right; omega
  have hw : i ∈ Wl (plc (c1 0)) := by
    rw [← hc1]; unfold sw01; split
    · unfold swp; rw [if_pos rfl]; exact (h.base.wat i hi h2).2
    · exact (h.base.wat i hi h2).1
  have s0 : swp 1 at_ c1 0 = c1 0 := by unfold swp; rw [if_neg (by omega), if_neg (by omega)]
  have s1 : swp 1 at_ c1 1 = c1 at_ := by unfold swp; rw [if_pos rfl]
  have ha := hlit at_ aN
  have hane : c1 at_ ≠ -m := fun e => hf (e ▸ hnm)
  have hnotin : i ∉ Wl (plc (c1 at_)) := fun hin => by
    obtain ⟨_, _, hh⟩ := h.base.wok _ ha i hin
    rcases hpair _ (hh.resolve_left hf) with e | e
    · have := hinj at_ 0 aN (by omega) e; omega
    · exact hane e
  refine ⟨⟨fun j hj x => ?_, fun j hj => ?_, fun j hj j2 => ?_, fun x hx j hin => ?_, fun x hx hn => ?_⟩, ?_, h.nd, fun j i' hj hj' => ?_, fun j hj hno => ?_⟩
  · by_cases e : j = i
    · subst e; rw [if_pos rfl]; exact ((swp_mem (by omega) aN x).trans (hmem x)).trans (h.base.perm j hj x)
    · rw [if_neg e]; exact h.base.perm j hj x
  · by_cases e : j = i
    · subst e; rw [if_pos rfl]; exact swp_inj (by omega) aN hinj
    · rw [if_neg e]; exact h.base.inj j hj
  · have grow : ∀ p j', j' ∈ Wl p → j' ∈ (if p = plc (c1 at_) then Wl p ++ [i] else Wl p) := fun p j' hh => by
      split
      · exact List.mem_append_left _ hh
      · exact hh
    by_cases e : j = i
    · subst e
      simp only [↓reduceIte]
      rw [s0, s1]
      exact ⟨grow _ _ hw, by rw [if_pos rfl]; exact List.mem_append_right _ (List.mem_singleton.2 rfl)⟩
    · simp only [if_neg e]
      exact ⟨grow _ _ (h.base.wat j hj j2).1, grow _ _ (h.base.wat j hj j2).2⟩
  · have old : j ∈ Wl (plc x) → j < n ∧ 2 ≤ L.N j ∧ (atU (T ++ [m]) x = -1 ∨ (if j = i then swp 1 at_ c1 else C j) 0 = x ∨ (if j = i then swp 1 at_ c1 else C j) 1 = x) := fun hin => by
      obtain ⟨a, b, c⟩ := h.base.wok x hx j hin
      refine ⟨a, b, ?_⟩
      by_cases e : j = i
      · subst e
        rw [if_pos rfl, s0]
        rcases c with c | c
        · exact .inl c
        · rcases hpair x c with c | c
          · exact .inr (.inl c.symm)
          · exact .inl (c ▸ hnm)
      · rw [if_neg e]; exact c
    by_cases ep : plc x = plc (c1 at_)
    · rw [if_pos ep] at hin
      rcases List.mem_append.1 hin with hin | hin
      · exact old hin
      · obtain rfl := List.mem_singleton.1 hin
        exact ⟨hi, h2, .inr (.inr (by rw [if_pos rfl, s1]; exact (plc_inj hx ha ep).symm))⟩
    · rw [if_neg ep] at hin
      exact old hin
  · by_cases ep : plc x = plc (c1 at_)
    · rw [if_pos ep, List.nodup_append]
      refine ⟨h.base.nod x hx hn, List.nodup_cons.2 ⟨List.not_mem_nil, List.nodup_nil⟩, fun a ha' b hb => ?_⟩
      obtain rfl := List.mem_singleton.1 hb
      rintro rfl
      exact hnotin (ep ▸ ha')
    · rw [if_neg ep]; exact h.base.nod x hx hn
  · rw [if_neg (fun e => hane (plc_inj hmn ha e).symm)]; exact h.hl
  · have hne : i' ≠ i := fun e => by
      subst e
      have := (List.getElem?_inj (by exact (List.getElem?_eq_some_iff.1 hq).1) h.nd).1 (hq.trans hj'.symm)
      omega
    rw [if_neg hne, if_neg hne]
    exact h.rest j i' (by omega) hj'
  · by_cases e : j = i
    · subst e
      rw [if_pos rfl, if_pos rfl]
      unfold Dd
      rw [if_neg (by simp)]
      rcases fr with fr | fr | fr
      · exact absurd (fr at_ aN hane) hf
      · exact .inl ⟨by omega, .inl (by rw [s0]; exact fr)⟩
      · exact .inr ⟨h2, by rw [s0]; exact fr, by rw [s1]; exact hf⟩
    · rw [if_neg e, if_neg e]
      refine h.done j hj fun p hp hpe => ?_
      by_cases ee : p = q
      · subst ee; rw [hq] at hpe; exact e (Option.some.inj hpe).symm
      · exact hno p (by omega) hpe
/-- no other literal can be watched -/
theorem mid_due (hL : LitL n L) (h : Mid n L C Wl due T m l q) {i : Nat} (hq : l[q]? = some i) (hm : ofC m 60 = true) (h0 : atU T m = 0) (hf : ∀ k, 2 ≤ k → k < L.N i → atU (T ++ [m]) (sw01 (-m) (C i) k) = -1) :
    Mid n L (fun j => if j = i then sw01 (-m) (C i) else C j) Wl (fun j => if j = i then true else due j) T m l (q + 1) := by
  obtain ⟨hi, h2, hc⟩ := mid_at hL h hq hm
  obtain ⟨f1, f0, fr⟩ := mid_front hL h hq hm h0
  have hm0 : m ≠ 0 := (ofC_iff.1 hm).1
  have hnm : atU (T ++ [m]) (-m) = -1 := by rw [atU_push h0 hm0, if_neg (by omega), if_pos rfl]
  generalize hc1 : sw01 (-m) (C i) = c1 at *
  have hmem : ∀ x, MemC (L.N i) c1 x ↔ MemC (L.N i) (C i) x := fun x => by rw [← hc1]; exact sw01_mem h2 x
  have hinj : InjC (L.N i) c1 := by rw [← hc1]; exact sw01_inj h2 (h.base.inj i hi)
  have hpair : ∀ x, (C i 0 = x ∨ C i 1 = x) → c1 0 = x ∨ c1 1 = x := fun x hx => by
    rw [← hc1]; unfold sw01
    by_cases e : C i 0 = -m
    · rw [if_pos e]; unfold swp; rw [if_pos rfl, if_neg (by omega), if_pos rfl]; exact hx.symm
    · rw [if_neg e]; exact hx
  have hw : i ∈ Wl (plc (c1 0)) ∧ i ∈ Wl (plc (c1 1)) := by
    rw [← hc1]; unfold sw01; split
    · unfold swp; rw [if_pos rfl, if_neg (by omega), if_pos rfl]; exact (h.base.wat i hi h2).symm
    · exact h.base.wat i hi h2
  refine ⟨⟨fun j hj x => ?_, fun j hj => ?_, fun j hj j2 => ?_, fun x hx j hin => ?_, h.base.nod⟩, h.hl, h.nd, fun j i' hj hj' => ?_, fun j hj hno => ?_⟩
  · by_cases e : j = i
    · subst e; rw [if_pos rfl]; exact (hmem x).trans (h.base.perm j hj x)
    · rw [if_neg e]; exact h.base.perm j hj x
  · by_cases e : j = i
    · subst e; rw [if_pos rfl]; exact hinj
    · rw [if_neg e]; exact h.base.inj j hj
  · by_cases e : j = i
    · subst e; simp only [↓reduceIte]; exact hw
    · simp only [if_neg e]; exact h.base.wat j hj j2
  · obtain ⟨a, b, c⟩ := h.base.wok x hx j hin
    refine ⟨a, b, ?_⟩
    by_cases e : j = i
    · subst e; simp only [↓reduceIte]; exact c.imp id (hpair x)
    · simp only [if_neg e]; exact c
  · have hne : i' ≠ i := fun e => by
      subst e
      have := (List.getElem?_inj (by exact (List.getElem?_eq_some_iff.1 hq).1) h.nd).1 (hq.trans hj'.symm)
      omega
    rw [if_neg hne, if_neg hne]
    exact h.rest j i' (by omega) hj'
  · by_cases e : j = i
    · subst e
      rw [if_pos rfl, if_pos rfl]
      unfold Dd
      rw [if_pos rfl]
      intro k k1 k2
      by_cases kk : k = 1
      · subst kk; rw [f1]; exact hnm
      · exact hf k (by omega) k2
    · rw [if_neg e, if_neg e]
      refine h.done j hj fun p hp hpe => ?_
      by_cases ee : p = q
      · subst ee; rw [hq] at hpe; exact e (Option.some.inj hpe).symm
      · exact hno p (by omega) hpe
/-- a clause that is not due tells nothing -/
theorem inv_idle (h : InvB n L C Wl T) {i : Nat} (hi : i < n) (hd : D2 (L.N i) (C i) T 0) (h0 : ∀ k, k < L.N i → C i k ≠ 0) : Idle (L.N i) (L.Z i) T := by
  rcases hd with ⟨a, b⟩ | ⟨a, b, c⟩
  · exact idle_true ((h.perm i hi _).1 ⟨0, a, rfl⟩) (b.resolve_right (h0 0 a))
  · exact idle_two ((h.perm i hi _).1 ⟨0, by omega, rfl⟩) ((h.perm i hi _).1 ⟨1, by omega, rfl⟩) (fun e => by have := h.inj i hi 0 1 (by omega) (by omega) e; omega) b c
/-- a clause that is due, by its first literal -/
theorem inv_fal (h : InvB n L C Wl T) {i : Nat} (hi : i < n) (hd : D1 (L.N i) (C i) T) (h0 : L.N i = 0 ∨ atU T (C i 0) = -1) : Fal (L.N i) (L.Z i) T := fun x hx => by
  obtain ⟨k, hk, rfl⟩ := (h.perm i hi x).2 hx
  by_cases e : k = 0
  · subst e; exact h0.resolve_left (by omega)
  · exact hd k (by omega) hk
theorem inv_uni (h : InvB n L C Wl T) {i : Nat} (hi : i < n) (hd : D1 (L.N i) (C i) T) (hN : 0 < L.N i) (h0 : atU T (C i 0) = 0) : Uni (L.N i) (L.Z i) T (C i 0) :=
  ⟨(h.perm i hi _).1 ⟨0, hN, rfl⟩, h0, fun y hy hne => by
    obtain ⟨k, hk, rfl⟩ := (h.perm i hi y).2 hy
    by_cases e : k = 0
    · subst e; exact absurd rfl hne
    · exact hd k (by omega) hk⟩
end
end Go.Proofs.Ytjnngijilkdhbaa
