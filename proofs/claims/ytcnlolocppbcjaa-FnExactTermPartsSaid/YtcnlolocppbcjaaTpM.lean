/- Walk of FnExactTermParts. -/
import Derived.Test.YtcnlolocppbcjaaBP
import Derived.Test.YtcnlolocppbcjaaAtA
namespace Go.Proofs.Ytcnlolocppbcjaa
set_option linter.unusedVariables false
set_option linter.unusedSimpArgs false
open Go.RowKit
theorem pred_addK {R : Nat → List Tm → List Tm → Prop} {Pd : Tm → Prop} : ∀ {n : Nat} {P Q : List Tm}, (∀ k, k < n → ∀ P Q, R k P Q → (∀ u ∈ P, Pd u) → ∀ u ∈ Q, Pd u) → AddK R n P Q → (∀ u ∈ P, Pd u) → ∀ u ∈ Q, Pd u
  | 0, P, Q, _, h, hP => by
    have : P = Q := h
    subst this
    exact hP
  | n + 1, P, Q, hR, ⟨X, h1, h2⟩, hP => hR n (by omega) _ _ h2 (pred_addK (fun k hk => hR k (by omega)) h1 hP)
theorem pred_addT {Pd : Tm → Prop} (hcl : ∀ nm n kid, Pd (.mk nm n kid) → ∀ k, k < n → Pd (kid k)) : ∀ {t : Tm} {P Q : List Tm}, Pd t → AddT t P Q → (∀ u ∈ P, Pd u) → ∀ u ∈ Q, Pd u := by
  intro t
  induction t with
  | bad => intro P Q _ h; exact False.elim h
  | mk nm n kid ih =>
    rintro P Q hF ⟨X, h1, h2⟩ hP
    have hX := pred_addK (R := fun k => AddT (kid k)) (fun k hk P Q h hP => ih k (hcl _ _ _ hF k hk) h hP) h1 hP
    rcases h2 with ⟨_, rfl⟩ | ⟨_, rfl⟩
    · exact hX
    · intro u hu
      rcases List.mem_append.1 hu with h | h
      · exact hX u h
      · rw [List.mem_singleton.1 h]; exact hF
theorem len_addK {R : Nat → List Tm → List Tm → Prop} {s : Nat → Nat} : ∀ {n : Nat} {P Q : List Tm}, (∀ k, k < n → ∀ P Q, R k P Q → Q.length ≤ P.length + s k) → AddK R n P Q → Q.length ≤ P.length + sumT n s
  | 0, P, Q, _, h => by
    have : P = Q := h
    subst this
    exact Nat.le_add_right _ _
  | n + 1, P, Q, hR, ⟨X, h1, h2⟩ => by
    have a := len_addK (fun k hk => hR k (by omega)) h1
    have b := hR n (by omega) _ _ h2
    have c : sumT (n + 1) s = sumT n s + s n := rfl
    omega
theorem len_addT : ∀ {t : Tm} {P Q : List Tm}, AddT t P Q → Q.length ≤ P.length + tSz t := by
  intro t
  induction t with
  | bad => intro P Q h; exact False.elim h
  | mk nm n kid ih =>
    rintro P Q ⟨X, h1, h2⟩
    have a := len_addK (R := fun k => AddT (kid k)) (s := fun k => tSz (kid k)) (fun k _ P Q h => ih k h) h1
    rw [tSz]
    rcases h2 with ⟨_, rfl⟩ | ⟨_, rfl⟩
    · omega
    · rw [List.length_append]; simp only [List.length_cons, List.length_nil]; omega
theorem sumT_le {f : Nat → Nat} {k n : Nat} (h : k < n) : f k ≤ sumT n f := by
  have := sumT_mono (f := f) (k := k + 1) (n := n) h
  have c : sumT (k + 1) f = sumT k f + f k := rfl
  omega
theorem sumT_bd {f : Nat → Nat} {m : Nat} : ∀ {n : Nat}, (∀ k, k < n → f k ≤ m) → sumT n f ≤ n * m
  | 0, _ => Nat.zero_le _
  | n + 1, h => by
    have a := sumT_bd (n := n) (fun k hk => h k (by omega))
    have b := h n (by omega)
    have c : sumT (n + 1) f = sumT n f + f n := rfl
    rw [Nat.add_mul]
    omega
theorem lparts_fun {n : Nat} {kid : Nat → Tm} {Q Q' : List Tm} (h : LParts n kid Q) (h' : LParts n kid Q') : Q = Q' := by
  rcases h with ⟨a, b⟩ | ⟨⟨k, hk, a⟩, rfl⟩ <;> rcases h' with ⟨a', b'⟩ | ⟨⟨k', hk', a'⟩, rfl⟩
  · exact addK_fun (R := fun k => AddT (kid k)) (fun k _ P Q Q' h h' => addT_fun h h') b b'
  · rw [a k' hk'] at a'; cases a'
  · rw [a' k hk] at a; cases a
  · rfl
theorem lparts_bd {n : Nat} {kid : Nat → Tm} {Q : List Tm} (h : LParts n kid Q) (hz : sumT n (fun k => tSz (kid k)) ≤ 1048576) : Q.length ≤ 1048576 ∧ ∀ u ∈ Q, tSz u ≤ 1048576 := by
  rcases h with ⟨_, b⟩ | ⟨_, rfl⟩
  · refine ⟨?_, pred_addK (R := fun k => AddT (kid k)) (Pd := fun u => tSz u ≤ 1048576) (fun k hk P Q h hP => pred_addT (Pd := fun u => tSz u ≤ 1048576) (fun nm n kid h k hk => ?_) (Nat.le_trans (sumT_le (f := fun k => tSz (kid k)) hk) hz) h hP) b (fun u hu => by cases hu)⟩
    · have := len_addK (R := fun k => AddT (kid k)) (s := fun k => tSz (kid k)) (fun k _ P Q h => len_addT h) b
      simp only [List.length_nil] at this
      omega
    · simp only [tSz] at h
      have := sumT_le (f := fun k => tSz (kid k)) hk
      omega
  · exact ⟨Nat.zero_le _, fun u hu => by cases hu⟩
theorem SepT.kids {w : World} {t : Tm} {lo hi : Nat} {A : Option Addr} (h : SepT w t lo hi A) : Kids 0 w t A := (h.kidT (Nat.zero_le lo)).kids
set_option maxRecDepth 100000 in
set_option maxHeartbeats 8000000 in
theorem walk_ExactTermParts (n : Nat) (kid : Nat → Tm) (A : Option Addr) (c : Nat) (w : World) (hn : n ≤ 9223372036854775807) (hF63 : ∀ k, k < n → Fits 9223372036854775807 (kid k)) (hA : Kids 0 w (.mk ⟨#[]⟩ n kid) A) :
    Calls Try.prog 5 #[.slice A n c] w fun e w' => e = .returned (.bool true) ∧ Below w.heap.size w w' := by
  have hS := szterms_any n kid hn hF63 A c 1048576 w (by omega) hA
  go_enter Try.func5, Try.ntmps5
  go_wp2_with fail
  refine hS.mono ?_
  rintro e w1 ⟨r, rfl, hr, q0⟩
  clear hS
  rcases hr with hr | ⟨r1, r2, hn2, hF⟩
  · go_wp2
    go_ret
    exact ⟨rfl, q0⟩
  have hz : sumT n (fun k => tSz (kid k)) ≤ 1048576 := by omega
  clear r2
  have hT := fun W (h : Below w.heap.size w W) => toterms_S n kid hn2 hF A c W (hA.below h)
  have hP := fun (B : Option Addr) W (h : KidT 0 W (.mk ⟨#[]⟩ n kid) B) => termparts_any n kid B n W hn2 hF hz h
  have hPs := fun (B : Option Addr) W (h : Kids 0 W (.mk ⟨#[]⟩ n kid) B) => stermparts_any n kid B n W hn2 hF (by omega) h
  have hEx := fun (B1 B2 : Option Addr) W h1 h2 => eqterms_same n kid hn hF63 B1 B2 n n W h1 h2
  have hMx : ∀ lo hi (B : Option Addr) W, SepT W (.mk ⟨#[]⟩ n kid) lo hi B → Calls Try.prog 31 #[.slice B n n, .int .i64 1] W fun e w' => e = .returned (.int .i64 ((1 + tSz (.mk ⟨#[]⟩ n kid) - 1 : Nat) : Int)) ∧ SepT w' (mkT (.mk ⟨#[]⟩ n kid) 1) lo hi B ∧ Wrt lo hi W w' :=
    fun lo hi B W h => markterms_any (.mk ⟨#[]⟩ n kid) lo hi B n 1 W hn2 (by omega) (by rw [tSz]; omega) ⟨Nat.zero_le _, hn2, hF⟩ h
  generalize (1 + tSz (.mk ⟨#[]⟩ n kid) - 1 : Nat) = K1 at hMx
  have dK1 : decide ((K1 : Int) < 0) = false := by simp
  have HA := hid hA
  clear hA
  go_wp2_with fail
  refine (hT _ q0).mono ?_
  rintro e w2 ⟨A2, rfl, S2, p2⟩
  replace q0 := btr q0 p2
  clear p2
  go_wp2_with fail
  refine (hPs A2 w2 (S2 ⟨#[]⟩).kids).mono ?_
  rintro e w3 ⟨X, v, rfl, hX, hFX, hL, p3⟩
  obtain ⟨a3, c3, rfl, _, _⟩ := hX.slice
  have S3 := (hX.sep rfl ⟨#[]⟩).congr (nm' := ⟨#[]⟩) (fun k hk => (getD_mapX hk).symm)
  have hXQ : (X.map TX.t).length = X.length := by simp
  obtain ⟨hQl, hQz⟩ := lparts_bd hL hz
  have hkF : ∀ k, k < X.length → Fits 1048576 ((fun k => (X.map TX.t).getD k default) k) := fun k hk => by show Fits 1048576 ((X.map TX.t).getD k default); rw [getD_mapX hk]; exact hFX k hk
  have hkz : ∀ k, k < X.length → tSz ((fun k => (X.map TX.t).getD k default) k) ≤ 1048576 := fun k hk => hQz _ (getD_mem (by rw [hXQ]; exact hk))
  have hPP : ∀ W e w', PPartsP n kid W e w' → ∃ A' c', e = .returned (.slice A' X.length c') ∧ SepT w' (.mk ⟨#[]⟩ X.length (fun k => (X.map TX.t).getD k default)) W.heap.size w'.heap.size A' ∧ Below W.heap.size W w' := by
    rintro W e w' ⟨Q', A', c', rfl, _, _, hL', _, hS', hB'⟩
    have := lparts_fun hL' hL
    subst this
    rw [hXQ] at hS' ⊢
    exact ⟨A', c', rfl, hS', hB'⟩
  rw [hXQ] at hQl
  generalize X.length = N at *
  generalize (fun k => (X.map TX.t).getD k default) = kd at *
  clear hX hXQ hQz hL hFX hPs hz
  have hkN := sumT_bd (f := fun k => tSz (kd k)) hkz
  have hkM : N * 1048576 ≤ 1048576 * 1048576 := Nat.mul_le_mul_right _ hQl
  have hgz : 1 + tSz (.mk ⟨#[]⟩ N kd) ≤ 1000000000000001 := by rw [tSz]; omega
  clear hkz hkM hkN
  have hE := fun (B1 B2 : Option Addr) (d1 d2 : Nat) W h1 h2 => eqterms_same N kd (by omega) (fun k hk => (hkF k hk).mono (by omega)) B1 B2 d1 d2 W h1 h2
  have hMg : ∀ lo hi (B : Option Addr) (d : Nat) W, SepT W (.mk ⟨#[]⟩ N kd) lo hi B → Calls Try.prog 31 #[.slice B N d, .int .i64 1] W fun e w' => e = .returned (.int .i64 ((1 + tSz (.mk ⟨#[]⟩ N kd) - 1 : Nat) : Int)) ∧ SepT w' (mkT (.mk ⟨#[]⟩ N kd) 1) lo hi B ∧ Wrt lo hi W w' :=
    fun lo hi B d W h => markterms_any (.mk ⟨#[]⟩ N kd) lo hi B d 1 W hQl (by omega) hgz ⟨Nat.zero_le _, hQl, hkF⟩ h
  have hHg : ∀ (B : Option Addr) (d : Nat) W, Kids 0 W (mkT (.mk ⟨#[]⟩ N kd) 1) B → Calls Try.prog 32 #[.slice B N d, .int .i64 1] W fun e w' => e = .returned (.int .i64 ((1 + tSz (.mk ⟨#[]⟩ N kd) - 1 : Nat) : Int)) ∧ Below W.heap.size W w' :=
    fun B d W h => heldterms_any (.mk ⟨#[]⟩ N kd) B d 1 W hQl (by omega) hgz ⟨Nat.zero_le _, hQl, hkF⟩ h
  generalize (1 + tSz (.mk ⟨#[]⟩ N kd) - 1 : Nat) = K2 at hMg hHg
  have dK2 : decide ((K2 : Int) < 0) = false := by simp
  have dK3 : ((K2 : Int) != (K2 : Int)) = false := by simp
  clear hkF hgz
  have z2 := q0.size
  replace q0 := btr q0 p3
  have z3 := p3.size
  clear p3
  go_wp2_with fail
  refine (hT _ q0).mono ?_
  rintro e w4 ⟨A4, rfl, S4, p4⟩
  replace S4 := S4 ⟨#[]⟩
  replace q0 := btr q0 p4
  replace S3 := S3.below p4
  have z4 := p4.size
  clear p4
  go_wp2_with fail
  refine (hP A4 w4 (S4.kidT (Nat.zero_le _))).mono ?_
  intro e w5 h5
  obtain ⟨A5, c5, rfl, S5, p5⟩ := hPP _ _ _ h5
  clear h5
  replace q0 := btr q0 p5
  replace S3 := S3.below p5
  replace S4 := S4.below p5
  have z5 := p5.size
  clear p5
  go_wp2_with fail
  refine (hE A5 a3 c5 c3 w5 S5.kids S3.kids).mono ?_
  rintro e w6 ⟨rfl, p6⟩
  replace q0 := btr q0 p6
  replace S3 := S3.below p6
  replace S4 := S4.below p6
  replace S5 := S5.below p6
  clear p6
  go_wp2_with fail
  refine (hT _ q0).mono ?_
  rintro e w7 ⟨A7, rfl, S7, p7⟩
  replace q0 := btr q0 p7
  replace S3 := S3.below p7
  replace S4 := S4.below p7
  replace S5 := S5.below p7
  clear p7
  go_wp2_with fail
  refine (hEx A4 A7 w7 S4.kids (S7 ⟨#[]⟩).kids).mono ?_
  rintro e w8 ⟨rfl, p8⟩
  replace q0 := btr q0 p8
  replace S3 := S3.below p8
  replace S4 := S4.below p8
  replace S5 := S5.below p8
  clear p8 S7
  go_wp2_with fail
  refine (hMx _ _ A4 w8 S4).mono ?_
  rintro e w9 ⟨rfl, _, p9⟩
  replace q0 := p9.below q0 (Nat.le_trans z2 z3)
  replace S3 := S3.wrt p9 (.inl (Nat.le_refl _))
  replace S5 := S5.wrt p9 (.inr (Nat.le_refl _))
  clear p9 S4
  go_wp2_with fail
  refine (hE A5 a3 c5 c3 w9 S5.kids S3.kids).mono ?_
  rintro e w10 ⟨rfl, p10⟩
  replace q0 := btr q0 p10
  replace S3 := S3.below p10
  replace S5 := S5.below p10
  clear p10
  go_wp2_with fail
  refine (hMg _ _ A5 c5 w10 S5).mono ?_
  rintro e w11 ⟨rfl, S6, p11⟩
  replace q0 := p11.below q0 (Nat.le_trans z2 (Nat.le_trans z3 z4))
  replace S3 := S3.wrt p11 (.inl z4)
  clear p11 S5
  go_wp2_with fail
  refine (hHg A5 c5 w11 S6.kids).mono ?_
  rintro e w12 ⟨rfl, p12⟩
  replace q0 := btr q0 p12
  replace S3 := S3.below p12
  replace S6 := S6.below p12
  clear p12
  go_wp2_with fail
  refine (hT _ q0).mono ?_
  rintro e w13 ⟨A8, rfl, S8, p13⟩
  replace q0 := btr q0 p13
  replace S3 := S3.below p13
  replace S6 := S6.below p13
  clear p13
  go_wp2_with fail
  refine (hP A8 w13 ((S8 ⟨#[]⟩).kidT (Nat.zero_le _))).mono ?_
  intro e w14 h14
  obtain ⟨A9, c9, rfl, S9, p14⟩ := hPP _ _ _ h14
  clear h14
  replace q0 := btr q0 p14
  replace S3 := S3.below p14
  replace S6 := S6.below p14
  clear p14 S8
  go_wp2_with fail
  refine (hE A9 a3 c9 c3 w14 S9.kids S3.kids).mono ?_
  rintro e w15 ⟨rfl, p15⟩
  replace q0 := btr q0 p15
  replace S6 := S6.below p15
  clear p15 S9 S3
  go_wp2_with fail
  refine (hHg A5 c5 w15 S6.kids).mono ?_
  rintro e w16 ⟨rfl, p16⟩
  replace q0 := btr q0 p16
  clear p16 S6
  go_wp2
  go_ret
  exact ⟨rfl, q0⟩
end Go.Proofs.Ytcnlolocppbcjaa
