/- Marks in a list whose empty rows may lie anywhere. -/
import Derived.Test.YtjnngijilkdhbaaCuN
import Derived.Test.YtjnngijilkdhbaaMark
namespace Go.Proofs.Ytjnngijilkdhbaa
set_option linter.unusedVariables false
set_option linter.unusedSimpArgs false
open Go.RowKit
def SSF (lo hi : Nat) (w : World) (A : Option Addr) (n : Nat) (L : Lls) : Prop :=
  n = 0 ∨ ∃ (g : Nat) (LA : Nat → Option Addr) (LC : Nat → Nat), A = some ⟨g, 0, none⟩ ∧ lo ≤ g ∧ g < hi ∧ g < w.heap.size ∧ (∀ k, k < n → w.cell? ⟨g, k, none⟩ = some (.slice (LA k) (L.N k) (LC k))) ∧ (∀ k, k < n → OwnB lo hi w (LA k) (L.N k) (L.Z k)) ∧ ∀ i j, i < n → j < n → i ≠ j → L.N i ≠ 0 → L.N j ≠ 0 → LA i ≠ LA j
theorem SSF.below {lo hi : Nat} {w w' : World} {A : Option Addr} {n : Nat} {L : Lls} (hb : Below w.heap.size w w') (h : SSF lo hi w A n L) : SSF lo hi w' A n L := by
  rcases h with h | ⟨g, LA, LC, a, b, b2, b3, c, d, e⟩
  · exact .inl h
  · exact .inr ⟨g, LA, LC, a, b, b2, Nat.lt_of_lt_of_le b3 hb.size, fun k hk => carry hb (c k hk), fun k hk => OwnB.below hb (d k hk), e⟩
theorem SSF.wrt {lo hi lo' hi' : Nat} {w w' : World} {A : Option Addr} {n : Nat} {L : Lls} (h : SSF lo hi w A n L) (hg : Wrt lo' hi' w w') (hd : hi ≤ lo' ∨ hi' ≤ lo) : SSF lo hi w' A n L := by
  rcases h with h | ⟨g, LA, LC, a, b, b2, b3, c, d, e⟩
  · exact .inl h
  · exact .inr ⟨g, LA, LC, a, b, b2, Nat.lt_of_lt_of_le b3 hg.size, fun k hk => hg.cell (c k hk) (by omega), fun k hk => (d k hk).wrt hg hd, e⟩
theorem SSF.intss {lo hi : Nat} {w : World} {A : Option Addr} {n : Nat} {L : Lls} (h : SSF lo hi w A n L) (hN : ∀ k, k < n → L.N k ≤ 1048576) : IntSS w A n L := by
  rcases h with h | ⟨g, LA, LC, a, b, b2, b3, c, d, e⟩
  · exact .inl h
  · exact .inr ⟨g, 0, a, b3, fun k hk => ⟨LA k, LC k, by rw [Nat.zero_add]; exact c k hk, by have := hN k hk; omega, (d k hk).ints⟩⟩
set_option maxRecDepth 100000 in
set_option maxHeartbeats 4000000 in
theorem markssf_any (lo hi : Nat) (A : Option Addr) (n c : Nat) (L : Lls) (k0 : Int) (w : World) (hn : n ≤ 1048576) (hN : ∀ k, k < n → L.N k ≤ 1048576) (hk : 0 ≤ k0 ∧ k0 ≤ 1000000000000) (h : SSF lo hi w A n L) :
    Calls Try.prog 21 #[.slice A n c, .int .i64 k0] w fun e w' => e = .returned (.int .i64 (mkI k0 L n)) ∧ SSF lo hi w' A n (mixI k0 L n) ∧ Wrt lo hi w w' := by
  rcases h with rfl | ⟨g, LA, LC, rfl, g1, g2, hgl, hr, hc, hD⟩
  · go_enter Try.func21, Try.ntmps21
    go_wp2
    go_loopw [1, 5] (fun q i wr => i = .int .i64 0 ∧ q = .int .i64 k0 ∧ wr = w) (fun _ i _ => 0)
    case atStart => exact ⟨rfl, rfl, rfl⟩
    case round =>
      obtain ⟨rfl, rfl, rfl⟩ := hrel
      go_wp2
      go_ret
      exact ⟨rfl, .inl rfl, Wrt.refl _ _ _⟩
  have hr0 := And.intro hgl hr
  clear hgl hr
  have HC := hid hc; clear hc
  have HD := hid hD; clear hD
  have HNN := hid hN
  have HB := hid (mkI_bd k0 L n hN hk.1); clear hN
  obtain ⟨k1, k2⟩ := hk
  go_enter Try.func21, Try.ntmps21
  go_wp2
  go_loopw [1, 5] (fun q i wr => ∃ j : Nat, j ≤ n ∧ i = .int .i64 j ∧ q = .int .i64 (mkI k0 L j) ∧ Wrt lo hi w wr ∧ (g < wr.heap.size ∧ ∀ k, k < n → wr.cell? ⟨g, k, none⟩ = some (.slice (LA k) (L.N k) (LC k))) ∧ ∀ i, i < n → OwnB lo hi wr (LA i) (L.N i) ((mixI k0 L j).Z i)) (fun _ i _ => n - (intOf i).toNat)
  case atStart => exact ⟨0, Nat.zero_le _, rfl, rfl, Wrt.refl _ _ _, hr0, fun i hi => (HC.out i hi).congrU fun t ht => by unfold mixI; simp⟩
  case round =>
    obtain ⟨j, hj, rfl, rfl, hg, hgl', ho⟩ := hrel
    have HO := hid ho; clear ho
    by_cases hlt : j < n
    · obtain ⟨b1, b2⟩ := HB.out j hj
      have hNj := HNN.out j hlt
      have hM := fun W (h : OwnB lo hi W (LA j) (L.N j) ((mixI k0 L j).Z j)) => markrow_any lo hi (LA j) (L.N j) (LC j) ((mixI k0 L j).Z j) (mkI k0 L j) W hNj (by omega) h
      have gg := hgl'.1
      have a0 : wr.cell? ⟨g, j, none⟩ = some (.slice (LA j) (L.N j) (LC j)) := hgl'.2 j hlt
      have HS := hid (show mkI k0 L (j + 1) = mkI k0 L j + L.N j from rfl)
      generalize hq : mkI k0 L j = q at hM b1 b2
      have HQ := hid hq; clear hq
      go_wp2_with fail
      refine (hM _ (HO.out j hlt)).mono ?_
      rintro e w1 ⟨rfl, hO, row, hgr, hrow⟩
      have hbl := hgr.block g gg (fun e => by
        obtain ⟨_, h0, ha⟩ := hrow g e.symm
        rcases HO.out j hlt with h | ⟨g', ha', _, _, _, hc'⟩
        · exact h0 h
        · rw [ha] at ha'
          injection ha' with ha'
          injection ha' with ha' _ _
          subst ha'
          have h1 := (hc' 0 (by omega)).1
          have h2 := hgl'.2 0 (by omega)
          rw [h1] at h2
          cases h2)
      have hr1 : g < w1.heap.size ∧ ∀ k, k < n → w1.cell? ⟨g, k, none⟩ = some (.slice (LA k) (L.N k) (LC k)) := ⟨Nat.lt_of_lt_of_le gg hgr.size, fun k hk => (World.cell?_of_block (w := wr) (a := ⟨g, k, none⟩) hbl).trans (hgl'.2 k hk)⟩
      clear hM
      go_wp2_with fail
      go_roundw
      case rel =>
        refine ⟨j + 1, by omega, by go_num, by rw [HS.out, HQ.out], hg.trans (Wrt.of_grown hgr (fun g e => (hrow g e).1)), hr1, fun i hii => ?_⟩
        by_cases e : i = j
        · subst e
          refine hO.congrU fun t ht => ?_
          unfold mixI
          simp only
          rw [if_pos (by omega), HQ.out]
        · have h3 : OwnB lo hi w1 (LA i) (L.N i) ((mixI k0 L j).Z i) := by
            by_cases h0 : L.N i = 0
            · exact .inl h0
            · exact (HO.out i hii).apart hgr (fun g' e' => .inr fun e2 => HD.out i j hii hlt e h0 (hrow g' e').2.1 (e2.trans (hrow g' e').2.2.symm))
          refine h3.congrU fun t ht => ?_
          unfold mixI
          simp only
          by_cases e3 : i < j
          · rw [if_pos e3, if_pos (by omega)]
          · rw [if_neg e3, if_neg (by omega)]
      case measure => simp [intOf]; omega
    · have hke : j = n := by omega
      subst hke
      go_wp2
      go_ret
      exact ⟨rfl, .inr ⟨g, LA, LC, rfl, g1, g2, hgl'.1, hgl'.2, HO.out, HD.out⟩, hg⟩
set_option maxRecDepth 100000 in
set_option maxHeartbeats 4000000 in
theorem heldintss_any (A : Option Addr) (n c : Nat) (L : Lls) (k0 : Int) (w : World) (hn : n ≤ 1048576) (hN : ∀ k, k < n → L.N k ≤ 1048576) (hk : 0 ≤ k0 ∧ k0 ≤ 1000000000000) (h : IntSS w A n (mixI k0 L n)) :
    Calls Try.prog 22 #[.slice A n c, .int .i64 k0] w fun e w' => e = .returned (.int .i64 (mkI k0 L n)) ∧ w = w' := by
  have HB := hid (mkI_bd k0 L n hN hk.1)
  have HNN := hid hN; clear hN
  obtain ⟨k1, k2⟩ := hk
  go_enter Try.func22, Try.ntmps22
  go_wp2
  go_loopw [1, 5] (fun q i wr => ∃ j : Nat, j ≤ n ∧ i = .int .i64 j ∧ q = .int .i64 (mkI k0 L j) ∧ w = wr) (fun _ i _ => n - (intOf i).toNat)
  case atStart => exact ⟨0, Nat.zero_le _, rfl, rfl, rfl⟩
  case round =>
    obtain ⟨j, hj, rfl, rfl, rfl⟩ := hrel
    by_cases hlt : j < n
    · rcases h with h0 | ⟨g, off, rfl, hg, hc⟩
      · omega
      obtain ⟨a, ca, g0, _, hZ⟩ := hc j hlt
      obtain ⟨b1, b2⟩ := HB.out j hj
      obtain ⟨b3, b4⟩ := HB.out (j + 1) (by omega)
      have hNj := HNN.out j hlt
      have y0 := cell_lt g0
      have e2 : (mixI k0 L n).Z j = fun t : Nat => mkI k0 L j + (t : Int) := by funext t; simp only [mixI, if_pos hlt]
      have hM := heldints_any a (L.N j) ca (mkI k0 L j) w hNj (by omega) (e2 ▸ hZ)
      have HS : mkI k0 L (j + 1) = mkI k0 L j + L.N j := rfl
      rw [← HS] at hM
      have d1 : decide (mkI k0 L (j + 1) < 0) = false := decide_eq_false (by omega)
      clear hc hZ e2
      simp only [mixI] at g0
      go_wp2_with fail
      refine hM.mono ?_
      rintro e _ ⟨rfl, rfl⟩
      go_wp2
      go_roundw
      case rel => exact ⟨j + 1, by omega, by go_num, rfl, by simp⟩
      case measure => simp [intOf]; omega
    · have hke : j = n := by omega
      subst hke
      go_wp2
      go_ret
      exact ⟨rfl, rfl⟩
set_option maxRecDepth 100000 in
set_option maxHeartbeats 4000000 in
theorem markintssH_any (lo hi : Nat) (A : Option Addr) (n c : Nat) (L : Lls) (k0 : Int) (w : World) (hn : n ≤ 1048576) (hN : ∀ k, k < n → L.N k ≤ 1048576) (hk : 0 ≤ k0 ∧ k0 ≤ 10000000000000) (h : SSB lo hi w A n L) :
    Calls Try.prog 21 #[.slice A n c, .int .i64 k0] w fun e w' => e = .returned (.int .i64 (mkI k0 L n)) ∧ SSB lo hi w' A n (mixI k0 L n) ∧ Wrt lo hi w w' := by
  obtain ⟨g, LA, LC, rfl, g1, g2, hr, hc, hD⟩ := h
  have HC := hid hc; clear hc
  have HD := hid hD; clear hD
  have HNN := hid hN
  have HB := hid (mkI_bd k0 L n hN hk.1); clear hN
  obtain ⟨k1, k2⟩ := hk
  go_enter Try.func21, Try.ntmps21
  go_wp2
  go_loopw [1, 5] (fun q i wr => ∃ j : Nat, j ≤ n ∧ i = .int .i64 j ∧ q = .int .i64 (mkI k0 L j) ∧ Wrt lo hi w wr ∧ wr.rowIs g 38 n (fun j => .slice (LA j) (L.N j) (LC j)) ∧ ∀ i, i < n → OwnB lo hi wr (LA i) (L.N i) ((mixI k0 L j).Z i)) (fun _ i _ => n - (intOf i).toNat)
  case atStart => exact ⟨0, Nat.zero_le _, rfl, rfl, Wrt.refl _ _ _, hr, fun i hi => (HC.out i hi).congrU fun t ht => by unfold mixI; simp⟩
  case round =>
    obtain ⟨j, hj, rfl, rfl, hg, hr', ho⟩ := hrel
    have HO := hid ho; clear ho
    by_cases hlt : j < n
    · obtain ⟨b1, b2⟩ := HB.out j hj
      have hNj := HNN.out j hlt
      have hM := fun W (h : OwnB lo hi W (LA j) (L.N j) ((mixI k0 L j).Z j)) => markrow_any lo hi (LA j) (L.N j) (LC j) ((mixI k0 L j).Z j) (mkI k0 L j) W hNj (by omega) h
      have gg := hr'.lt
      have a0 : wr.cell? ⟨g, j, none⟩ = some (.slice (LA j) (L.N j) (LC j)) := hr'.cell hlt
      have HS := hid (show mkI k0 L (j + 1) = mkI k0 L j + L.N j from rfl)
      generalize hq : mkI k0 L j = q at hM b1 b2
      have HQ := hid hq; clear hq
      go_wp2_with fail
      refine (hM _ (HO.out j hlt)).mono ?_
      rintro e w1 ⟨rfl, hO, row, hgr, hrow⟩
      have hr1 : w1.rowIs g 38 n (fun j => .slice (LA j) (L.N j) (LC j)) := hr'.of_block (hgr.block g gg (fun e => by
        obtain ⟨_, h0, ha⟩ := hrow g e.symm
        rcases HO.out j hlt with h | ⟨g', ha', _, _, _, hc'⟩
        · exact h0 h
        · rw [ha] at ha'
          injection ha' with ha'
          injection ha' with ha' _ _
          subst ha'
          have h1 := (hc' 0 (by omega)).1
          have h2 := hr'.cell (i := 0) (by omega)
          rw [h1] at h2
          cases h2))
      clear hM
      go_wp2_with fail
      go_roundw
      case rel =>
        refine ⟨j + 1, by omega, by go_num, by rw [HS.out, HQ.out], hg.trans (Wrt.of_grown hgr (fun g e => (hrow g e).1)), hr1, fun i hi => ?_⟩
        by_cases e : i = j
        · subst e
          refine hO.congrU fun t ht => ?_
          unfold mixI
          simp only
          rw [if_pos (by omega), HQ.out]
        · have h3 := (HO.out i hi).apart hgr (fun g' e' => .inr fun e2 => HD.out i j hi hlt e (e2.trans (hrow g' e').2.2.symm))
          refine h3.congrU fun t ht => ?_
          unfold mixI
          simp only
          by_cases e3 : i < j
          · rw [if_pos e3, if_pos (by omega)]
          · rw [if_neg e3, if_neg (by omega)]
      case measure => simp [intOf]; omega
    · have hke : j = n := by omega
      subst hke
      go_wp2
      go_ret
      exact ⟨rfl, ⟨g, LA, LC, rfl, g1, g2, hr', HO.out, HD.out⟩, hg⟩
end Go.Proofs.Ytjnngijilkdhbaa
