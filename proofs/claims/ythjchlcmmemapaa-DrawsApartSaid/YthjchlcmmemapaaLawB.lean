/- DrawsApart: the walk. -/
import Derived.Test.YthjchlcmmemapaaLawA
namespace Go.Proofs.Ythjchlcmmemapaa
open Go.RowKit Go.Sort
set_option linter.unusedVariables false

theorem sk_state (a k : Nat) (ha : a < 18446744073709551616) : ∀ k, sk a k < 18446744073709551616 := fun k => sk_lt a k

set_option maxHeartbeats 8000000 in
theorem apart_walk (a b : Nat) (ha : a < 18446744073709551616) (hb : b < 18446744073709551616) (skip : Int) (N : Nat) (hN : N < 500) (hsk : (0 ≤ skip ∧ skip ≤ 9223372036854775807 ∧ skip % 500 = N) ∨ (skip < 0 ∧ -9223372036854775808 ≤ skip ∧ (-(skip + 1)) % 500 = N)) (W : World) :
    Calls Try.prog 4 #[.int .u64 (a : Int), .int .u64 (b : Int), .int .i64 skip] W (LawOk W) := by
  obtain ⟨eq, heq⟩ : ∃ eq, decide (((mixN (nx a) : Nat) : Int) = (mixN (nx b) : Nat)) = eq := ⟨_, rfl⟩
  have heq2 : decide ((a : Int) = b) = eq := by
    rw [← heq]
    by_cases h : a = b
    · subst h; simp
    · rw [decide_eq_false (by omega), decide_eq_false]
      intro hm
      have h1 := mixN_inj (nx_lt a) (nx_lt b) (by omega)
      unfold nx at h1
      omega
  have NA := Lib.hid (fun w hw => newG W.heap.size a w hw ha)
  have NB := Lib.hid (fun w hw => newG W.heap.size b w hw hb)
  have XA := Lib.hid (fun g w h => nextG W.heap.size g a w h)
  have XB := Lib.hid (fun g w h => nextG W.heap.size g b w h)
  obtain ⟨mA, hA⟩ : ∃ m, mixN (nx a) = m := ⟨_, rfl⟩
  obtain ⟨mB, hB⟩ : ∃ m, mixN (nx b) = m := ⟨_, rfl⟩
  rw [hA] at XA heq
  rw [hB] at XB heq
  clear hA hB
  have XK := Lib.hid (fun k g w h => nextG W.heap.size g (sk a k) w h)
  have XE := Lib.hid (fun g w h => nextG W.heap.size g (sk a N) w h)
  obtain ⟨mE, hE⟩ : ∃ m, mixN (nx (sk a N)) = m := ⟨_, rfl⟩
  rw [hE] at XE
  clear hE
  have ST := Lib.hid (fun g w h => state_any W.heap.size g (sk a N) w h)
  have hbeq : ((mA : Int) == (mB : Int)) = eq := by rw [← heq]; rfl
  have hbeq2 : ((a : Int) == (b : Int)) = eq := by rw [← heq2]; rfl
  have SK := Lib.hid (fun g w h => skipG W.heap.size g a N w h (by omega))
  have S0 := Lib.hid (sk_zero a ha)
  have SS := Lib.hid (sk_succ a)
  go_enter Try.func4, Try.ntmps4
  go_wp2_with fail
  refine (awake_any _).mono ?_; rintro e w1 ⟨rfl, b1⟩
  have B1 := Lib.hid b1; have hs1 := b1.size; clear b1
  go_wp2_with fail
  refine (NA.out w1 hs1).mono ?_; rintro e w2 ⟨g1, rfl, hg1, h1, b2⟩
  have hs2 := b2.size; have hl1 := h1.lt
  have H1 := Lib.hid h1; have B2 := Lib.hid (B1.out.trans (b2.mono hs1)); clear h1 b2 B1
  go_wp2_with fail
  refine (NB.out w2 (by omega)).mono ?_; rintro e w3 ⟨g2, rfl, hg2, h2, b3⟩
  have hs3 := b3.size; have hl2 := h2.lt
  have H13 := Lib.hid (H1.out.below b3); have H2 := Lib.hid h2; have B3 := Lib.hid (B2.out.trans (b3.mono (by omega))); clear h2 b3 B2 H1
  go_wp2_with fail
  refine (NA.out w3 (by omega)).mono ?_; rintro e w4 ⟨g3, rfl, hg3, h3, b4⟩
  have hs4 := b4.size; have hl3 := h3.lt
  have H1 := Lib.hid (H13.out.below b4); have H24 := Lib.hid (H2.out.below b4); have H3 := Lib.hid h3; have B4 := Lib.hid (B3.out.trans (b4.mono (by omega))); clear h3 b4 B3 H13 H2
  have hx : ∀ (t : Nat), True := fun _ => trivial
  obtain ⟨t, hskip, ht, htN⟩ : ∃ t : Nat, (skip = (t : Int) ∨ skip = -(t : Int) - 1) ∧ t ≤ 9223372036854775807 ∧ (t : Int) % 500 = N := by
    rcases hsk with ⟨c1, c2, c3⟩ | ⟨c1, c2, c3⟩
    · exact ⟨skip.toNat, .inl (by omega), by omega, by omega⟩
    · exact ⟨(-(skip + 1)).toNat, .inr (by omega), by omega, by omega⟩
  clear hsk hx
  rcases hskip with rfl | rfl
  all_goals
    go_wp2_with fail
    refine (XA.out g1 _ H1.out).mono ?_; rintro e w5 ⟨rfl, h5, k5⟩
    have hs5 := k5.size
    have H25 := Lib.hid (H24.out.keep k5 (by simp; omega)); have H35 := Lib.hid (H3.out.keep k5 (by simp; omega)); have B5 := Lib.hid (B4.out.trans (k5.below (by omega) (by simp; omega)))
    clear h5 k5
    go_wp2_with fail
    refine (XB.out g2 _ H25.out).mono ?_; rintro e w6 ⟨rfl, h6, k6⟩
    have hs6 := k6.size
    have H36 := Lib.hid (H35.out.keep k6 (by simp; omega)); have B6 := Lib.hid (B5.out.trans (k6.below (by omega) (by simp; omega)))
    clear h6 k6
    go_wp2_with fail
    refine (NA.out w6 (by omega)).mono ?_; rintro e w7 ⟨g4, rfl, hg4, h4, b7⟩
    have hs7 := b7.size; have hl4 := h4.lt
    have H47 := Lib.hid h4; have H37 := Lib.hid (H36.out.below b7); have B7 := Lib.hid (B6.out.trans (b7.mono (by omega)))
    clear h4 b7
    go_wp2_with fail
    go_loopw [12] (fun i wr => ∃ k : Nat, k ≤ N ∧ i = .int .i64 (k : Int) ∧ Gen wr W.heap.size g4 (sk a k) ∧ Gen wr W.heap.size g3 a ∧ Below W.heap.size W wr ∧ w7.heap.size ≤ wr.heap.size) (fun i _ => N - (intOf i).toNat)
    case atStart => exact ⟨0, by omega, rfl, by rw [S0.out]; exact H47.out, H37.out, B7.out, Nat.le_refl _⟩
    case round =>
      obtain ⟨k, hk, rfl, h4, h3, hb, hsz⟩ := hrel
      have H4 := Lib.hid h4; have H3 := Lib.hid h3; have HB := Lib.hid hb
      have hln := h4.lt
      clear h4 h3 hb
      by_cases hlt : k < N
      · go_wp2_with fail
        refine (XK.out k g4 _ H4.out).mono ?_; rintro e w8 ⟨rfl, h8, k8⟩
        have hs8 := k8.size
        have H38 := Lib.hid (H3.out.keep k8 (by simp; omega)); have B8 := Lib.hid (HB.out.trans (k8.below (by omega) (by simp; omega)))
        have H48 := Lib.hid (show Gen w8 W.heap.size g4 (sk a (k + 1)) by rw [SS.out]; exact h8)
        clear h8 k8
        go_wp2_with fail
        go_roundw
        case rel => exact ⟨k + 1, by omega, by go_num, H48.out, H38.out, B8.out, by omega⟩
        case measure => simp [intOf]; omega
      · obtain rfl : k = N := by omega
        go_wp2_with fail
        refine (SK.out g3 _ H3.out).mono ?_; rintro e w8 ⟨rfl, h8, k8⟩
        have hs8 := k8.size
        have H48 := Lib.hid (H4.out.keep k8 (by simp; omega)); have B8 := Lib.hid (HB.out.trans (k8.below (by omega) (by simp; omega))); have H38 := Lib.hid h8
        clear h8 k8
        go_wp2_with fail
        refine (ST.out g4 _ H48.out).mono ?_; rintro e w9 ⟨rfl, rfl⟩
        go_wp2_with fail
        refine (ST.out g3 _ H38.out).mono ?_; rintro e w9 ⟨rfl, rfl⟩
        go_wp2_with fail
        refine (XE.out g4 _ H48.out).mono ?_; rintro e w9 ⟨rfl, h9, k9⟩
        have hs9 := k9.size
        have H39 := Lib.hid (H38.out.keep k9 (by simp; omega)); have B9 := Lib.hid (B8.out.trans (k9.below (by omega) (by simp; omega)))
        clear h9 k9
        go_wp2_with fail
        refine (XE.out g3 _ H39.out).mono ?_; rintro e w10 ⟨rfl, h10, k10⟩
        have B10 := Lib.hid (B9.out.trans (k10.below (by omega) (by simp; omega)))
        clear h10 k10
        go_wp2_with fail
        go_ret
        refine ⟨ret_bool ?_, B10.out⟩
        simp
theorem drawsApart_law (a : Int) (wa : (Lit.int .u64 a).wf = true) (b : Int) (wb : (Lit.int .u64 b).wf = true) (skip : Int) (ws : (Lit.int .i64 skip).wf = true) (W : World) :
    Calls Try.prog 4 #[.int .u64 a, .int .u64 b, .int .i64 skip] W (LawOk W) := by
  have ba := bounds_u64 wa; have bb := bounds_u64 wb; have bs := bounds_i64 ws
  obtain ⟨x, rfl⟩ := Int.eq_ofNat_of_zero_le ba.1
  obtain ⟨y, rfl⟩ := Int.eq_ofNat_of_zero_le bb.1
  by_cases h : 0 ≤ skip
  · exact apart_walk x y (by omega) (by omega) skip (skip % 500).toNat (by omega) (.inl ⟨h, bs.2, by omega⟩) W
  · exact apart_walk x y (by omega) (by omega) skip ((-(skip + 1)) % 500).toNat (by omega) (.inr ⟨by omega, bs.1, by omega⟩) W
end Go.Proofs.Ythjchlcmmemapaa
