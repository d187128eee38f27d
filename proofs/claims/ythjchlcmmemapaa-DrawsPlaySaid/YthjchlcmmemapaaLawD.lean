/- DrawsPlay: the walk. -/
import Derived.Test.YthjchlcmmemapaaLawA
namespace Go.Proofs.Ythjchlcmmemapaa
open Go.RowKit Go.Sort
set_option linter.unusedVariables false

theorem mixed_any (B g1 g2 s : Nat) (n : Int) (w : World) (hb : Both w B g1 g2 s) :
    Calls Try.prog 16 #[.pointer (some ⟨g1, 0, none⟩), .pointer (some ⟨g2, 0, none⟩), .int .i64 n] w (Went B g1 g2 w) := by
  by_cases h : 0 ≤ n ∧ n ≤ 1000
  · obtain ⟨m, rfl⟩ := Int.eq_ofNat_of_zero_le h.1
    exact mixed_yes B g1 g2 s m (by omega) w hb
  · exact mixed_no B g1 g2 s n (by omega) w hb

set_option maxRecDepth 10000 in
set_option maxHeartbeats 16000000 in
theorem play_walk (s0 : Nat) (hs0 : s0 < 18446744073709551616) (ao : Option Addr) (n cap : Nat) (hc : n ≤ cap) (hm : cap ≤ maxLen) (W : World) (hr : OpsRd W ao n) :
    Calls Try.prog 3 #[.int .u64 (s0 : Int), .slice ao n cap] W (LawOk W) := by
  have hn : n ≤ 9223372036854775807 := Nat.le_trans hc hm
  have NE := Lib.hid (fun w hw => newG W.heap.size s0 w hw hs0)
  have HR := Lib.hid hr
  clear hr hc hm
  go_enter Try.func3, Try.ntmps3
  go_wp2_with fail
  refine (awake_any _).mono ?_; rintro e w1 ⟨rfl, b1⟩
  have B1 := Lib.hid b1; have hs1 := b1.size; clear b1
  go_wp2_with fail
  refine (NE.out w1 hs1).mono ?_; rintro e w2 ⟨q1, rfl, hq1, h1, b2⟩
  have hs2 := b2.size; have hl1 := h1.lt
  have B2 := B1.out.trans (b2.mono hs1)
  have h2 := Gen.new w2 W.heap.size s0 29 (by omega) hs0
  have bb := below_alloc (Below.refl w2.heap.size w2) (.cells #[.int .u64 (s0 : Int)] 29)
  have hb3 : Both (w2.alloc (.cells #[.int .u64 (s0 : Int)] 29)) W.heap.size q1 w2.heap.size s0 := ⟨h1.below bb, h2, by omega⟩
  have HB3 := Lib.hid hb3; have B3 := Lib.hid (below_alloc B2 (.cells #[.int .u64 (s0 : Int)] 29))
  clear h1 b2 B1 B2 h2 bb hb3
  go_wp2_with fail
  generalize w2.alloc (.cells #[.int .u64 (s0 : Int)] 29) = w3 at *
  go_loopw [6, 7, 8] (fun d v i wr => ∃ (j g1 g2 s : Nat), j ≤ n ∧ j ≤ 200 ∧ i = .int .i64 (j : Int) ∧ d = .pointer (some ⟨g1, 0, none⟩) ∧ v = .pointer (some ⟨g2, 0, none⟩) ∧ Both wr W.heap.size g1 g2 s ∧ Below W.heap.size W wr) (fun _ _ i _ => 201 - (intOf i).toNat)
  case atStart => exact ⟨0, q1, w2.heap.size, s0, by omega, by omega, rfl, rfl, rfl, HB3.out, B3.out⟩
  case round =>
    obtain ⟨j, g1, g2, s, hj1, hj2, rfl, rfl, rfl, hbo, hbl⟩ := hrel
    clear HB3 B3
    by_cases hgo : j < n ∧ j < 200
    · obtain ⟨hj3, hj4⟩ := hgo
      obtain ⟨go, oo, kind, num, x, bo, m, c, ms, rfl, hg, q0, q1', q2, q3, hnum, hx0, hx1, hms, hmc, hcm, hrd, hmb⟩ := HR.out j hj3
      obtain ⟨x, rfl⟩ := Int.eq_ofNat_of_zero_le hx0
      have q0 := (hbl.cell (p := ⟨go, oo + j * 4, none⟩) hg).trans q0
      have q1 := (hbl.cell (p := ⟨go, oo + j * 4 + 1, none⟩) hg).trans q1'
      have q2 := (hbl.cell (p := ⟨go, oo + j * 4 + 2, none⟩) hg).trans q2
      have q3 := (hbl.cell (p := ⟨go, oo + j * 4 + 3, none⟩) hg).trans q3
      have hxx : x < 18446744073709551616 := by omega
      obtain ⟨hnum0, hnum1⟩ := hnum
      have BX := Lib.hid (below_alloc hbl (.cells #[.int .i64 kind, .int .i64 num, .int .u64 (x : Int), .slice bo m c] 32))
      have HX := Lib.hid (hbo.below (below_alloc (Below.refl wr.heap.size wr) (.cells #[.int .i64 kind, .int .i64 num, .int .u64 (x : Int), .slice bo m c] 32)))
      have HRD := Lib.hid hrd; have HMS := Lib.hid hms
      have hsb := hbl.size
      have hl1 := hbo.one.lt; have hl2 := hbo.two.lt; have hb1 := hbo.one.base; have hb2 := hbo.two.base; have hne := hbo.ne; have hss := hbo.one.small
      have hoo : 0 < m → ∀ q ∈ blk bo, q < W.heap.size := fun h0 q hq => by
        obtain ⟨g', o', rfl, hg', _⟩ := HRD.out.at_ 0 (by rw [HMS.out]; omega)
        simp [blk] at hq; subst hq; exact hg'
      have HOO := Lib.hid hoo
      clear hbo hbl hrd hms q1' hx0 hx1 hoo
      by_cases k1 : kind = 1
      · subst k1
        obtain ⟨mv, hmv⟩ : ∃ mv, mixN (nx s) = mv := ⟨_, rfl⟩
        have N1 := Lib.hid (fun w h => nextG W.heap.size g1 s w h); have N2 := Lib.hid (fun w h => rnext_any W.heap.size g2 s w h)
        rw [hmv] at N1 N2
        clear hmv
        have hsw : (wr.alloc (.cells #[.int .i64 1, .int .i64 num, .int .u64 (x : Int), .slice bo m c] 32)).heap.size = wr.heap.size + 1 := by simp
        have p1 : (wr.alloc (.cells #[.int .i64 1, .int .i64 num, .int .u64 (x : Int), .slice bo m c] 32)).cell? ⟨wr.heap.size, 1, none⟩ = some (.int .i64 num) := by clear hsw; go_simp
        have p2 : (wr.alloc (.cells #[.int .i64 1, .int .i64 num, .int .u64 (x : Int), .slice bo m c] 32)).cell? ⟨wr.heap.size, 2, none⟩ = some (.int .u64 (x : Int)) := by clear hsw; go_simp
        have p3 : (wr.alloc (.cells #[.int .i64 1, .int .i64 num, .int .u64 (x : Int), .slice bo m c] 32)).cell? ⟨wr.heap.size, 3, none⟩ = some (.slice bo m c) := by clear hsw; go_simp
        have P1 := Lib.hid p1; have P2 := Lib.hid p2; have P3 := Lib.hid p3; have HSW := Lib.hid hsw
        clear p1 p2 p3 hsw
        go_wp2_with fail
        generalize wr.alloc (.cells #[.int .i64 1, .int .i64 num, .int .u64 (x : Int), .slice bo m c] 32) = wb at *
        have hsw := HSW.out; have p1 := P1.out; have p2 := P2.out; have p3 := P3.out
        clear q0 q1 q2 q3 P1 P2 P3 HSW
        refine (N1.out _ HX.out.one).mono ?_; rintro e w5 ⟨rfl, h5, k5⟩
        have hs5 := k5.size
        have H25 := Lib.hid (HX.out.two.keep k5 (by simp; omega)); have H15 := Lib.hid h5; have B5 := Lib.hid (BX.out.trans (k5.below (by omega) (by simp; omega)))
        clear h5 k5 p1 p2 p3
        go_wp2_with fail
        refine (N2.out _ H25.out).mono ?_; rintro e w6 ⟨rfl, h6, k6⟩
        have hs6 := k6.size
        have HZ := Lib.hid (show Both w6 W.heap.size g1 g2 (nx s) from ⟨H15.out.keep k6 (by simp; omega), h6, hne⟩); have BZ := Lib.hid (B5.out.trans (k6.below (by omega) (by simp; omega)))
        clear h6 k6
        have ST := Lib.hid (fun d os => Calls.regrown_of (same_below (state_any W.heap.size g1 (nx s) _ (HZ.out.one.below (below_regrown w6 d os)))))
        have r2 := cell_regrown HZ.out.two.cell
        go_wp2_with fail
        refine wp_region_quiet_below (by kernel_rfl) (by kernel_rfl) ?_
        repeat (go_big_quiet_step (exact ST.out _ _))
        refine wpQuiet_nil ?_
        intro _ hw'
        obtain ⟨⟨dq, osq⟩, hw''⟩ := hw'
        subst hw''
        have lk := below_regrown w6 dq osq
        have hszz := BZ.out.size
        clear r2
        go_wp2_with fail
        go_roundw
        case rel => exact ⟨j + 1, g1, g2, (nx s), by omega, by omega, by go_num, rfl, rfl, HZ.out.below lk, BZ.out.trans (lk.mono hszz)⟩
        case measure => (simp [intOf] <;> omega)
      · by_cases k2 : kind = 2
        · subst k2
          have SK := Lib.hid (fun w h => skipG W.heap.size g1 s x w h hxx)
          have e1 := sk_eq s x
          have hsw : (wr.alloc (.cells #[.int .i64 2, .int .i64 num, .int .u64 (x : Int), .slice bo m c] 32)).heap.size = wr.heap.size + 1 := by simp
          have p1 : (wr.alloc (.cells #[.int .i64 2, .int .i64 num, .int .u64 (x : Int), .slice bo m c] 32)).cell? ⟨wr.heap.size, 1, none⟩ = some (.int .i64 num) := by clear hsw; go_simp
          have p2 : (wr.alloc (.cells #[.int .i64 2, .int .i64 num, .int .u64 (x : Int), .slice bo m c] 32)).cell? ⟨wr.heap.size, 2, none⟩ = some (.int .u64 (x : Int)) := by clear hsw; go_simp
          have p3 : (wr.alloc (.cells #[.int .i64 2, .int .i64 num, .int .u64 (x : Int), .slice bo m c] 32)).cell? ⟨wr.heap.size, 3, none⟩ = some (.slice bo m c) := by clear hsw; go_simp
          have P1 := Lib.hid p1; have P2 := Lib.hid p2; have P3 := Lib.hid p3; have HSW := Lib.hid hsw
          clear p1 p2 p3 hsw
          go_wp2_with fail
          generalize wr.alloc (.cells #[.int .i64 2, .int .i64 num, .int .u64 (x : Int), .slice bo m c] 32) = wb at *
          have hsw := HSW.out; have p1 := P1.out; have p2 := P2.out; have p3 := P3.out
          clear q0 q1 q2 q3 P1 P2 P3 HSW
          refine (SK.out _ HX.out.one).mono ?_; rintro e w5 ⟨rfl, h5, k5⟩
          have hs5 := k5.size
          have h25 := HX.out.two.keep k5 (by simp; omega)
          have H15 := Lib.hid h5; have H25 := Lib.hid h25; have B5 := Lib.hid (BX.out.trans (k5.below (by omega) (by simp; omega)))
          have p2 := (k5.cell (a := ⟨wr.heap.size, 2, none⟩) (by show wr.heap.size < _; omega) (by simp; omega)).trans p2
          have hc := h25.cell; have hf := h25.free; have hl := h25.lt
          clear h5 k5 p1 p3 h25
          go_wp2_with fail
          go_region_with (refine (a_any _).mono ?_; rintro e w1 ⟨rfl, rfl⟩)
          all_goals
            obtain ⟨wz, hwz⟩ : ∃ wz, wz = (w5.setCell ⟨g2, 0, none⟩ (.int .u64 (sk s x : Nat))).drew := ⟨_, rfl⟩
            have kz : Keep [g2] w5 wz := by rw [hwz]; exact (Keep.setCell w5 ⟨g2, 0, none⟩ _).trans (Keep.of_below (Below.refl _ _).drew _)
            have gz : Gen wz W.heap.size g2 (sk s x) := by rw [hwz]; exact (H25.out.set _ (sk_lt s x)).below (Below.refl _ _).drew
            have HZ := Lib.hid (show Both wz W.heap.size g1 g2 (sk s x) from ⟨H15.out.keep kz (by simp; omega), gz, hne⟩); have BZ := Lib.hid (B5.out.trans (kz.below (by omega) (by simp; omega)))
            rw [← hwz]
            clear hwz kz gz hc hf hl p2 e1
            have ST := Lib.hid (fun d os => Calls.regrown_of (same_below (state_any W.heap.size g1 (sk s x) _ (HZ.out.one.below (below_regrown wz d os)))))
            have r2 := cell_regrown HZ.out.two.cell
            go_wp2_with fail
            refine wp_region_quiet_below (by kernel_rfl) (by kernel_rfl) ?_
            repeat (go_big_quiet_step (exact ST.out _ _))
            refine wpQuiet_nil ?_
            intro _ hw'
            obtain ⟨⟨dq, osq⟩, hw''⟩ := hw'
            subst hw''
            have lk := below_regrown wz dq osq
            have hszz := BZ.out.size
            clear r2
            go_wp2_with fail
            go_roundw
            case rel => exact ⟨j + 1, g1, g2, (sk s x), by omega, by omega, by go_num, rfl, rfl, HZ.out.below lk, BZ.out.trans (lk.mono hszz)⟩
            case measure => (simp [intOf] <;> omega)
        · by_cases k3 : kind = 3
          · subst k3
            by_cases hn1 : num < 1
            · have BN := Lib.hid (fun w => belowN_no (some ⟨g1, 0, none⟩) num (.inr hn1) w)
              have hsw : (wr.alloc (.cells #[.int .i64 3, .int .i64 num, .int .u64 (x : Int), .slice bo m c] 32)).heap.size = wr.heap.size + 1 := by simp
              have p1 : (wr.alloc (.cells #[.int .i64 3, .int .i64 num, .int .u64 (x : Int), .slice bo m c] 32)).cell? ⟨wr.heap.size, 1, none⟩ = some (.int .i64 num) := by clear hsw; go_simp
              have p2 : (wr.alloc (.cells #[.int .i64 3, .int .i64 num, .int .u64 (x : Int), .slice bo m c] 32)).cell? ⟨wr.heap.size, 2, none⟩ = some (.int .u64 (x : Int)) := by clear hsw; go_simp
              have p3 : (wr.alloc (.cells #[.int .i64 3, .int .i64 num, .int .u64 (x : Int), .slice bo m c] 32)).cell? ⟨wr.heap.size, 3, none⟩ = some (.slice bo m c) := by clear hsw; go_simp
              have P1 := Lib.hid p1; have P2 := Lib.hid p2; have P3 := Lib.hid p3; have HSW := Lib.hid hsw
              clear p1 p2 p3 hsw
              go_wp2_with fail
              generalize wr.alloc (.cells #[.int .i64 3, .int .i64 num, .int .u64 (x : Int), .slice bo m c] 32) = wb at *
              have hsw := HSW.out; have p1 := P1.out; have p2 := P2.out; have p3 := P3.out
              clear q0 q1 q2 q3 P1 P2 P3 HSW
              refine (BN.out _).mono ?_; rintro e w5 ⟨rfl, rfl⟩
              have ST := Lib.hid (fun d os => Calls.regrown_of (same_below (state_any W.heap.size g1 s _ (HX.out.one.below (below_regrown wb d os)))))
              have r2 := cell_regrown HX.out.two.cell
              go_wp2_with fail
              refine wp_region_quiet_below (by kernel_rfl) (by kernel_rfl) ?_
              repeat (go_big_quiet_step (exact ST.out _ _))
              refine wpQuiet_nil ?_
              intro _ hw'
              obtain ⟨⟨dq, osq⟩, hw''⟩ := hw'
              subst hw''
              have lk := below_regrown wb dq osq
              have hszz := BX.out.size
              clear r2
              go_wp2_with fail
              go_roundw
              case rel => exact ⟨j + 1, g1, g2, s, by omega, by omega, by go_num, rfl, rfl, HX.out.below lk, BX.out.trans (lk.mono hszz)⟩
              case measure => (simp [intOf] <;> omega)
            · obtain ⟨nn, rfl⟩ := Int.eq_ofNat_of_zero_le (show 0 ≤ num by omega)
              have hbl := bel_lt s nn (by omega)
              have N1 := Lib.hid (fun w h => belowN_any W.heap.size g1 s w h nn (by omega) (by omega)); have N2 := Lib.hid (fun w h => rbelow_any W.heap.size g2 s w h nn (by omega))
              obtain ⟨bv, hbv⟩ : ∃ bv, bel s nn = bv := ⟨_, rfl⟩
              rw [hbv] at N1 N2 hbl
              clear hbv
              have hsw : (wr.alloc (.cells #[.int .i64 3, .int .i64 (nn : Int), .int .u64 (x : Int), .slice bo m c] 32)).heap.size = wr.heap.size + 1 := by simp
              have p1 : (wr.alloc (.cells #[.int .i64 3, .int .i64 (nn : Int), .int .u64 (x : Int), .slice bo m c] 32)).cell? ⟨wr.heap.size, 1, none⟩ = some (.int .i64 (nn : Int)) := by clear hsw; go_simp
              have p2 : (wr.alloc (.cells #[.int .i64 3, .int .i64 (nn : Int), .int .u64 (x : Int), .slice bo m c] 32)).cell? ⟨wr.heap.size, 2, none⟩ = some (.int .u64 (x : Int)) := by clear hsw; go_simp
              have p3 : (wr.alloc (.cells #[.int .i64 3, .int .i64 (nn : Int), .int .u64 (x : Int), .slice bo m c] 32)).cell? ⟨wr.heap.size, 3, none⟩ = some (.slice bo m c) := by clear hsw; go_simp
              have P1 := Lib.hid p1; have P2 := Lib.hid p2; have P3 := Lib.hid p3; have HSW := Lib.hid hsw
              clear p1 p2 p3 hsw
              go_wp2_with fail
              generalize wr.alloc (.cells #[.int .i64 3, .int .i64 (nn : Int), .int .u64 (x : Int), .slice bo m c] 32) = wb at *
              have hsw := HSW.out; have p1 := P1.out; have p2 := P2.out; have p3 := P3.out
              clear q0 q1 q2 q3 P1 P2 P3 HSW
              refine (N1.out _ HX.out.one).mono ?_; rintro e w5 ⟨rfl, h5, k5⟩
              have hs5 := k5.size
              have H25 := Lib.hid (HX.out.two.keep k5 (by simp; omega)); have H15 := Lib.hid h5; have B5 := Lib.hid (BX.out.trans (k5.below (by omega) (by simp; omega)))
              have p1 := (k5.cell (a := ⟨wr.heap.size, 1, none⟩) (by show wr.heap.size < _; omega) (by simp; omega)).trans p1
              clear h5 k5 p2 p3
              go_wp2_with fail
              refine (N2.out _ H25.out).mono ?_; rintro e w6 ⟨rfl, h6, k6⟩
              have hs6 := k6.size
              have HZ := Lib.hid (show Both w6 W.heap.size g1 g2 (nx s) from ⟨H15.out.keep k6 (by simp; omega), h6, hne⟩); have BZ := Lib.hid (B5.out.trans (k6.below (by omega) (by simp; omega)))
              clear h6 k6 p1
              have ST := Lib.hid (fun d os => Calls.regrown_of (same_below (state_any W.heap.size g1 (nx s) _ (HZ.out.one.below (below_regrown w6 d os)))))
              have r2 := cell_regrown HZ.out.two.cell
              go_wp2_with fail
              refine wp_region_quiet_below (by kernel_rfl) (by kernel_rfl) ?_
              repeat (go_big_quiet_step (exact ST.out _ _))
              refine wpQuiet_nil ?_
              intro _ hw'
              obtain ⟨⟨dq, osq⟩, hw''⟩ := hw'
              subst hw''
              have lk := below_regrown w6 dq osq
              have hszz := BZ.out.size
              clear r2
              go_wp2_with fail
              go_roundw
              case rel => exact ⟨j + 1, g1, g2, (nx s), by omega, by omega, by go_num, rfl, rfl, HZ.out.below lk, BZ.out.trans (lk.mono hszz)⟩
              case measure => (simp [intOf] <;> omega)
          · by_cases k4 : kind = 4
            · subst k4
              have hsw : (wr.alloc (.cells #[.int .i64 4, .int .i64 num, .int .u64 (x : Int), .slice bo m c] 32)).heap.size = wr.heap.size + 1 := by simp
              have p1 : (wr.alloc (.cells #[.int .i64 4, .int .i64 num, .int .u64 (x : Int), .slice bo m c] 32)).cell? ⟨wr.heap.size, 1, none⟩ = some (.int .i64 num) := by clear hsw; go_simp
              have p2 : (wr.alloc (.cells #[.int .i64 4, .int .i64 num, .int .u64 (x : Int), .slice bo m c] 32)).cell? ⟨wr.heap.size, 2, none⟩ = some (.int .u64 (x : Int)) := by clear hsw; go_simp
              have p3 : (wr.alloc (.cells #[.int .i64 4, .int .i64 num, .int .u64 (x : Int), .slice bo m c] 32)).cell? ⟨wr.heap.size, 3, none⟩ = some (.slice bo m c) := by clear hsw; go_simp
              have P1 := Lib.hid p1; have P2 := Lib.hid p2; have P3 := Lib.hid p3; have HSW := Lib.hid hsw
              clear p1 p2 p3 hsw
              go_wp2_with fail
              generalize wr.alloc (.cells #[.int .i64 4, .int .i64 num, .int .u64 (x : Int), .slice bo m c] 32) = wb at *
              have hsw := HSW.out; have p1 := P1.out; have p2 := P2.out; have p3 := P3.out
              clear q0 q1 q2 q3 P1 P2 P3 HSW
              refine (picked_any W.heap.size g1 g2 s m bo c ms HMS.out hmb HOO.out wb (HRD.out.below BX.out) HX.out).mono ?_; rintro e w5 ⟨s', rfl, h5, k5⟩
              have HZ := Lib.hid h5; have BZ := Lib.hid (BX.out.trans (k5.below (by omega) (by simp; omega)))
              clear h5 k5 p1 p2 p3
              have ST := Lib.hid (fun d os => Calls.regrown_of (same_below (state_any W.heap.size g1 s' _ (HZ.out.one.below (below_regrown w5 d os)))))
              have r2 := cell_regrown HZ.out.two.cell
              go_wp2_with fail
              refine wp_region_quiet_below (by kernel_rfl) (by kernel_rfl) ?_
              repeat (go_big_quiet_step (exact ST.out _ _))
              refine wpQuiet_nil ?_
              intro _ hw'
              obtain ⟨⟨dq, osq⟩, hw''⟩ := hw'
              subst hw''
              have lk := below_regrown w5 dq osq
              have hszz := BZ.out.size
              clear r2
              go_wp2_with fail
              go_roundw
              case rel => exact ⟨j + 1, g1, g2, s', by omega, by omega, by go_num, rfl, rfl, HZ.out.below lk, BZ.out.trans (lk.mono hszz)⟩
              case measure => (simp [intOf] <;> omega)
            · by_cases k5 : kind = 5
              · subst k5
                have hsw : (wr.alloc (.cells #[.int .i64 5, .int .i64 num, .int .u64 (x : Int), .slice bo m c] 32)).heap.size = wr.heap.size + 1 := by simp
                have p1 : (wr.alloc (.cells #[.int .i64 5, .int .i64 num, .int .u64 (x : Int), .slice bo m c] 32)).cell? ⟨wr.heap.size, 1, none⟩ = some (.int .i64 num) := by clear hsw; go_simp
                have p2 : (wr.alloc (.cells #[.int .i64 5, .int .i64 num, .int .u64 (x : Int), .slice bo m c] 32)).cell? ⟨wr.heap.size, 2, none⟩ = some (.int .u64 (x : Int)) := by clear hsw; go_simp
                have p3 : (wr.alloc (.cells #[.int .i64 5, .int .i64 num, .int .u64 (x : Int), .slice bo m c] 32)).cell? ⟨wr.heap.size, 3, none⟩ = some (.slice bo m c) := by clear hsw; go_simp
                have P1 := Lib.hid p1; have P2 := Lib.hid p2; have P3 := Lib.hid p3; have HSW := Lib.hid hsw
                clear p1 p2 p3 hsw
                go_wp2_with fail
                generalize wr.alloc (.cells #[.int .i64 5, .int .i64 num, .int .u64 (x : Int), .slice bo m c] 32) = wb at *
                have hsw := HSW.out; have p1 := P1.out; have p2 := P2.out; have p3 := P3.out
                clear q0 q1 q2 q3 P1 P2 P3 HSW
                refine (mixed_any W.heap.size g1 g2 s num wb HX.out).mono ?_; rintro e w5 ⟨s', rfl, h5, k5⟩
                have HZ := Lib.hid h5; have BZ := Lib.hid (BX.out.trans (k5.below (by omega) (by simp; omega)))
                clear h5 k5 p1 p2 p3
                have ST := Lib.hid (fun d os => Calls.regrown_of (same_below (state_any W.heap.size g1 s' _ (HZ.out.one.below (below_regrown w5 d os)))))
                have r2 := cell_regrown HZ.out.two.cell
                go_wp2_with fail
                refine wp_region_quiet_below (by kernel_rfl) (by kernel_rfl) ?_
                repeat (go_big_quiet_step (exact ST.out _ _))
                refine wpQuiet_nil ?_
                intro _ hw'
                obtain ⟨⟨dq, osq⟩, hw''⟩ := hw'
                subst hw''
                have lk := below_regrown w5 dq osq
                have hszz := BZ.out.size
                clear r2
                go_wp2_with fail
                go_roundw
                case rel => exact ⟨j + 1, g1, g2, s', by omega, by omega, by go_num, rfl, rfl, HZ.out.below lk, BZ.out.trans (lk.mono hszz)⟩
                case measure => (simp [intOf] <;> omega)
              · by_cases k6 : kind = 6
                · subst k6
                  have FO := Lib.hid (fun w h => fork_any W.heap.size g1 s w h x hxx); have RF := Lib.hid (fun w h => rfork_any W.heap.size g2 s w h x hxx); have N1 := Lib.hid (fun w h => nextG W.heap.size g1 s w h)
                  have hfl := fk_lt s x
                  have hsw : (wr.alloc (.cells #[.int .i64 6, .int .i64 num, .int .u64 (x : Int), .slice bo m c] 32)).heap.size = wr.heap.size + 1 := by simp
                  have p1 : (wr.alloc (.cells #[.int .i64 6, .int .i64 num, .int .u64 (x : Int), .slice bo m c] 32)).cell? ⟨wr.heap.size, 1, none⟩ = some (.int .i64 num) := by clear hsw; go_simp
                  have p2 : (wr.alloc (.cells #[.int .i64 6, .int .i64 num, .int .u64 (x : Int), .slice bo m c] 32)).cell? ⟨wr.heap.size, 2, none⟩ = some (.int .u64 (x : Int)) := by clear hsw; go_simp
                  have p3 : (wr.alloc (.cells #[.int .i64 6, .int .i64 num, .int .u64 (x : Int), .slice bo m c] 32)).cell? ⟨wr.heap.size, 3, none⟩ = some (.slice bo m c) := by clear hsw; go_simp
                  have P1 := Lib.hid p1; have P2 := Lib.hid p2; have P3 := Lib.hid p3; have HSW := Lib.hid hsw
                  clear p1 p2 p3 hsw
                  go_wp2_with fail
                  generalize wr.alloc (.cells #[.int .i64 6, .int .i64 num, .int .u64 (x : Int), .slice bo m c] 32) = wb at *
                  have hsw := HSW.out; have p1 := P1.out; have p2 := P2.out; have p3 := P3.out
                  clear q0 q1 q2 q3 P1 P2 P3 HSW
                  refine (FO.out _ HX.out.one).mono ?_; rintro e w5 ⟨rfl, hw5⟩
                  obtain ⟨q5, hq5⟩ : ∃ q5, q5 = wb.heap.size := ⟨_, rfl⟩
                  rw [← hq5]
                  have g5 : Gen w5 W.heap.size q5 (fk s x) := by rw [hw5, hq5]; exact Gen.new wb W.heap.size _ _ (by omega) hfl
                  have b5 : Below wb.heap.size wb w5 := by rw [hw5]; exact below_alloc (Below.refl _ _) _
                  have hs5 : w5.heap.size = wb.heap.size + 1 := by rw [hw5]; simp
                  have H5 := Lib.hid (HX.out.below b5); have G5 := Lib.hid g5; have B5 := Lib.hid (BX.out.trans (b5.mono (by omega)))
                  have p2 := (b5.cell (p := ⟨wr.heap.size, 2, none⟩) (by show wr.heap.size < _; omega)).trans p2
                  have hq5a : wr.heap.size < q5 := by omega
                  have hq5b : q5 < w5.heap.size := by omega
                  have hs5' : wr.heap.size < w5.heap.size := by omega
                  clear hw5 g5 b5 p1 p3 hq5 hs5
                  go_wp2_with fail
                  refine (N1.out _ H5.out.one).mono ?_; rintro e w6 ⟨rfl, h6, k6⟩
                  have hs6 := k6.size
                  have H26 := Lib.hid (H5.out.two.keep k6 (by simp; omega)); have G6 := Lib.hid (G5.out.keep k6 (by simp; omega)); have B6 := Lib.hid (B5.out.trans (k6.below (by omega) (by simp; omega)))
                  have p2 := (k6.cell (a := ⟨wr.heap.size, 2, none⟩) (by show wr.heap.size < _; omega) (by simp; omega)).trans p2
                  clear h6 k6
                  go_wp2_with fail
                  refine (RF.out _ H26.out).mono ?_; rintro e w7 ⟨q7, rfl, hq7, h7, b7⟩
                  have HZ := Lib.hid (show Both w7 W.heap.size q5 q7 (fk s x) from ⟨G6.out.below b7, h7, by omega⟩); have BZ := Lib.hid (B6.out.trans (b7.mono (by omega)))
                  clear h7 b7 p2
                  have ST := Lib.hid (fun d os => Calls.regrown_of (same_below (state_any W.heap.size q5 (fk s x) _ (HZ.out.one.below (below_regrown w7 d os)))))
                  have r2 := cell_regrown HZ.out.two.cell
                  go_wp2_with fail
                  refine wp_region_quiet_below (by kernel_rfl) (by kernel_rfl) ?_
                  repeat (go_big_quiet_step (exact ST.out _ _))
                  refine wpQuiet_nil ?_
                  intro _ hw'
                  obtain ⟨⟨dq, osq⟩, hw''⟩ := hw'
                  subst hw''
                  have lk := below_regrown w7 dq osq
                  have hszz := BZ.out.size
                  clear r2
                  go_wp2_with fail
                  go_roundw
                  case rel => exact ⟨j + 1, q5, q7, (fk s x), by omega, by omega, by go_num, rfl, rfl, HZ.out.below lk, BZ.out.trans (lk.mono hszz)⟩
                  case measure => (simp [intOf] <;> omega)
                · have hsw : (wr.alloc (.cells #[.int .i64 kind, .int .i64 num, .int .u64 (x : Int), .slice bo m c] 32)).heap.size = wr.heap.size + 1 := by simp
                  have p1 : (wr.alloc (.cells #[.int .i64 kind, .int .i64 num, .int .u64 (x : Int), .slice bo m c] 32)).cell? ⟨wr.heap.size, 1, none⟩ = some (.int .i64 num) := by clear hsw; go_simp
                  have p2 : (wr.alloc (.cells #[.int .i64 kind, .int .i64 num, .int .u64 (x : Int), .slice bo m c] 32)).cell? ⟨wr.heap.size, 2, none⟩ = some (.int .u64 (x : Int)) := by clear hsw; go_simp
                  have p3 : (wr.alloc (.cells #[.int .i64 kind, .int .i64 num, .int .u64 (x : Int), .slice bo m c] 32)).cell? ⟨wr.heap.size, 3, none⟩ = some (.slice bo m c) := by clear hsw; go_simp
                  have P1 := Lib.hid p1; have P2 := Lib.hid p2; have P3 := Lib.hid p3; have HSW := Lib.hid hsw
                  clear p1 p2 p3 hsw
                  go_wp2_with fail
                  generalize wr.alloc (.cells #[.int .i64 kind, .int .i64 num, .int .u64 (x : Int), .slice bo m c] 32) = wb at *
                  have hsw := HSW.out; have p1 := P1.out; have p2 := P2.out; have p3 := P3.out
                  clear q0 q1 q2 q3 P1 P2 P3 HSW
                  have ST := Lib.hid (fun d os => Calls.regrown_of (same_below (state_any W.heap.size g1 s _ (HX.out.one.below (below_regrown wb d os)))))
                  have r2 := cell_regrown HX.out.two.cell
                  go_wp2_with fail
                  refine wp_region_quiet_below (by kernel_rfl) (by kernel_rfl) ?_
                  repeat (go_big_quiet_step (exact ST.out _ _))
                  refine wpQuiet_nil ?_
                  intro _ hw'
                  obtain ⟨⟨dq, osq⟩, hw''⟩ := hw'
                  subst hw''
                  have lk := below_regrown wb dq osq
                  have hszz := BX.out.size
                  clear r2
                  go_wp2_with fail
                  go_roundw
                  case rel => exact ⟨j + 1, g1, g2, s, by omega, by omega, by go_num, rfl, rfl, HX.out.below lk, BX.out.trans (lk.mono hszz)⟩
                  case measure => (simp [intOf] <;> omega)
    · by_cases hj : j < n
      · have hj' : ¬ j < 200 := fun h => hgo ⟨hj, h⟩
        have BZ := Lib.hid hbl
        clear hbo hbl hgo
        go_wp2_with fail
        go_ret
        exact ⟨rfl, BZ.out⟩
      · have BZ := Lib.hid hbl
        clear hbo hbl hgo
        go_wp2_with fail
        go_ret
        exact ⟨rfl, BZ.out⟩

theorem drawsPlay_law (s : Int) (ws : (Lit.int .u64 s).wf = true) (ao : Option Addr) (n cap : Nat) (hc : n ≤ cap) (hm : cap ≤ maxLen) (W : World) (hr : OpsRd W ao n) :
    Calls Try.prog 3 #[.int .u64 s, .slice ao n cap] W (LawOk W) := by
  have bs := bounds_u64 ws
  obtain ⟨x, rfl⟩ := Int.eq_ofNat_of_zero_le bs.1
  exact play_walk x (by omega) ao n cap hc hm W hr
end Go.Proofs.Ythjchlcmmemapaa
