/- KeysFour: the walk. -/
import Derived.Test.YtdfgmjpoabgllaaTurnsBase
import Derived.Test.YtdfgmjpoabgllaaHolds
import Derived.Deep.RegionHeld3
import Derived.Deep.LoopGhost
import Derived.Deep.DeepCutAuto
import Derived.BigQuiet
namespace Go.Proofs.Ytdfgmjpoabgllaa
open Go.RowKit
set_option linter.unusedVariables false

/-- the cells that the loop reads: the position, the four homes -/
def FourL (w : World) (H : Nat) (u l b : Int) : List (Addr × Value) := [(⟨w.heap.size, 0, none⟩, .int .u64 u), (⟨w.heap.size, 1, none⟩, .int .u64 l), (⟨H, 0, none⟩, .int .i64 b), (⟨H, 1, none⟩, .int .i64 ((b + 16) % 64)), (⟨H, 2, none⟩, .int .i64 ((b + 32) % 64)), (⟨H, 3, none⟩, .int .i64 ((b + 48) % 64))]
theorem Holds.fourL {w wr : World} {H : Nat} {u l b : Int} (h : Holds wr (FourL w H u l b)) :
    (wr.cell? ⟨w.heap.size, 0, none⟩ = some (.int .u64 u) ∧ wr.cell? ⟨w.heap.size, 1, none⟩ = some (.int .u64 l)) ∧ (wr.cell? ⟨H, 0, none⟩ = some (.int .i64 b) ∧ wr.cell? ⟨H, 1, none⟩ = some (.int .i64 ((b + 16) % 64)) ∧ wr.cell? ⟨H, 2, none⟩ = some (.int .i64 ((b + 32) % 64)) ∧ wr.cell? ⟨H, 3, none⟩ = some (.int .i64 ((b + 48) % 64))) ∧ (w.heap.size < wr.heap.size ∧ H < wr.heap.size) :=
  ⟨⟨h.head, h.tail.head⟩, ⟨h.tail.tail.head, h.tail.tail.tail.head, h.tail.tail.tail.tail.head, h.tail.tail.tail.tail.tail.head⟩, h.lt, h.tail.tail.lt⟩

theorem four_q0 (u l b : Int) (h0 : 0 ≤ u) (h1 : u < 18446744073709551616) (hb : b = u / 288230376151711744) (w : World) :
    Calls Try.prog 17 #[pos (symH u 0) l] w fun e w' => e = .returned (.int .i64 b) ∧ Below w.heap.size w w' := by
  have h := bucket_any (symH u 0) l (symH_nonneg u 0) (symH_lt u 0) w
  rw [symH_bucket u 0 h0 h1 (by omega) (by omega)] at h
  rwa [show (u / 288230376151711744 + 16 * 0) % 64 = b by omega] at h
theorem four_b0 (b : Int) (h0 : 0 ≤ b) (h1 : b < 64) (w : World) :
    Calls Try.prog 24 #[.int .i64 b, .int .i64 0] w fun e w' => e = pair b 0 ∧ Below w.heap.size w w' := by
  have h := same_below (bucketat_in b 0 (by omega) (by omega) (by omega) (by omega) w)
  rwa [show (b - 16 * 0) % 64 = b by omega] at h
theorem four_q1 (u l b : Int) (h0 : 0 ≤ u) (h1 : u < 18446744073709551616) (hb : b = u / 288230376151711744) (w : World) :
    Calls Try.prog 17 #[pos (symH u 1) l] w fun e w' => e = .returned (.int .i64 ((b + 16) % 64)) ∧ Below w.heap.size w w' := by
  have h := bucket_any (symH u 1) l (symH_nonneg u 1) (symH_lt u 1) w
  rw [symH_bucket u 1 h0 h1 (by omega) (by omega)] at h
  rwa [show (u / 288230376151711744 + 16 * 1) % 64 = ((b + 16) % 64) by omega] at h
theorem four_b1 (b : Int) (h0 : 0 ≤ b) (h1 : b < 64) (w : World) :
    Calls Try.prog 24 #[.int .i64 ((b + 16) % 64), .int .i64 1] w fun e w' => e = pair b 0 ∧ Below w.heap.size w w' := by
  have h := same_below (bucketat_in ((b + 16) % 64) 1 (by omega) (by omega) (by omega) (by omega) w)
  rwa [show (((b + 16) % 64) - 16 * 1) % 64 = b by omega] at h
theorem four_q2 (u l b : Int) (h0 : 0 ≤ u) (h1 : u < 18446744073709551616) (hb : b = u / 288230376151711744) (w : World) :
    Calls Try.prog 17 #[pos (symH u 2) l] w fun e w' => e = .returned (.int .i64 ((b + 32) % 64)) ∧ Below w.heap.size w w' := by
  have h := bucket_any (symH u 2) l (symH_nonneg u 2) (symH_lt u 2) w
  rw [symH_bucket u 2 h0 h1 (by omega) (by omega)] at h
  rwa [show (u / 288230376151711744 + 16 * 2) % 64 = ((b + 32) % 64) by omega] at h
theorem four_b2 (b : Int) (h0 : 0 ≤ b) (h1 : b < 64) (w : World) :
    Calls Try.prog 24 #[.int .i64 ((b + 32) % 64), .int .i64 2] w fun e w' => e = pair b 0 ∧ Below w.heap.size w w' := by
  have h := same_below (bucketat_in ((b + 32) % 64) 2 (by omega) (by omega) (by omega) (by omega) w)
  rwa [show (((b + 32) % 64) - 16 * 2) % 64 = b by omega] at h
theorem four_q3 (u l b : Int) (h0 : 0 ≤ u) (h1 : u < 18446744073709551616) (hb : b = u / 288230376151711744) (w : World) :
    Calls Try.prog 17 #[pos (symH u 3) l] w fun e w' => e = .returned (.int .i64 ((b + 48) % 64)) ∧ Below w.heap.size w w' := by
  have h := bucket_any (symH u 3) l (symH_nonneg u 3) (symH_lt u 3) w
  rw [symH_bucket u 3 h0 h1 (by omega) (by omega)] at h
  rwa [show (u / 288230376151711744 + 16 * 3) % 64 = ((b + 48) % 64) by omega] at h
theorem four_b3 (b : Int) (h0 : 0 ≤ b) (h1 : b < 64) (w : World) :
    Calls Try.prog 24 #[.int .i64 ((b + 48) % 64), .int .i64 3] w fun e w' => e = pair b 0 ∧ Below w.heap.size w w' := by
  have h := same_below (bucketat_in ((b + 48) % 64) 3 (by omega) (by omega) (by omega) (by omega) w)
  rwa [show (((b + 48) % 64) - 16 * 3) % 64 = b by omega] at h

theorem tmod64 (x : Int) (h : x ≤ 0) : -64 < x.tmod 64 ∧ x.tmod 64 ≤ 0 := by
  have e : x.tmod 64 = -((-x) % 64) := by
    rw [← Int.neg_neg (x.tmod 64), ← Int.neg_tmod, Int.tmod_eq_emod_of_nonneg (by omega)]
  rw [e]; omega
theorem place_back (t k : Int) (h0 : 0 ≤ t) (h1 : t < 64) (h2 : 0 ≤ k) (h3 : k < 4) : ∃ v : Int, 0 ≤ v ∧ v < 64 ∧
    (∀ w, Calls Try.prog 24 #[.int .i64 t, .int .i64 k] w fun e w' => e = pair v 0 ∧ w = w') ∧
    (∀ w, Calls Try.prog 22 #[.int .i64 v, .int .i64 k] w fun e w' => e = pair t 0 ∧ w = w') := by
  refine ⟨(t - 16 * k) % 64, by omega, by omega, bucketat_in t k h0 h1 h2 h3, fun w => ?_⟩
  have h := place_in ((t - 16 * k) % 64) k (by omega) (by omega) h2 h3 w
  rwa [show ((t - 16 * k) % 64 + 16 * k) % 64 = t by omega] at h
theorem keep5 {W w1 w2 : World} {A B C k : Nat} {v0 v1 v2 v3 v4 : Value} (hA : A < W.heap.size) (hB : B < W.heap.size) (hC : C < W.heap.size)
    (h : Below W.heap.size W w1 ∧ w1.cell? ⟨A, 0, none⟩ = some v0 ∧ w1.cell? ⟨A, 1, none⟩ = some v1 ∧ w1.cell? ⟨B, k, none⟩ = some v2 ∧ w1.cell? ⟨C, 0, none⟩ = some v3 ∧ w1.cell? ⟨C, 1, none⟩ = some v4) (l : Below w1.heap.size w1 w2) :
    Below W.heap.size W w2 ∧ w2.cell? ⟨A, 0, none⟩ = some v0 ∧ w2.cell? ⟨A, 1, none⟩ = some v1 ∧ w2.cell? ⟨B, k, none⟩ = some v2 ∧ w2.cell? ⟨C, 0, none⟩ = some v3 ∧ w2.cell? ⟨C, 1, none⟩ = some v4 := by
  obtain ⟨hb, h0, h1, h2, h3, h4⟩ := h
  have hs := hb.size
  have a : A < w1.heap.size := by omega
  have b : B < w1.heap.size := by omega
  have c : C < w1.heap.size := by omega
  exact ⟨below_next hb l, (l.cell (p := ⟨A, 0, none⟩) a).trans h0, (l.cell (p := ⟨A, 1, none⟩) a).trans h1, (l.cell (p := ⟨B, k, none⟩) b).trans h2, (l.cell (p := ⟨C, 0, none⟩) c).trans h3, (l.cell (p := ⟨C, 1, none⟩) c).trans h4⟩

set_option maxHeartbeats 4000000 in
theorem keysFour_law (u : Int) (wu : (Lit.int .u64 u).wf = true) (l : Int) (wl : (Lit.int .u64 l).wf = true) (p : Int) (wp : (Lit.int .i64 p).wf = true) (w : World) :
    Calls Try.prog 7 #[.agg #[.int .u64 u, .int .u64 l], .int .i64 p] w (LawOk w) := by
  have hu := bounds_u64 wu
  have hp := bounds_i64 wp
  have u0 := hu.1
  have u1 : u < 18446744073709551616 := by omega
  obtain ⟨p0, p1⟩ := hp
  clear wu wl wp hu
  obtain ⟨b, hb⟩ : ∃ b, b = u / 288230376151711744 := ⟨_, rfl⟩
  have b0 : 0 ≤ b := by omega
  have b1 : b < 64 := by omega
  have BU := bucket_any u l u0 u1
  rw [← hb] at BU
  have BU := Lib.hid BU
  have HM := Lib.hid (homes_in b b0 b1)
  have Q0 := Lib.hid (four_q0 u l b u0 u1 hb)
  have C0 := Lib.hid (four_b0 b b0 b1)
  have S0 := Lib.hid (sym_in u l 0 u0 u1 (by omega) (by omega))
  have Q1 := Lib.hid (four_q1 u l b u0 u1 hb)
  have C1 := Lib.hid (four_b1 b b0 b1)
  have S1 := Lib.hid (sym_in u l 1 u0 u1 (by omega) (by omega))
  have Q2 := Lib.hid (four_q2 u l b u0 u1 hb)
  have C2 := Lib.hid (four_b2 b b0 b1)
  have S2 := Lib.hid (sym_in u l 2 u0 u1 (by omega) (by omega))
  have Q3 := Lib.hid (four_q3 u l b u0 u1 hb)
  have C3 := Lib.hid (four_b3 b b0 b1)
  have S3 := Lib.hid (sym_in u l 3 u0 u1 (by omega) (by omega))
  clear hb u1
  go_enter Try.func7, Try.ntmps7
  go_wp2_with fail
  refine (BU.out _).mono ?_
  rintro e w1 ⟨rfl, l1⟩
  go_wp2_with fail
  refine (HM.out _).mono ?_
  rintro e w2 ⟨rfl, l2⟩
  have m2 := (((Holds.nil w).new2 (.int .u64 u) (.int .u64 l) 24).below l1).below l2
  have n2 := below_next (below_of_alloc l1) l2
  clear l1 l2
  go_wp2_with fail
  refine (alive_any _).mono ?_
  rintro e w3 ⟨rfl, l3⟩
  have m3 := (m2.new4 (.int .i64 b) (.int .i64 ((b + 16) % 64)) (.int .i64 ((b + 32) % 64)) (.int .i64 ((b + 48) % 64)) 35).below l3
  have n3 := below_next n2 (below_of_alloc l3)
  clear m2 n2 l3
  obtain ⟨H, hH⟩ : ∃ H, w2.heap.size = H := ⟨_, rfl⟩
  rw [hH] at m3 ⊢
  have m4 : Holds w3 (FourL w H u l b) := by
    have a0 := m3.head; have a1 := m3.tail.head; have a2 := m3.tail.tail.head; have a3 := m3.tail.tail.tail.head
    have a4 := m3.tail.tail.tail.tail.head; have a5 := m3.tail.tail.tail.tail.tail.head
    have s0 := m3.lt; have s1 := m3.tail.tail.tail.tail.lt
    exact Holds.cons a4 s1 (Holds.cons a5 s1 (Holds.cons a0 s0 (Holds.cons a1 s0 (Holds.cons a2 s0 (Holds.cons a3 s0 (Holds.nil _))))))
  clear m3 hH
  have M4 := Lib.hid m4; clear m4
  go_wp2_with fail
  go_outline
  go_loopw [7] (fun i wr => ∃ k : Nat, k ≤ 4 ∧ i = .int .i64 k ∧ Holds wr (FourL w H u l b) ∧ Below w.heap.size w wr) (fun i _ => 4 - (intOf i).toNat)
  case atStart => exact ⟨0, Nat.zero_le _, rfl, M4.out, n3⟩
  case round =>
    obtain ⟨k, hk, rfl, hm, hn⟩ := hrel
    obtain ⟨⟨c0, c1⟩, ⟨c2, c3, c4, c5⟩, ⟨z0, z1⟩⟩ := hm.fourL
    have HMr := Lib.hid hm; clear hm M4
    have hk5 : k = 0 ∨ k = 1 ∨ k = 2 ∨ k = 3 ∨ k = 4 := by omega
    rcases hk5 with rfl | rfl | rfl | rfl | rfl
    · go_wp2_with fail
      refine (S0.out _).mono ?_
      rintro e w5 ⟨rfl, l5⟩
      have m5 := HMr.out.below l5
      have n5 := below_next hn l5
      clear c0 c1 c2 c3 c4 c5 z0 z1 HMr hn l5
      obtain ⟨⟨c0, c1⟩, ⟨c2, c3, c4, c5⟩, ⟨z0, z1⟩⟩ := m5.fourL
      have M5 := Lib.hid m5; clear m5
      go_wp2_with fail
      refine (C0.out _).mono ?_
      rintro e w6 ⟨rfl, l6⟩
      have m6 := (M5.out.new2 _ _ _).below l6
      have n6 := below_next n5 (below_of_alloc l6)
      clear c0 c1 c2 c3 c4 c5 z0 z1 M5 n5 l6
      go_wp2_with fail
      obtain ⟨q0, q1, qz⟩ := m6.two
      have m7 : Holds w6 (FourL w H u l b) := m6.tail.tail
      clear m6
      obtain ⟨⟨c0, c1⟩, ⟨c2, c3, c4, c5⟩, ⟨z0, z1⟩⟩ := m7.fourL
      have M7 := Lib.hid m7; clear m7
      generalize w5.heap.size = A at *
      go_region_held3 (fun w' => Below w6.heap.size w6 w' ∧ w'.cell? ⟨A, 0, none⟩ = some (.int .u64 (symH u 0)) ∧ w'.cell? ⟨A, 1, none⟩ = some (.int .u64 l) ∧ w'.cell? ⟨H, 0, none⟩ = some (.int .i64 b) ∧ w'.cell? ⟨w.heap.size, 0, none⟩ = some (.int .u64 u) ∧ w'.cell? ⟨w.heap.size, 1, none⟩ = some (.int .u64 l)) (first | assumption | exact keep5 qz z1 z0 (by assumption) (by assumption) | exact keep5 qz z1 z0 (by assumption) ((Below.refl _ _).drew) | exact ⟨Below.refl _ _, q0, q1, c2, c0, c1⟩ | exact keep5 qz z1 z0 ⟨Below.refl _ _, q0, q1, c2, c0, c1⟩ ((Below.refl _ _).drew)) (first
          | (go_at_call_of 17 (Value.int IntKind.u64 (symH u 0)); refine (Q0.out _).mono ?_; rintro e w' ⟨rfl, lk⟩)
          | (go_at_call_of 17 (Value.int IntKind.u64 u); refine (BU.out _).mono ?_; rintro e w' ⟨rfl, lk⟩))
      rename_i w8 l8 hf
      have m8 := M7.out.below hf.1
      have n8 := below_next n6 hf.1
      clear q0 q1 qz c0 c1 c2 c3 c4 c5 z0 z1 M7 n6 l8 hf
      have M8 := Lib.hid m8; clear m8
      go_wp2_with fail
      go_loopw [12] (fun kk wx => ∃ j : Nat, j ≤ 0 ∧ kk = .int .i64 j ∧ Holds wx (FourL w H u l b) ∧ Below w.heap.size w wx) (fun kk _ => 0 - (intOf kk).toNat)
      case atStart => exact ⟨0, Nat.zero_le _, rfl, M8.out, n8⟩
      case round =>
        obtain ⟨j, hj, rfl, hm, hn⟩ := hrel
        obtain ⟨⟨c0, c1⟩, ⟨c2, c3, c4, c5⟩, ⟨z0, z1⟩⟩ := hm.fourL
        have HMs := Lib.hid hm; clear hm M8
        have hj5 : j = 0 := by omega
        rcases hj5 with rfl
        · go_wp2_with fail
          go_roundw
          case rel => exact ⟨1, by omega, rfl, HMs.out, hn⟩
          case measure => simp [intOf]
    · go_wp2_with fail
      refine (S1.out _).mono ?_
      rintro e w5 ⟨rfl, l5⟩
      have m5 := HMr.out.below l5
      have n5 := below_next hn l5
      clear c0 c1 c2 c3 c4 c5 z0 z1 HMr hn l5
      obtain ⟨⟨c0, c1⟩, ⟨c2, c3, c4, c5⟩, ⟨z0, z1⟩⟩ := m5.fourL
      have M5 := Lib.hid m5; clear m5
      go_wp2_with fail
      refine (C1.out _).mono ?_
      rintro e w6 ⟨rfl, l6⟩
      have m6 := (M5.out.new2 _ _ _).below l6
      have n6 := below_next n5 (below_of_alloc l6)
      clear c0 c1 c2 c3 c4 c5 z0 z1 M5 n5 l6
      go_wp2_with fail
      obtain ⟨q0, q1, qz⟩ := m6.two
      have m7 : Holds w6 (FourL w H u l b) := m6.tail.tail
      clear m6
      obtain ⟨⟨c0, c1⟩, ⟨c2, c3, c4, c5⟩, ⟨z0, z1⟩⟩ := m7.fourL
      have M7 := Lib.hid m7; clear m7
      generalize w5.heap.size = A at *
      go_region_held3 (fun w' => Below w6.heap.size w6 w' ∧ w'.cell? ⟨A, 0, none⟩ = some (.int .u64 (symH u 1)) ∧ w'.cell? ⟨A, 1, none⟩ = some (.int .u64 l) ∧ w'.cell? ⟨H, 1, none⟩ = some (.int .i64 ((b + 16) % 64)) ∧ w'.cell? ⟨w.heap.size, 0, none⟩ = some (.int .u64 u) ∧ w'.cell? ⟨w.heap.size, 1, none⟩ = some (.int .u64 l)) (first | assumption | exact keep5 qz z1 z0 (by assumption) (by assumption) | exact keep5 qz z1 z0 (by assumption) ((Below.refl _ _).drew) | exact ⟨Below.refl _ _, q0, q1, c3, c0, c1⟩ | exact keep5 qz z1 z0 ⟨Below.refl _ _, q0, q1, c3, c0, c1⟩ ((Below.refl _ _).drew)) (first
          | (go_at_call_of 17 (Value.int IntKind.u64 (symH u 1)); refine (Q1.out _).mono ?_; rintro e w' ⟨rfl, lk⟩)
          | (go_at_call_of 17 (Value.int IntKind.u64 u); refine (BU.out _).mono ?_; rintro e w' ⟨rfl, lk⟩))
      rename_i w8 l8 hf
      have m8 := M7.out.below hf.1
      have n8 := below_next n6 hf.1
      clear q0 q1 qz c0 c1 c2 c3 c4 c5 z0 z1 M7 n6 l8 hf
      have M8 := Lib.hid m8; clear m8
      go_wp2_with fail
      go_loopw [12] (fun kk wx => ∃ j : Nat, j ≤ 1 ∧ kk = .int .i64 j ∧ Holds wx (FourL w H u l b) ∧ Below w.heap.size w wx) (fun kk _ => 1 - (intOf kk).toNat)
      case atStart => exact ⟨0, Nat.zero_le _, rfl, M8.out, n8⟩
      case round =>
        obtain ⟨j, hj, rfl, hm, hn⟩ := hrel
        obtain ⟨⟨c0, c1⟩, ⟨c2, c3, c4, c5⟩, ⟨z0, z1⟩⟩ := hm.fourL
        have HMs := Lib.hid hm; clear hm M8
        have hj5 : j = 0 ∨ j = 1 := by omega
        rcases hj5 with rfl | rfl
        · go_wp2_with fail
          go_quiet (fail)
          go_wp2_with fail
          go_roundw
          case rel => exact ⟨1, by omega, rfl, HMs.out.below (below_drewN (Below.refl _ _) _), below_drewN hn _⟩
          case measure => simp [intOf]
        · go_wp2_with fail
          go_roundw
          case rel => exact ⟨2, by omega, rfl, HMs.out, hn⟩
          case measure => simp [intOf]
    · go_wp2_with fail
      refine (S2.out _).mono ?_
      rintro e w5 ⟨rfl, l5⟩
      have m5 := HMr.out.below l5
      have n5 := below_next hn l5
      clear c0 c1 c2 c3 c4 c5 z0 z1 HMr hn l5
      obtain ⟨⟨c0, c1⟩, ⟨c2, c3, c4, c5⟩, ⟨z0, z1⟩⟩ := m5.fourL
      have M5 := Lib.hid m5; clear m5
      go_wp2_with fail
      refine (C2.out _).mono ?_
      rintro e w6 ⟨rfl, l6⟩
      have m6 := (M5.out.new2 _ _ _).below l6
      have n6 := below_next n5 (below_of_alloc l6)
      clear c0 c1 c2 c3 c4 c5 z0 z1 M5 n5 l6
      go_wp2_with fail
      obtain ⟨q0, q1, qz⟩ := m6.two
      have m7 : Holds w6 (FourL w H u l b) := m6.tail.tail
      clear m6
      obtain ⟨⟨c0, c1⟩, ⟨c2, c3, c4, c5⟩, ⟨z0, z1⟩⟩ := m7.fourL
      have M7 := Lib.hid m7; clear m7
      generalize w5.heap.size = A at *
      go_region_held3 (fun w' => Below w6.heap.size w6 w' ∧ w'.cell? ⟨A, 0, none⟩ = some (.int .u64 (symH u 2)) ∧ w'.cell? ⟨A, 1, none⟩ = some (.int .u64 l) ∧ w'.cell? ⟨H, 2, none⟩ = some (.int .i64 ((b + 32) % 64)) ∧ w'.cell? ⟨w.heap.size, 0, none⟩ = some (.int .u64 u) ∧ w'.cell? ⟨w.heap.size, 1, none⟩ = some (.int .u64 l)) (first | assumption | exact keep5 qz z1 z0 (by assumption) (by assumption) | exact keep5 qz z1 z0 (by assumption) ((Below.refl _ _).drew) | exact ⟨Below.refl _ _, q0, q1, c4, c0, c1⟩ | exact keep5 qz z1 z0 ⟨Below.refl _ _, q0, q1, c4, c0, c1⟩ ((Below.refl _ _).drew)) (first
          | (go_at_call_of 17 (Value.int IntKind.u64 (symH u 2)); refine (Q2.out _).mono ?_; rintro e w' ⟨rfl, lk⟩)
          | (go_at_call_of 17 (Value.int IntKind.u64 u); refine (BU.out _).mono ?_; rintro e w' ⟨rfl, lk⟩))
      rename_i w8 l8 hf
      have m8 := M7.out.below hf.1
      have n8 := below_next n6 hf.1
      clear q0 q1 qz c0 c1 c2 c3 c4 c5 z0 z1 M7 n6 l8 hf
      have M8 := Lib.hid m8; clear m8
      go_wp2_with fail
      go_loopw [12] (fun kk wx => ∃ j : Nat, j ≤ 2 ∧ kk = .int .i64 j ∧ Holds wx (FourL w H u l b) ∧ Below w.heap.size w wx) (fun kk _ => 2 - (intOf kk).toNat)
      case atStart => exact ⟨0, Nat.zero_le _, rfl, M8.out, n8⟩
      case round =>
        obtain ⟨j, hj, rfl, hm, hn⟩ := hrel
        obtain ⟨⟨c0, c1⟩, ⟨c2, c3, c4, c5⟩, ⟨z0, z1⟩⟩ := hm.fourL
        have HMs := Lib.hid hm; clear hm M8
        have hj5 : j = 0 ∨ j = 1 ∨ j = 2 := by omega
        rcases hj5 with rfl | rfl | rfl
        · go_wp2_with fail
          go_quiet (fail)
          go_wp2_with fail
          go_roundw
          case rel => exact ⟨1, by omega, rfl, HMs.out.below (below_drewN (Below.refl _ _) _), below_drewN hn _⟩
          case measure => simp [intOf]
        · go_wp2_with fail
          go_quiet (fail)
          go_wp2_with fail
          go_roundw
          case rel => exact ⟨2, by omega, rfl, HMs.out.below (below_drewN (Below.refl _ _) _), below_drewN hn _⟩
          case measure => simp [intOf]
        · go_wp2_with fail
          go_roundw
          case rel => exact ⟨3, by omega, rfl, HMs.out, hn⟩
          case measure => simp [intOf]
    · go_wp2_with fail
      refine (S3.out _).mono ?_
      rintro e w5 ⟨rfl, l5⟩
      have m5 := HMr.out.below l5
      have n5 := below_next hn l5
      clear c0 c1 c2 c3 c4 c5 z0 z1 HMr hn l5
      obtain ⟨⟨c0, c1⟩, ⟨c2, c3, c4, c5⟩, ⟨z0, z1⟩⟩ := m5.fourL
      have M5 := Lib.hid m5; clear m5
      go_wp2_with fail
      refine (C3.out _).mono ?_
      rintro e w6 ⟨rfl, l6⟩
      have m6 := (M5.out.new2 _ _ _).below l6
      have n6 := below_next n5 (below_of_alloc l6)
      clear c0 c1 c2 c3 c4 c5 z0 z1 M5 n5 l6
      go_wp2_with fail
      obtain ⟨q0, q1, qz⟩ := m6.two
      have m7 : Holds w6 (FourL w H u l b) := m6.tail.tail
      clear m6
      obtain ⟨⟨c0, c1⟩, ⟨c2, c3, c4, c5⟩, ⟨z0, z1⟩⟩ := m7.fourL
      have M7 := Lib.hid m7; clear m7
      generalize w5.heap.size = A at *
      go_region_held3 (fun w' => Below w6.heap.size w6 w' ∧ w'.cell? ⟨A, 0, none⟩ = some (.int .u64 (symH u 3)) ∧ w'.cell? ⟨A, 1, none⟩ = some (.int .u64 l) ∧ w'.cell? ⟨H, 3, none⟩ = some (.int .i64 ((b + 48) % 64)) ∧ w'.cell? ⟨w.heap.size, 0, none⟩ = some (.int .u64 u) ∧ w'.cell? ⟨w.heap.size, 1, none⟩ = some (.int .u64 l)) (first | assumption | exact keep5 qz z1 z0 (by assumption) (by assumption) | exact keep5 qz z1 z0 (by assumption) ((Below.refl _ _).drew) | exact ⟨Below.refl _ _, q0, q1, c5, c0, c1⟩ | exact keep5 qz z1 z0 ⟨Below.refl _ _, q0, q1, c5, c0, c1⟩ ((Below.refl _ _).drew)) (first
          | (go_at_call_of 17 (Value.int IntKind.u64 (symH u 3)); refine (Q3.out _).mono ?_; rintro e w' ⟨rfl, lk⟩)
          | (go_at_call_of 17 (Value.int IntKind.u64 u); refine (BU.out _).mono ?_; rintro e w' ⟨rfl, lk⟩))
      rename_i w8 l8 hf
      have m8 := M7.out.below hf.1
      have n8 := below_next n6 hf.1
      clear q0 q1 qz c0 c1 c2 c3 c4 c5 z0 z1 M7 n6 l8 hf
      have M8 := Lib.hid m8; clear m8
      go_wp2_with fail
      go_loopw [12] (fun kk wx => ∃ j : Nat, j ≤ 3 ∧ kk = .int .i64 j ∧ Holds wx (FourL w H u l b) ∧ Below w.heap.size w wx) (fun kk _ => 3 - (intOf kk).toNat)
      case atStart => exact ⟨0, Nat.zero_le _, rfl, M8.out, n8⟩
      case round =>
        obtain ⟨j, hj, rfl, hm, hn⟩ := hrel
        obtain ⟨⟨c0, c1⟩, ⟨c2, c3, c4, c5⟩, ⟨z0, z1⟩⟩ := hm.fourL
        have HMs := Lib.hid hm; clear hm M8
        have hj5 : j = 0 ∨ j = 1 ∨ j = 2 ∨ j = 3 := by omega
        rcases hj5 with rfl | rfl | rfl | rfl
        · go_wp2_with fail
          go_quiet (fail)
          go_wp2_with fail
          go_roundw
          case rel => exact ⟨1, by omega, rfl, HMs.out.below (below_drewN (Below.refl _ _) _), below_drewN hn _⟩
          case measure => simp [intOf]
        · go_wp2_with fail
          go_quiet (fail)
          go_wp2_with fail
          go_roundw
          case rel => exact ⟨2, by omega, rfl, HMs.out.below (below_drewN (Below.refl _ _) _), below_drewN hn _⟩
          case measure => simp [intOf]
        · go_wp2_with fail
          go_quiet (fail)
          go_wp2_with fail
          go_roundw
          case rel => exact ⟨3, by omega, rfl, HMs.out.below (below_drewN (Below.refl _ _) _), below_drewN hn _⟩
          case measure => simp [intOf]
        · go_wp2_with fail
          go_roundw
          case rel => exact ⟨4, by omega, rfl, HMs.out, hn⟩
          case measure => simp [intOf]
    · clear c0 c1 c2 c3 c4 c5 z0 z1 HMr Q0 Q1 Q2 Q3 C0 C1 C2 C3 S0 S1 S2 S3 BU HM
      rw [show ((4 : Nat) : Int) = 4 from rfl]
      have hpt : p < 0 ∧ (-64 < (p + 1).tmod 64 ∧ (p + 1).tmod 64 ≤ 0) ∨ 0 ≤ p ∧ (0 ≤ p % 64 ∧ p % 64 < 64) := by
        rcases Int.lt_or_le p 0 with k | k
        · exact .inl ⟨k, tmod64 _ (by omega)⟩
        · exact .inr ⟨k, by omega⟩
      rcases hpt with ⟨hp0, hp3, hp4⟩ | ⟨hp0, hp3, hp4⟩
      · go_wp2_with fail
        have ht0 : 0 ≤ -(p + 1).tmod 64 := by omega
        have ht1 : -(p + 1).tmod 64 < 64 := by omega
        clear hp3 hp4
        generalize -(p + 1).tmod 64 = t at *
        go_loop [13] (fun i => ∃ j : Nat, j ≤ 4 ∧ i = .int .i64 j) (fun i => 4 - (intOf i).toNat)
        case atStart => exact ⟨0, Nat.zero_le _, rfl⟩
        case round =>
          obtain ⟨j, hj, rfl⟩ := hrel
          by_cases hlt : j < 4
          · obtain ⟨v, v0, v1, V1, V2⟩ := place_back t j ht0 ht1 (by omega) (by omega)
            have V1 := Lib.hid V1
            have V2 := Lib.hid V2
            go_wp2_with fail
            refine (V1.out _).mono ?_
            rintro e w5 ⟨rfl, rfl⟩
            go_wp2_with fail
            refine (V2.out _).mono ?_
            rintro e w5 ⟨rfl, rfl⟩
            go_wp2_with fail
            go_round
            case rel => exact ⟨j + 1, by omega, by go_num⟩
            case measure => simp [intOf]; omega
          · go_wp2_with fail
            go_ret
            exact ⟨rfl, hn⟩
      · go_wp2_with fail
        have ht0 : 0 ≤ p % 64 := by omega
        have ht1 : p % 64 < 64 := by omega
        clear hp3 hp4
        generalize p % 64 = t at *
        go_loop [13] (fun i => ∃ j : Nat, j ≤ 4 ∧ i = .int .i64 j) (fun i => 4 - (intOf i).toNat)
        case atStart => exact ⟨0, Nat.zero_le _, rfl⟩
        case round =>
          obtain ⟨j, hj, rfl⟩ := hrel
          by_cases hlt : j < 4
          · obtain ⟨v, v0, v1, V1, V2⟩ := place_back t j ht0 ht1 (by omega) (by omega)
            have V1 := Lib.hid V1
            have V2 := Lib.hid V2
            go_wp2_with fail
            refine (V1.out _).mono ?_
            rintro e w5 ⟨rfl, rfl⟩
            go_wp2_with fail
            refine (V2.out _).mono ?_
            rintro e w5 ⟨rfl, rfl⟩
            go_wp2_with fail
            go_round
            case rel => exact ⟨j + 1, by omega, by go_num⟩
            case measure => simp [intOf]; omega
          · go_wp2_with fail
            go_ret
            exact ⟨rfl, hn⟩

end Go.Proofs.Ytdfgmjpoabgllaa
