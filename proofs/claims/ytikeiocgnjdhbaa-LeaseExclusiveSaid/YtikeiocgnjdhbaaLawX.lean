/- LeaseExclusive: the walk. -/
import Derived.Test.YtikeiocgnjdhbaaAl
namespace Go.Proofs.Ytikeiocgnjdhbaa
open Go.RowKit Go.Sort
set_option linter.unusedVariables false
set_option linter.unusedSimpArgs false
set_option maxRecDepth 100000

theorem div_parts (x : Nat) : 1000 * (x / 1000) ≤ x ∧ x < 1000 * (x / 1000) + 1000 := by omega
/-- no two at a time -/
theorem excl {G S L R Q : Nat} (h1 : S ≤ L) (h2 : L ≤ G) (hR : 900 ≤ R) (hQ : Q ≤ 1100) (h : ((G * R / 1000 : Nat) : Int) - ((S * R / 1000 : Nat) : Int) < 1000) : ¬ (1225 ≤ ((G * Q / 1000 : Nat) : Int) - ((L * Q / 1000 : Nat) : Int)) := by
  intro k
  have d1 := div_parts (G * R); have d2 := div_parts (S * R); have d3 := div_parts (G * Q); have d4 := div_parts (L * Q)
  generalize G * R / 1000 = y1 at *
  generalize S * R / 1000 = y2 at *
  generalize G * Q / 1000 = y3 at *
  generalize L * Q / 1000 = y4 at *
  obtain ⟨u, rfl⟩ := Nat.exists_eq_add_of_le h1
  obtain ⟨v, rfl⟩ := Nat.exists_eq_add_of_le h2
  have e1 : (S + u + v) * R = S * R + (u + v) * R := by rw [Nat.add_assoc, Nat.add_mul]
  have e2 : (S + u + v) * Q = (S + u) * Q + v * Q := by rw [Nat.add_mul]
  have l1 : (u + v) * 900 ≤ (u + v) * R := Nat.mul_le_mul_left _ hR
  have l2 : v * Q ≤ v * 1100 := Nat.mul_le_mul_left _ hQ
  rw [e1] at d1; rw [e2] at d3
  omega

/-- a product's wrap and quotient -/
theorem times_ok (x y : Nat) (hx : x < 1099513724928) (hy : y ≤ 1100) : ∃ P Y : Int, (x : Int) * (y : Int) = P ∧ IntKind.u64.wrap P = P ∧ P / 1000 = Y ∧ Y = ((x * y / 1000 : Nat) : Int) ∧ 0 ≤ Y ∧ Y < 1300000000000 ∧ 0 ≤ P := by
  have b : x * y < 1099513724928 * 1100 := Nat.lt_of_le_of_lt (Nat.mul_le_mul_left x hy) (Nat.mul_lt_mul_of_pos_right hx (by decide))
  refine ⟨((x * y : Nat) : Int), ((x * y / 1000 : Nat) : Int), by rw [Int.natCast_mul], ?_, by omega, rfl, by omega, by omega, by omega⟩
  rw [IntWalk.u64_in _ (by omega)]
theorem excl_all (S L G R Q : Nat) (h1 : S ≤ L) (h2 : L ≤ G) (h3 : G < 1099513724928) (hR : 900 ≤ R) (hR1 : R ≤ 1100) (hQ : Q ≤ 1100) : ∃ P1 P2 P3 P4 Y1 Y2 Y3 Y4 : Int,
    (G : Int) * (R : Int) = P1 ∧ (S : Int) * (R : Int) = P2 ∧ (G : Int) * (Q : Int) = P3 ∧ (L : Int) * (Q : Int) = P4 ∧
    IntKind.u64.wrap P1 = P1 ∧ IntKind.u64.wrap P2 = P2 ∧ IntKind.u64.wrap P3 = P3 ∧ IntKind.u64.wrap P4 = P4 ∧
    P1 / 1000 = Y1 ∧ P2 / 1000 = Y2 ∧ P3 / 1000 = Y3 ∧ P4 / 1000 = Y4 ∧ IntKind.u64.wrap (Y4 + 1225) = Y4 + 1225 ∧
    (0 ≤ P1 ∧ 0 ≤ P2 ∧ 0 ≤ P3 ∧ 0 ≤ P4) ∧ (0 ≤ Y1 ∧ Y1 < 1300000000000) ∧ (0 ≤ Y2 ∧ Y2 < 1300000000000) ∧ (0 ≤ Y3 ∧ Y3 < 1300000000000) ∧ (0 ≤ Y4 ∧ Y4 < 1300000000000) ∧
    takeB (Y4 + 1225) Y4 = true ∧ (validB Y1 Y2 && takeB Y3 Y4) = false := by
  obtain ⟨P1, Y1, a1, b1, c1, e1, f1, g1, i1⟩ := times_ok G R h3 hR1
  obtain ⟨P2, Y2, a2, b2, c2, e2, f2, g2, i2⟩ := times_ok S R (by omega) hR1
  obtain ⟨P3, Y3, a3, b3, c3, e3, f3, g3, i3⟩ := times_ok G Q h3 hQ
  obtain ⟨P4, Y4, a4, b4, c4, e4, f4, g4, i4⟩ := times_ok L Q (by omega) hQ
  have hex := @excl G S L R Q h1 h2 hR hQ
  rw [← e1, ← e2, ← e3, ← e4] at hex
  refine ⟨P1, P2, P3, P4, Y1, Y2, Y3, Y4, a1, a2, a3, a4, b1, b2, b3, b4, c1, c2, c3, c4, ?_, ⟨i1, i2, i3, i4⟩, ⟨f1, g1⟩, ⟨f2, g2⟩, ⟨f3, g3⟩, ⟨f4, g4⟩, ?_, ?_⟩
  · rw [IntWalk.u64_in _ (by omega)]
  · simp [takeB]; omega
  · rw [← Bool.not_eq_true, Bool.and_eq_true]
    rintro ⟨k1, k2⟩
    simp only [validB, takeB, decide_eq_true_eq] at k1 k2
    exact hex k1.2 k2.2

set_option maxHeartbeats 4000000 in
theorem leaseExclusive_law (a : Int) (wa : (Lit.int .i64 a).wf = true) (b : Int) (wb : (Lit.int .i64 b).wf = true) (c : Int) (wc : (Lit.int .u64 c).wf = true) (d : Int) (wd : (Lit.int .u64 d).wf = true) (f : Int) (wf : (Lit.int .u64 f).wf = true) (w : World) :
    Calls Try.prog 6 #[.agg #[.int .i64 a, .int .i64 b, .int .u64 c, .int .u64 d, .int .u64 f]] w (LawOk w) := by
  have ha := bounds_i64 wa; have hb := bounds_i64 wb; have hc := bounds_u64 wc; have hd := bounds_u64 wd; have hf := bounds_u64 wf
  clear wa wb wc wd wf
  obtain ⟨C, rfl⟩ : ∃ C : Nat, c = C := ⟨c.toNat, by omega⟩
  obtain ⟨D, rfl⟩ : ∃ D : Nat, d = D := ⟨d.toNat, by omega⟩
  obtain ⟨F, rfl⟩ : ∃ F : Nat, f = F := ⟨f.toNat, by omega⟩
  have hC := Lib.hid hc; have hD := Lib.hid hd; have hF := Lib.hid hf
  clear hc hd hf
  go_enter Try.func6, Try.ntmps6
  go_upto_region 1 with (fail)
  have g0 : (w.alloc (.cells #[.int .i64 a, .int .i64 b, .int .u64 C, .int .u64 D, .int .u64 F] 48)).cell? ⟨w.heap.size, 0, none⟩ = some (.int .i64 a) := by go_simp
  have g1 : (w.alloc (.cells #[.int .i64 a, .int .i64 b, .int .u64 C, .int .u64 D, .int .u64 F] 48)).cell? ⟨w.heap.size, 1, none⟩ = some (.int .i64 b) := by go_simp
  have g2 : (w.alloc (.cells #[.int .i64 a, .int .i64 b, .int .u64 C, .int .u64 D, .int .u64 F] 48)).cell? ⟨w.heap.size, 2, none⟩ = some (.int .u64 C) := by go_simp
  have g3 : (w.alloc (.cells #[.int .i64 a, .int .i64 b, .int .u64 C, .int .u64 D, .int .u64 F] 48)).cell? ⟨w.heap.size, 3, none⟩ = some (.int .u64 D) := by go_simp
  have g4 : (w.alloc (.cells #[.int .i64 a, .int .i64 b, .int .u64 C, .int .u64 D, .int .u64 F] 48)).cell? ⟨w.heap.size, 4, none⟩ = some (.int .u64 F) := by go_simp
  have HW := Lib.hid (show Below w.heap.size w (w.alloc (.cells #[.int .i64 a, .int .i64 b, .int .u64 C, .int .u64 D, .int .u64 F] 48)) from below_alloc (Below.refl _ _) _)
  generalize w.alloc (.cells #[.int .i64 a, .int .i64 b, .int .u64 C, .int .u64 D, .int .u64 F] 48) = W at *
  go_upto_if 18 with (fail)
  go_cut [3] from 17 to 21 (fun s wx => ∃ r : Nat, s = .int .i64 (r : Int) ∧ r ≤ 9223372036854775807 ∧ W = wx)
  case first =>
    as_aux_lemma =>
      by_cases h0 : a < 0
      · obtain ⟨r, hr⟩ : ∃ r : Nat, (r : Int) = -(a + 1) := ⟨(-(a + 1)).toNat, by omega⟩
        have e0 : decide (a < 0) = true := by simpa using h0
        go_wp2_with fail
        go_meet
        case rel => exact ⟨r, by rw [hr], by omega, rfl⟩
      · obtain ⟨r, rfl⟩ : ∃ r : Nat, a = r := ⟨a.toNat, by omega⟩
        have e0 : decide ((r : Int) < 0) = false := by simp
        go_wp2_with fail
        go_meet
        case rel => exact ⟨r, rfl, by omega, rfl⟩
  case rest =>
    obtain ⟨r, rfl, hr, rfl⟩ := hcut
    go_upto_if 23 with (fail)
    go_cut [4] from 22 to 26 (fun s wx => ∃ q : Nat, s = .int .i64 (q : Int) ∧ q ≤ 9223372036854775807 ∧ W = wx)
    case first =>
      as_aux_lemma =>
        by_cases h0 : b < 0
        · obtain ⟨q, hq⟩ : ∃ q : Nat, (q : Int) = -(b + 1) := ⟨(-(b + 1)).toNat, by omega⟩
          have e0 : decide (b < 0) = true := by simpa using h0
          go_wp2_with fail
          go_meet
          case rel => exact ⟨q, by rw [hq], by omega, rfl⟩
        · obtain ⟨q, rfl⟩ : ∃ q : Nat, b = q := ⟨b.toNat, by omega⟩
          have e0 : decide ((q : Int) < 0) = false := by simp
          go_wp2_with fail
          go_meet
          case rel => exact ⟨q, rfl, by omega, rfl⟩
    case rest =>
      obtain ⟨q, rfl, hq, rfl⟩ := hcut
      clear ha hb hr hq
      obtain ⟨m1, em1, hm1⟩ : ∃ m : Nat, r % 201 = m ∧ m < 201 := ⟨_, rfl, Nat.mod_lt _ (by omega)⟩
      obtain ⟨m2, em2, hm2⟩ : ∃ m : Nat, q % 201 = m ∧ m < 201 := ⟨_, rfl, Nat.mod_lt _ (by omega)⟩
      have t1 : (r : Int).tmod 201 = (m1 : Int) := by rw [Int.tmod_eq_emod_of_nonneg (by omega)]; omega
      have t2 : (q : Int).tmod 201 = (m2 : Int) := by rw [Int.tmod_eq_emod_of_nonneg (by omega)]; omega
      have u1 : (r : Int) % 201 = (m1 : Int) := by omega
      have u2 : (q : Int) % 201 = (m2 : Int) := by omega
      obtain ⟨R, hR⟩ : ∃ R : Nat, R = 900 + m1 := ⟨_, rfl⟩
      obtain ⟨Q, hQ⟩ : ∃ Q : Nat, Q = 900 + m2 := ⟨_, rfl⟩
      have v1 : (900 : Int) + (m1 : Int) = (R : Int) := by omega
      have v2 : (900 : Int) + (m2 : Int) = (Q : Int) := by omega
      have HRb : Hid (900 ≤ R ∧ R ≤ 1100 ∧ 900 ≤ Q ∧ Q ≤ 1100) := Lib.hid ⟨by omega, by omega, by omega, by omega⟩
      have x1 : IntKind.u64.wrap (R : Int) = (R : Int) := by rw [IntWalk.u64_in _ (by omega)]
      have x2 : IntKind.u64.wrap (Q : Int) = (Q : Int) := by rw [IntWalk.u64_in _ (by omega)]
      have hRi : (R : Int) ≤ 1100 := by omega
      have hQi : (Q : Int) ≤ 1100 := by omega
      clear hR hQ em1 em2
      obtain ⟨S, hS, hS1⟩ : ∃ S : Nat, C % 1099511627776 = S ∧ S < 1099511627776 := ⟨_, rfl, Nat.mod_lt _ (by omega)⟩
      obtain ⟨dl, hdl, hdl1⟩ : ∃ S : Nat, D % 1048576 = S ∧ S < 1048576 := ⟨_, rfl, Nat.mod_lt _ (by omega)⟩
      obtain ⟨dg, hdg, hdg1⟩ : ∃ S : Nat, F % 1048576 = S ∧ S < 1048576 := ⟨_, rfl, Nat.mod_lt _ (by omega)⟩
      have y1 : (C : Int) % 1099511627776 = (S : Int) := by omega
      have y2 : (D : Int) % 1048576 = (dl : Int) := by omega
      have y3 : (F : Int) % 1048576 = (dg : Int) := by omega
      have z1 : (C : Int).tmod 1099511627776 = (S : Int) := by rw [Int.tmod_eq_emod_of_nonneg (by omega)]; exact y1
      have z2 : (D : Int).tmod 1048576 = (dl : Int) := by rw [Int.tmod_eq_emod_of_nonneg (by omega)]; exact y2
      have z3 : (F : Int).tmod 1048576 = (dg : Int) := by rw [Int.tmod_eq_emod_of_nonneg (by omega)]; exact y3
      obtain ⟨L, hL⟩ : ∃ L : Nat, L = S + dl := ⟨_, rfl⟩
      obtain ⟨G, hG⟩ : ∃ G : Nat, G = L + dg := ⟨_, rfl⟩
      have a1 : IntKind.u64.wrap ((S : Int) + (dl : Int)) = (L : Int) := by rw [IntWalk.u64_in _ (by omega)]; omega
      have a2 : IntKind.u64.wrap ((L : Int) + (dg : Int)) = (G : Int) := by rw [IntWalk.u64_in _ (by omega)]; omega
      have HLG : Hid (S ≤ L ∧ L ≤ G ∧ G < 1099513724928) := Lib.hid ⟨by omega, by omega, by omega⟩
      clear hS hdl hdg hL hG hS1 hdl1 hdg1 hC hD hF
      go_upto_region 12 with (fail)
      clear g0 g1 g2 g3 g4 y1 y2 y3 z1 z2 z3 a1 a2 t1 t2 u1 u2 v1 v2 x1 x2
      obtain ⟨P1, P2, P3, P4, Y1, Y2, Y3, Y4, p1, p2, p3, p4, w1, w2, w3, w4, d1, d2, d3, d4, w5, ⟨i1, i2, i3, i4⟩, ⟨f1, k1⟩, ⟨f2, k2⟩, ⟨f3, k3⟩, ⟨f4, k4⟩, hlong, hnot⟩ := excl_all S L G R Q HLG.out.1 HLG.out.2.1 HLG.out.2.2 HRb.out.1 HRb.out.2.1 HRb.out.2.2.2
      have dd1 : P1.tdiv 1000 = Y1 := by rw [Int.tdiv_eq_ediv_of_nonneg i1]; exact d1
      have ww1 : IntKind.u64.wrap Y1 = Y1 := by rw [IntWalk.u64_in _ (by omega)]
      have dd2 : P2.tdiv 1000 = Y2 := by rw [Int.tdiv_eq_ediv_of_nonneg i2]; exact d2
      have ww2 : IntKind.u64.wrap Y2 = Y2 := by rw [IntWalk.u64_in _ (by omega)]
      have dd3 : P3.tdiv 1000 = Y3 := by rw [Int.tdiv_eq_ediv_of_nonneg i3]; exact d3
      have ww3 : IntKind.u64.wrap Y3 = Y3 := by rw [IntWalk.u64_in _ (by omega)]
      have dd4 : P4.tdiv 1000 = Y4 := by rw [Int.tdiv_eq_ediv_of_nonneg i4]; exact d4
      have ww4 : IntKind.u64.wrap Y4 = Y4 := by rw [IntWalk.u64_in _ (by omega)]
      have V := Lib.hid (valid_any Y1 Y2 ⟨f1, by omega⟩ ⟨f2, by omega⟩)
      have K := Lib.hid (take_any Y3 Y4 ⟨f3, by omega⟩ ⟨f4, by omega⟩)
      have M := Lib.hid (take_any (Y4 + 1225) Y4 ⟨by omega, by omega⟩ ⟨f4, by omega⟩)
      rw [hlong] at M
      clear hlong k1 k2 k3 k4
      generalize validB Y1 Y2 = hol at *
      generalize takeB Y3 Y4 = tak at *
      go_wp2_with fail
      refine (V.out _).mono ?_
      rintro e w9 ⟨rfl, rfl⟩
      go_wp2_with fail
      refine (K.out _).mono ?_
      rintro e w9 ⟨rfl, rfl⟩
      go_wp2_with fail
      refine (M.out _).mono ?_
      rintro e w9 ⟨rfl, rfl⟩
      go_wp2_with fail
      refine (alive_any _).mono ?_
      rintro e w9 ⟨rfl, l9⟩
      cases hol
      · go_wp2_with fail
        go_ret
        exact ⟨rfl, below_next HW.out l9⟩
      · cases tak
        · go_wp2_with fail
          go_ret
          exact ⟨rfl, below_next HW.out l9⟩
        · cases hnot
end Go.Proofs.Ytikeiocgnjdhbaa
