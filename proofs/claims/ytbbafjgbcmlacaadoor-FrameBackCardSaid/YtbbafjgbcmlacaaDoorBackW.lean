/- FrameBack: the walk. -/
import Derived.Test.YtbbafjgbcmlacaaDoorAwake
import Derived.Test.YtbbafjgbcmlacaaDoorBack
namespace Go.Proofs.YtbbafjgbcmlacaaDoor
open Go.RowKit Go.Sort
set_option linter.unusedVariables false

theorem neg_mod (a : Int) (n : Nat) (h : a < 0) : ∃ q : Nat, q < n + 10 ∧ -(a + 1).tmod ((n : Int) + 10) = (q : Int) := by
  have e : (a + 1).tmod ((n : Int) + 10) = -((-(a + 1)) % ((n : Int) + 10)) := by
    rw [← Int.neg_neg ((a + 1).tmod _), ← Int.neg_tmod, Int.tmod_eq_emod_of_nonneg (by omega)]
  have h1 := Int.emod_nonneg (-(a + 1)) (show (n : Int) + 10 ≠ 0 by omega)
  have h2 := Int.emod_lt_of_pos (-(a + 1)) (show (0 : Int) < (n : Int) + 10 by omega)
  refine ⟨((-(a + 1)) % ((n : Int) + 10)).toNat, by omega, ?_⟩
  rw [e, Int.neg_neg, Int.toNat_of_nonneg h1]
theorem pos_mod (a : Int) (n : Nat) (h : 0 ≤ a) : ∃ q : Nat, q < n + 10 ∧ a % ((n : Int) + 10) = (q : Int) := by
  have h1 := Int.emod_nonneg a (show (n : Int) + 10 ≠ 0 by omega)
  have h2 := Int.emod_lt_of_pos a (show (0 : Int) < (n : Int) + 10 by omega)
  exact ⟨(a % ((n : Int) + 10)).toNat, by omega, (Int.toNat_of_nonneg h1).symm⟩

theorem cast_ne (x : Nat) : ((x : Int) != 0) = (x != 0) := by rw [Bool.eq_iff_iff, bne_iff_ne, bne_iff_ne]; omega

set_option maxRecDepth 10000 in
set_option maxHeartbeats 4000000 in
theorem frameBack_law (ao : Option Addr) (n cap : Nat) (l : List Nat) (hl : l.length = n) (hc : n ≤ cap) (hm : cap ≤ maxLen) (hb : n ≤ 140737488351232) (a : Int) (wa : (Lit.int .i64 a).wf = true)
    (bo : Option Addr) (m dap : Nat) (k : List Nat) (kl : k.length = m) (kc : m ≤ dap) (km : dap ≤ maxLen) (kb : m ≤ 140737488351232)
    (W : World) (ht : Tab W) (hr : Rd W ao l) (kr : Rd W bo k) :
    Calls Tryd.prog 4 #[.slice ao n cap, .int .i64 a, .slice bo m dap] W (LawOk W) := by
  have ha := bounds_i64 wa
  have HA := Lib.hid (awake_any W ht)
  have HT := Lib.hid ht; have HR := Lib.hid hr; have KR := Lib.hid kr; have HL := Lib.hid hl; have KL := Lib.hid kl
  have BP := Lib.hid (back_plain l hr.lt)
  have FL := Lib.hid (frameOf_length l)
  have UF := Lib.hid (unw_frame l)
  clear ht hr kr hl kl hm km wa
  go_enter Tryd.func4, Tryd.ntmps4
  go_wp2_with fail
  refine HA.out.mono ?_
  rintro e w1 ⟨rfl, b1⟩
  go_wp2_with fail
  refine (wrap_any ao n cap l HL.out (by omega) w1 (HT.out.below b1) (HR.out.below b1)).mono ?_
  rintro e w2 (⟨h, rfl, rfl⟩ | ⟨h, ab, cb, rfl, ob, b2⟩)
  · rw [HL.out] at h
    go_wp2_with fail
    go_ret
    exact ⟨rfl, b1⟩
  · have B2 := below_next b1 b2
    have b2s := b2.size
    have hb1s := b1.size
    have hle := ob.le
    rw [HL.out] at h ob hle ⊢
    have u1 := unwrap_any ab (n + 10) cb (frameOf l) (by rw [FL.out, HL.out]) (by omega) hle w2 (HT.out.below B2) ob.rd
    have U1 : Calls Tryd.prog 11 #[.slice ab (n + 10) cb] w2 fun e w' => ∃ ax cx, e = .returned (.tuple #[.slice ax n cx, .int .i64 0]) ∧ Own w' w2.heap.size ax n cx l ∧ Below w2.heap.size w2 w' := by
      refine u1.mono ?_
      rintro e w' ⟨ax, cx, rfl, ox, b⟩
      rw [UF.out (by rw [HL.out]; exact h)] at ox ⊢
      change Own _ _ _ l.length _ _ at ox
      rw [HL.out] at ox
      exact ⟨ax, cx, by show Ending.returned (.tuple #[.slice ax l.length cx, .int .i64 0]) = _; rw [HL.out], ox, b⟩
    clear u1 b1 b2
    go_wp2_with fail
    refine U1.mono ?_
    rintro e w3 ⟨ax, cx, rfl, ox, b3⟩
    have B3 := below_next B2 b3
    have ob := ob.below b3
    clear U1
    go_wp2_with fail
    refine (same_any ax ao n n cx cap l l HL.out HL.out (by omega) w3 ox.rd (HR.out.below B3)).mono ?_
    rintro e w4 ⟨rfl, b4⟩
    rw [beq_self_eq_true]
    have B4 := below_next B3 b4
    have ob := ob.below b4
    have hs14 : w1.heap.size ≤ w4.heap.size := by have := b2s; have := b3.size; have := b4.size; omega
    clear b3 b4 ox B3 B2
    have OB := Lib.hid ob; clear ob
    have hs1 : w1.heap.size ≤ w4.heap.size := hs14
    have hW1 : W.heap.size ≤ w1.heap.size := hb1s
    by_cases hneg : a < 0
    case' pos =>
      obtain ⟨q, hq, eq⟩ := neg_mod a n hneg
      go_wp2_with fail
    case' neg =>
      obtain ⟨q, hq, eq⟩ := pos_mod a n (by omega)
      go_wp2_with fail
      rw [eq]
    all_goals
      clear eq hneg
      go_loopw [13, 14] (fun ch i wr => ∃ j : Nat, (j ≤ 4 ∧ j ≤ m ∧ q + j ≤ n + 10 ∧ (q < 6 → j ≤ 1) ∧ (q < 10 → 6 ≤ q → q + j ≤ 10)) ∧ i = .int .i64 (j : Int) ∧ ch = .bool (chg k j) ∧ Own wr w1.heap.size ab (n + 10) cb (flip (frameOf l) q k j) ∧ Below W.heap.size W wr) (fun _ i _ => 5 - (intOf i).toNat)
      case atStart => exact ⟨0, ⟨by omega, by omega, by omega, by omega, by omega⟩, rfl, rfl, OB.out, B4⟩
      case round =>
        obtain ⟨j, ⟨j1, j2, j3, j4, j5⟩, rfl, rfl, ob, BR⟩ := hrel
        have HB := Lib.hid (BP.out (by rw [HL.out]; exact h) k KR.out.lt q j j1 (by rw [FL.out, HL.out]; exact j3) j4 j5)
        by_cases hgo : j < m ∧ j < 4 ∧ q + j < n + 10 ∧ ¬ (q + j < 6 ∧ 0 < j) ∧ ¬ (q < 6 ∧ 6 ≤ q + j) ∧ ¬ (q < 10 ∧ 10 ≤ q + j)
        · obtain ⟨g1, g2, g3, g4, g5, g6⟩ := hgo
          obtain ⟨g, o, rfl, hg, hgs, hcell, hfr⟩ := ob.at_ (q + j) (by omega)
          obtain ⟨gy, oy, rfl, hy, hycell⟩ := (KR.out.below BR).at_ j (by rw [KL.out]; exact g1)
          have hbx := ob.rd.byte (q + j)
          have hby := KR.out.byte j
          have e1 := u8_xor_nat (bt (flip (frameOf l) q k j) (q + j)) (bt k j) hbx hby
          have hxl : bt (flip (frameOf l) q k j) (q + j) ^^^ bt k j < 256 := Nat.xor_lt_two_pow (n := 8) hbx hby
          have hsame : bt (flip (frameOf l) q k j) (q + j) = bt (frameOf l) (q + j) := by
            rw [flip_bt _ _ _ _ (by rw [FL.out, HL.out]; exact j3), if_neg (by omega)]
          have HFS := Lib.hid (show flip (frameOf l) q k (j + 1) = (flip (frameOf l) q k j).set (q + j) (bt (flip (frameOf l) q k j) (q + j) ^^^ bt k j) by rw [hsame]; rfl)
          have HCS := Lib.hid (show chg k (j + 1) = (chg k j || (bt k j != 0)) from rfl)
          have OB2 := Lib.hid ob; clear ob hsame
          generalize bt (flip (frameOf l) q k j) (q + j) ^^^ bt k j = z at *
          generalize bt (flip (frameOf l) q k j) (q + j) = x at *
          have J4 := Lib.hid j4; have J5 := Lib.hid j5
          have habc : (q < 6 ∧ j < 1) ∨ (6 ≤ q ∧ q < 10 ∧ q + j < 10) ∨ 10 ≤ q := by omega
          have hend : (q < 6 → j + 1 ≤ 1) ∧ (q < 10 → 6 ≤ q → q + (j + 1) ≤ 10) := by omega
          have HEND := Lib.hid hend
          clear j4 j5 g4 g5 g6 hend hbx hby hy HB
          rcases habc with ⟨c1, c2⟩ | ⟨c1, c2, c3⟩ | c1
          · obtain rfl : j = 0 := by omega
            simp only [Nat.add_zero] at hcell hfr hycell
            have hset := OB2.out.set (q + 0) z (by omega) hxl
            simp only [Nat.add_zero] at hset
            have b5 := (BR.setCell (p := ⟨g, o + q, none⟩) (Nat.le_trans hW1 hg) (u8v z)).drew
            have o5 := hset.below (Below.refl _ _).drew
            change Below _ _ (World.drew (wr.setCell ⟨g, o + q, none⟩ (.int .u8 (z : Int)))) at b5
            change Own (World.drew (wr.setCell ⟨g, o + q, none⟩ (.int .u8 (z : Int)))) _ _ _ _ _ at o5
            have O5 := Lib.hid o5; have B5 := Lib.hid b5
            clear hset o5 b5
            go_wp2_with fail
            go_region
            generalize World.drew (wr.setCell ⟨g, o + q, none⟩ (.int .u8 (z : Int))) = w5 at *
            obtain ⟨gy', oy', e', _, hy5⟩ := (KR.out.below B5.out).at_ 0 (by rw [KL.out]; exact g1)
            cases e'
            simp only [Nat.add_zero] at hy5
            clear hcell hfr hycell e1
            generalize chg k 0 = ch at *
            cases ch
            all_goals
              go_wp2_with fail
              go_roundw
              case rel => exact ⟨0 + 1, ⟨by omega, by omega, by omega, HEND.out.1, HEND.out.2⟩, by go_num, by rw [HCS.out, ← cast_ne]; rfl, by rw [HFS.out]; exact O5.out, B5.out⟩
              case measure => (simp [intOf] <;> omega)
          · have hset := OB2.out.set (q + j) z (by omega) hxl
            have b5 := (BR.setCell (p := ⟨g, o + (q + j), none⟩) (Nat.le_trans hW1 hg) (u8v z)).drew
            have o5 := hset.below (Below.refl _ _).drew
            change Below _ _ (World.drew (wr.setCell ⟨g, o + (q + j), none⟩ (.int .u8 (z : Int)))) at b5
            change Own (World.drew (wr.setCell ⟨g, o + (q + j), none⟩ (.int .u8 (z : Int)))) _ _ _ _ _ at o5
            have O5 := Lib.hid o5; have B5 := Lib.hid b5
            clear hset o5 b5
            go_wp2_with fail
            go_region
            generalize World.drew (wr.setCell ⟨g, o + (q + j), none⟩ (.int .u8 (z : Int))) = w5 at *
            obtain ⟨gy', oy', e', _, hy5⟩ := (KR.out.below B5.out).at_ j (by rw [KL.out]; exact g1)
            cases e'
            clear hcell hfr hycell e1
            generalize chg k j = ch at *
            cases ch
            all_goals
              go_wp2_with fail
              go_roundw
              case rel => exact ⟨j + 1, ⟨by omega, by omega, by omega, HEND.out.1, HEND.out.2⟩, by go_num, by rw [HCS.out, ← cast_ne]; rfl, by rw [HFS.out]; exact O5.out, B5.out⟩
              case measure => (simp [intOf] <;> omega)
          · have hset := OB2.out.set (q + j) z (by omega) hxl
            have b5 := (BR.setCell (p := ⟨g, o + (q + j), none⟩) (Nat.le_trans hW1 hg) (u8v z)).drew
            have o5 := hset.below (Below.refl _ _).drew
            change Below _ _ (World.drew (wr.setCell ⟨g, o + (q + j), none⟩ (.int .u8 (z : Int)))) at b5
            change Own (World.drew (wr.setCell ⟨g, o + (q + j), none⟩ (.int .u8 (z : Int)))) _ _ _ _ _ at o5
            have O5 := Lib.hid o5; have B5 := Lib.hid b5
            clear hset o5 b5
            go_wp2_with fail
            go_region
            generalize World.drew (wr.setCell ⟨g, o + (q + j), none⟩ (.int .u8 (z : Int))) = w5 at *
            obtain ⟨gy', oy', e', _, hy5⟩ := (KR.out.below B5.out).at_ j (by rw [KL.out]; exact g1)
            cases e'
            clear hcell hfr hycell e1
            generalize chg k j = ch at *
            cases ch
            all_goals
              go_wp2_with fail
              go_roundw
              case rel => exact ⟨j + 1, ⟨by omega, by omega, by omega, HEND.out.1, HEND.out.2⟩, by go_num, by rw [HCS.out, ← cast_ne]; rfl, by rw [HFS.out]; exact O5.out, B5.out⟩
              case measure => (simp [intOf] <;> omega)
        · have hex : ¬ j < m ∨ (j < m ∧ ¬ j < 4) ∨ (j < m ∧ j < 4 ∧ ¬ q + j < n + 10) ∨ (j < m ∧ j < 4 ∧ q + j < n + 10 ∧ q + j < 6 ∧ 0 < j) ∨ (j < m ∧ j < 4 ∧ q + j < n + 10 ∧ ¬ (q + j < 6 ∧ 0 < j) ∧ q < 6 ∧ 6 ≤ q + j) ∨ (j < m ∧ j < 4 ∧ q + j < n + 10 ∧ ¬ (q + j < 6 ∧ 0 < j) ∧ ¬ q < 6 ∧ q < 10 ∧ 10 ≤ q + j) := by omega
          have U := unwrap_any ab (n + 10) cb (flip (frameOf l) q k j) (by rw [flip_length, FL.out, HL.out]) (by omega) hle wr (HT.out.below BR) ob.rd
          have U2 : Calls Tryd.prog 11 #[.slice ab (n + 10) cb] wr fun e w' => ∃ v, e = .returned (.tuple #[v, .int .i64 ((unw (flip (frameOf l) q k j)).2 : Nat)]) ∧ Below wr.heap.size wr w' := by
            refine U.mono ?_
            rintro e w' ⟨ax, cx, rfl, ox, b⟩
            exact ⟨_, rfl, b⟩
          have U3 := Lib.hid U2
          have BR2 := Lib.hid BR
          clear U U2 ob hgo j4 j5
          generalize (unw (flip (frameOf l) q k j)).2 = ev at *
          generalize chg k j = ch at *
          have hch := HB.out
          clear HB BP UF
          have hboth : (ch = true ∧ ((ev : Int) != 0) = true) ∨ (ch = false ∧ ((ev : Int) != 0) = false) := by
            rw [cast_ne, hch]
            cases ev != 0 <;> simp
          clear hch
          rcases hboth with ⟨rfl, hev⟩ | ⟨rfl, hev⟩
          all_goals
            rcases hex with h1 | ⟨h1, h2⟩ | ⟨h1, h2, h3⟩ | ⟨h1, h2, h3, h4, h5⟩ | ⟨h1, h2, h3, h4, h5, h6⟩ | ⟨h1, h2, h3, h4, h5, h6, h7⟩
          all_goals
            go_wp2_with fail
            refine U3.out.mono ?_
            rintro e w6 ⟨v, rfl, b6⟩
            go_wp2_with fail
            go_ret
            exact ⟨rfl, below_next BR2.out b6⟩
end Go.Proofs.YtbbafjgbcmlacaaDoor
