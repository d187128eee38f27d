/- FrameWraps: the walk. -/
import Derived.Test.YtbbafjgbcmlacaaDoorAwake
import Derived.Test.YtbbafjgbcmlacaaDoorRFrame
namespace Go.Proofs.YtbbafjgbcmlacaaDoor
open Go.RowKit Go.Sort
set_option linter.unusedVariables false

/-- what Wrap answers: the bytes, the error, whether it can -/
def wl (l : List Nat) : List Nat := if 65536 < l.length then [] else frameOf l
def we (l : List Nat) : Nat := if 65536 < l.length then 31 else 0
def wok (l : List Nat) : Bool := decide (l.length ≤ 65536)
theorem wl_lt (l : List Nat) : (wl l).length ≤ 65546 := by
  unfold wl; split
  · simp
  · rw [frameOf_length]; omega
theorem we_ok (l : List Nat) : (we l = 0 ∧ wok l = true) ∨ (we l = 31 ∧ wok l = false) := by
  unfold we wok
  by_cases h : 65536 < l.length
  · right; simp [h]
  · left; simp [h]; omega
theorem unw_lt (l : List Nat) : (unw l).1.length ≤ 65536 := by
  unfold unw
  split
  · simp
  split
  · simp
  split
  · simp
  split
  · simp
  · simp; omega

theorem wrap_u (ao : Option Addr) (n cap : Nat) (l : List Nat) (hl : l.length = n) (hn : n ≤ 9223372036854775807) (w : World) (ht : Tab w) (hr : Rd w ao l) :
    Calls Tryd.prog 10 #[.slice ao n cap] w fun e w' => ∃ ax cx, e = .returned (.tuple #[.slice ax (wl l).length cx, .int .i64 (we l : Nat)]) ∧ Own w' w.heap.size ax (wl l).length cx (wl l) ∧ Below w.heap.size w w' := by
  refine (wrap_any ao n cap l hl hn w ht hr).mono ?_
  rintro e w' (⟨h, rfl, rfl⟩ | ⟨h, ax, cx, rfl, ho, hb⟩)
  · refine ⟨none, 0, ?_, ?_, Below.refl _ _⟩
    · unfold wl we; rw [if_pos h, if_pos h]; rfl
    · unfold wl; rw [if_pos h]; exact Own.nil _ _
  · refine ⟨ax, cx, ?_, ?_, hb⟩
    · unfold wl we; rw [if_neg (by omega), if_neg (by omega), frameOf_length]; rfl
    · unfold wl; rw [if_neg (by omega), frameOf_length]; exact ho
theorem rwrap_u (ao : Option Addr) (n cap : Nat) (l : List Nat) (hl : l.length = n) (hn : n ≤ 9223372036854775807) (w : World) (hr : Rd w ao l) :
    Calls Tryd.prog 12 #[.slice ao n cap] w fun e w' => ∃ ax cx, e = .returned (.tuple #[.slice ax (wl l).length cx, .bool (wok l)]) ∧ Own w' w.heap.size ax (wl l).length cx (wl l) ∧ Below w.heap.size w w' := by
  refine (rwrap_any ao n cap l hl hn w hr).mono ?_
  rintro e w' (⟨h, rfl, rfl⟩ | ⟨h, ax, cx, rfl, ho, hb⟩)
  · refine ⟨none, 0, ?_, ?_, Below.refl _ _⟩
    · unfold wl wok; rw [if_pos h, decide_eq_false (by omega)]; rfl
    · unfold wl; rw [if_pos h]; exact Own.nil _ _
  · refine ⟨ax, cx, ?_, ?_, hb⟩
    · unfold wl wok; rw [if_neg (by omega), decide_eq_true h, frameOf_length]
    · unfold wl; rw [if_neg (by omega), frameOf_length]; exact ho

set_option maxHeartbeats 4000000 in
theorem frameWraps_law (ao : Option Addr) (n cap : Nat) (l : List Nat) (hl : l.length = n) (hc : n ≤ cap) (hm : cap ≤ maxLen) (hb : n ≤ 140737488351232)
    (bo : Option Addr) (m dap : Nat) (k : List Nat) (kl : k.length = m) (kc : m ≤ dap) (km : dap ≤ maxLen) (kb : m ≤ 140737488351232) (s : Int) (ws : (Lit.int .u32 s).wf = true)
    (W : World) (ht : Tab W) (hr : Rd W ao l) (kr : Rd W bo k) :
    Calls Tryd.prog 3 #[.slice ao n cap, .slice bo m dap, .int .u32 s] W (LawOk W) := by
  have hs := bounds_u32 ws
  obtain ⟨s, rfl⟩ : ∃ s' : Nat, s = s' := ⟨s.toNat, by omega⟩
  have hs' : s < 4294967296 := by omega
  have HA := Lib.hid (awake_any W ht)
  have HT := Lib.hid ht; have HR := Lib.hid hr; have KR := Lib.hid kr; have HL := Lib.hid hl; have KL := Lib.hid kl
  clear ht hr kr hl kl hm km ws hs
  go_enter Tryd.func3, Tryd.ntmps3
  go_wp2_with fail
  refine HA.out.mono ?_
  rintro e w1 ⟨rfl, b1⟩
  go_wp2_with fail
  refine (own_any ao n cap l HL.out (by omega) w1 (HR.out.below b1)).mono ?_
  rintro e w2 ⟨au, cu, rfl, ou, b2⟩
  have B2 := below_next b1 b2
  go_wp2_with fail
  refine (own_any bo m dap k KL.out (by omega) w2 (KR.out.below B2)).mono ?_
  rintro e w3 ⟨av, cv, rfl, ov, b3⟩
  have B3 := below_next B2 b3
  have ou := ou.below b3
  have hcu := ou.le
  have hcv := ov.le
  have ou' : Rd w3 au l := by have := ou.rd.take l.length; rwa [List.take_left] at this
  have ov' : Rd w3 av k := by have := ov.rd.take k.length; rwa [List.take_left] at this
  go_wp2_with fail
  refine (wrap_u au n cu l HL.out (by omega) w3 (HT.out.below B3) ou').mono ?_
  rintro e w4 ⟨ax, cx, rfl, ox, b4⟩
  have B4 := below_next B3 b4
  have ou := ou.below b4
  have ov := ov.below b4
  have du := fun g hg => (ou.lt_size g hg).2
  have dv := fun g hg => (ov.lt_size g hg).2
  have hs4 := B4.size
  have ov' := ov'.below b4
  clear ou'
  go_wp2_with fail
  refine (unwrap_any av m cv k KL.out (by omega) (by omega) w4 (HT.out.below B4) ov').mono ?_
  rintro e w5 ⟨ay, cy, rfl, oy, b5⟩
  have B5 := below_next B4 b5
  have ou := ou.below b5
  have ov := ov.below b5
  have ox := ox.below b5
  clear ov'
  go_wp2_with fail
  refine (rwrap_u ao n cap l HL.out (by omega) w5 (HR.out.below B5)).mono ?_
  rintro e w6 ⟨aw, cw, rfl, ow, b6⟩
  have B6 := below_next B5 b6
  go_wp2_with fail
  refine (runwrap_any bo m dap k KL.out (by omega) (by omega) w6 (KR.out.below B6)).mono ?_
  rintro e w7 ⟨az, cz, rfl, oz, b7⟩
  have B7 := below_next B6 b7
  have b57 := below_next b6 b7
  have b57s := (below_next b5 b57).size
  have ou := ou.below b57
  have ov := ov.below b57
  have ox := ox.below b57
  have oy := oy.below b57
  have ow := ow.below b7
  have hwl := wl_lt l
  have huw := unw_lt k
  have hwe := we_ok l
  clear b1 b2 B2 b3 B3 b4 B4 b5 B5 b6 B6 b7 b57
  generalize wl l = X at *
  generalize we l = ex at *
  generalize wok l = okx at *
  generalize (unw k).1 = Y at *
  generalize (unw k).2 = ey at *
  go_wp2_with fail
  refine (same_any ax aw _ _ cx cw X X rfl rfl (by omega) w7 ox.rd ow.rd).mono ?_
  rintro e w8 ⟨rfl, b8⟩
  rw [beq_self_eq_true]
  have oy := oy.below b8
  have oz := oz.below b8
  go_wp2_with fail
  refine (same_any ay az _ _ cy cz Y Y rfl rfl (by omega) w8 oy.rd oz.rd).mono ?_
  rintro e w9 ⟨rfl, b9⟩
  rw [beq_self_eq_true]
  have B9 := below_next B7 (below_next b8 b9)
  have ou := ou.below (below_next b8 b9)
  have ov := ov.below (below_next b8 b9)
  have oy := oy.below b9
  have hs9 : w4.heap.size ≤ w9.heap.size := by have := b57s; have := b8.size; have := b9.size; omega
  have HS := Lib.hid (rsum_any s hs' bo m dap k KL.out (by omega))
  have HS' := Lib.hid (sum_any s hs' bo m dap k KL.out (by omega))
  clear ox ow oz b8 b9 B7 b57s
  generalize Y.length = N at *
  have OU := Lib.hid ou; have OV := Lib.hid ov; have OY := Lib.hid oy
  clear ou ov oy
  go_wp2_with fail
  go_loopw [20] (fun i wr => ∃ (j : Nat) (Y' : List Nat), j ≤ N ∧ i = .int .i64 (j : Int) ∧ Own wr w4.heap.size ay N cy Y' ∧ Keep (blk ay) w9 wr) (fun i _ => N - (intOf i).toNat)
  case atStart => exact ⟨0, Y, by omega, rfl, OY.out, Keep.refl _ _⟩
  case round =>
    obtain ⟨j, Y', hj, rfl, oy, ky⟩ := hrel
    by_cases hlt : j < N
    · obtain ⟨g, o, rfl, hg, hgs, hcell, hfr⟩ := oy.at_ j hlt
      have OY2 := Lib.hid oy; clear oy
      go_wp2_with fail
      go_roundw
      case rel => exact ⟨j + 1, _, by omega, by go_num, OY2.out.set j 9 hlt (by omega), ky.trans (show Keep (blk (some ⟨g, o, none⟩)) _ _ from Keep.setCell _ ⟨g, o + j, none⟩ _)⟩
      case measure => simp [intOf]; omega
    · obtain rfl : j = N := by omega
      have BR := (OY.out.base hs4).step B9 B9.size ky
      have kr := ky.size
      have ou := OU.out.keep ky (fun g hg hm => by have := du g hg; have := (OY.out.lt_size g hm).1; omega)
      have ov := OV.out.keep ky (fun g hg hm => by have := dv g hg; have := (OY.out.lt_size g hm).1; omega)
      have OY2 := Lib.hid (oy.below (below_alloc (Below.refl _ wr) (.cells #[u8v 9, u8v 9] 5)))
      have o99 := Lib.hid (Own.two wr 0 9 9 (by omega) (by omega) (Nat.zero_le _))
      have hsr : w4.heap.size ≤ (wr.alloc (.cells #[u8v 9, u8v 9] 5)).heap.size := by simp; omega
      have ouA := ou.below (below_alloc (Below.refl _ wr) (.cells #[u8v 9, u8v 9] 5))
      have ovA := ov.below (below_alloc (Below.refl _ wr) (.cells #[u8v 9, u8v 9] 5))
      have OU2 := Lib.hid ouA; have OV2 := Lib.hid ovA
      have BA := below_alloc BR (.cells #[u8v 9, u8v 9] 5)
      clear oy ou ov OU OV OY ky hlt ouA ovA BR B9
      go_wp2_with (at_builtin; refine wpList_app rfl (.tmp 63) (.tmp 64) rfl rfl OY2.out rfl o99.out.rd rfl hsr (by omega) ?_; intro ay2 cy2 w10 oy2 ky2 ny2)
      have ou := OU2.out.keep ky2 (fun g hg hm => by have := du g hg; have := (OY2.out.lt_size g hm).1; omega)
      have ov := OV2.out.keep ky2 (fun g hg hm => by have := dv g hg; have := (OY2.out.lt_size g hm).1; omega)
      have B10 := (OY2.out.base hs4).step BA BA.size ky2
      clear oy2 ny2 ky2 OU2 OV2 OY2 o99 BA
      refine (still_any au ao n cu cap l HL.out (by omega) (by omega) w10 ou.rd (HR.out.below B10)).mono ?_
      rintro e w11 ⟨rfl, b11⟩
      have ov := ov.below b11
      have B11 := below_next B10 b11
      go_wp2_with fail
      refine (still_any av bo m cv dap k KL.out (by omega) (by omega) w11 ov.rd (KR.out.below B11)).mono ?_
      rintro e w12 ⟨rfl, b12⟩
      have B12 := below_next B11 b12
      have S1 := Lib.hid (HS'.out w12 (HT.out.below B12) (KR.out.below B12))
      have S2 := Lib.hid (HS.out w12 (KR.out.below B12))
      clear ou ov b11 b12 B10 B11
      rcases hwe with ⟨rfl, rfl⟩ | ⟨rfl, rfl⟩
      all_goals
        go_wp2_with fail
        refine S1.out.mono ?_
        rintro e w13 ⟨rfl, rfl⟩
        go_wp2_with fail
        refine S2.out.mono ?_
        rintro e w13 ⟨rfl, rfl⟩
        go_wp2_with fail
        go_ret
        exact ⟨rfl, B12⟩
end Go.Proofs.YtbbafjgbcmlacaaDoor
