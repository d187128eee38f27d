/- NetPlays: a step of the twin: Send. -/
import Derived.Test.YthanjfnpohhebaaTst2
namespace Go.Proofs.Ythanjfnpohhebaa
open Go.RowKit Go.Sort
set_option linter.unusedVariables false
set_option linter.unusedSectionVars false
set_option linter.unusedSimpArgs false
set_option maxRecDepth 100000
theorem s1_keep {U : List Nat} {w w' : World} {tb bx : Nat} {a c d f v : Value} (h : w.cell? ⟨tb, 0, none⟩ = some a ∧ w.cell? ⟨tb, 1, none⟩ = some c ∧ w.cell? ⟨bx, 1, none⟩ = some d ∧ w.cell? ⟨bx, 2, none⟩ = some f ∧ w.cell? ⟨bx, 7, none⟩ = some v ∧ tb < w.heap.size ∧ bx < w.heap.size) (k : Keep U w w') (h1 : tb ∉ U) (h2 : bx ∉ U) :
    w'.cell? ⟨tb, 0, none⟩ = some a ∧ w'.cell? ⟨tb, 1, none⟩ = some c ∧ w'.cell? ⟨bx, 1, none⟩ = some d ∧ w'.cell? ⟨bx, 2, none⟩ = some f ∧ w'.cell? ⟨bx, 7, none⟩ = some v ∧ tb < w'.heap.size ∧ bx < w'.heap.size :=
  ⟨(k.cell h.2.2.2.2.2.1 h1).trans h.1, (k.cell h.2.2.2.2.2.1 h1).trans h.2.1, (k.cell h.2.2.2.2.2.2 h2).trans h.2.2.1, (k.cell h.2.2.2.2.2.2 h2).trans h.2.2.2.1, (k.cell h.2.2.2.2.2.2 h2).trans h.2.2.2.2.1, Nat.lt_of_lt_of_le h.2.2.2.2.2.1 k.size, Nat.lt_of_lt_of_le h.2.2.2.2.2.2 k.size⟩
theorem s1_below {w w' : World} {tb bx : Nat} {a c d f v : Value} (h : w.cell? ⟨tb, 0, none⟩ = some a ∧ w.cell? ⟨tb, 1, none⟩ = some c ∧ w.cell? ⟨bx, 1, none⟩ = some d ∧ w.cell? ⟨bx, 2, none⟩ = some f ∧ w.cell? ⟨bx, 7, none⟩ = some v ∧ tb < w.heap.size ∧ bx < w.heap.size) (b : Below w.heap.size w w') :
    w'.cell? ⟨tb, 0, none⟩ = some a ∧ w'.cell? ⟨tb, 1, none⟩ = some c ∧ w'.cell? ⟨bx, 1, none⟩ = some d ∧ w'.cell? ⟨bx, 2, none⟩ = some f ∧ w'.cell? ⟨bx, 7, none⟩ = some v ∧ tb < w'.heap.size ∧ bx < w'.heap.size := s1_keep h (Keep.of_below b []) (by simp) (by simp)
set_option maxHeartbeats 6400000 in
theorem tstep_1 {B tb hn nb room N : Nat} (w : World) (h : TwS w B tb hn nb room N) (hN : N ≤ 400) (fr dn at_ : Int) (id : Nat) (hid : id < 18446744073709551616) (raw : Bool) (b : Int) {xo : Option Addr} {n xc : Nat} {l : List Nat} (hln : l.length = n) (hnb : n ≤ 140737488351232) (hrd : ∀ w', Below B w w' → Rd w' xo l) (hxb : l ≠ [] → ∀ g ∈ blk xo, g < B) :
    Calls Try.prog 8 #[.pointer (some ⟨tb, 0, none⟩), .agg (opC 1 fr dn at_ id raw b (.slice xo n xc))] w (TstEnd B tb hn nb room N w) := by
  obtain ⟨tg, S, made, T, D, L, V, hw, hal, hlv, hmd, hT, hL⟩ := h
  have b0 := below_alloc (Below.refl w.heap.size w) (.cells (opC 1 fr dn at_ id raw b (.slice xo n xc)) 41)
  have q0 := heap_alloc_new w (.cells (opC 1 fr dn at_ id raw b (.slice xo n xc)) 41)
  have TID := Lib.hid (tid_any _ (hw.below b0) 1 fr dn at_ id hid raw b (.slice xo n xc))
  obtain ⟨Bs0, hn0, _⟩ := hw.net
  obtain ⟨hr1, hr2, hSr, hinc, hids, hlens⟩ := hn0.facts
  have HPID := Lib.hid (pickId_lt (raw := raw) hid hal (by omega) hids)
  obtain ⟨pid, hpid⟩ : ∃ x, pickId D raw id = x := ⟨_, rfl⟩
  rw [hpid] at TID HPID
  have HW := Lib.hid hw; have HAL := Lib.hid hal; have HLV := Lib.hid hlv; have HMD := Lib.hid hmd; have HT := Lib.hid hT; have HL := Lib.hid hL; have HINC := Lib.hid hinc; have HLENS := Lib.hid hlens; have HIDS := Lib.hid hids
  have HR1 := Lib.hid hr1; have HR2 := Lib.hid hr2; have HSR := Lib.hid hSr; have HNN := Lib.hid hN
  have HLO := Lib.hid hw.lo
  have B0 := Lib.hid b0; have Q0 := Lib.hid q0
  have HLN := Lib.hid hln; have HNB := Lib.hid hnb; have HRD := Lib.hid hrd; have HXB := Lib.hid hxb
  clear hln hnb hrd hxb
  clear hw hal hlv hmd hT hL b0 q0 hn0 hr1 hr2 hSr hinc hids hlens hpid hN
  go_enter Try.func8, Try.ntmps8
  go_wp2_with fail
  refine TID.out.mono ?_; rintro e w2 ⟨rfl, b2⟩
  go_upto_region 2 with (fail)
  have BW2 := Lib.hid (below_next B0.out b2)
  have H2 := Lib.hid (HW.out.below BW2.out)
  have Q2 := Lib.hid (row_keep Q0.out (Keep.of_below b2 []) (by simp))
  clear b2 TID Q0 B0
  obtain ⟨bx, hbx⟩ : ∃ x, x = w.heap.size := ⟨_, rfl⟩
  rw [← hbx]
  rw [← hbx] at Q2
  have HBX := Lib.hid hbx
  clear hbx
  have o0 := cell_of_row w2 bx 0 _ _ (0, 0) Q2.out
  simp only [List.getElem?_toArray, List.getElem?_cons_zero] at o0
  have HB2 := Lib.hid (Nat.le_trans HLO.out BW2.out.size)
  have o7 := cell_of_row w2 bx 7 _ _ (0, 0) Q2.out
  simp only [List.getElem?_toArray, List.getElem?_cons_zero, List.getElem?_cons_succ] at o7
  obtain ⟨Bs, hnet, hBt⟩ := HW.out.net
  obtain ⟨lo, lc, hr, hrt⟩ := HW.out.rn
  have HXBS := Lib.hid (show bx ∉ Bs from fun hm => by have := (hnet.blocks bx hm).2; have := HBX.out; omega)
  have HXR := Lib.hid (show bx ∉ rnB nb lo D from fun hm => by have := (hr.blocks bx hm).2; have := HBX.out; omega)
  have HNET2 := Lib.hid (hnet.below BW2.out); have HRN2 := Lib.hid (hr.below BW2.out)
  have HF2 := H2.out.setNet HNET2.out hBt HNET2.out (Turned.refl Bs w2)
  have hX2 : ∀ g ∈ Bs, tg g = 1 ∨ w2.heap.size ≤ g := fun g hg => .inl (hBt g hg)
  have TN := Lib.hid (show ∀ g, w2.heap.size ≤ g → retag tg w2.heap.size Bs 1 g = 7 from fun g hg => retag_left (fun hm => by have := (HNET2.out.blocks g hm).2; omega) (.inr hg))
  have HBT := Lib.hid (show ∀ g ∈ Bs, retag tg w2.heap.size Bs 1 g = 1 from fun g hg => retag_new hg)
  have HRT := Lib.hid (show ∀ g ∈ rnB nb lo D, retag tg w2.heap.size Bs 1 g = 2 from fun g hg => (retag_old (HRN2.out.blocks g hg).2 (by rw [hrt g hg]; decide) hX2).trans (hrt g hg))
  obtain ⟨tg2, htg2⟩ : ∃ f, f = retag tg w2.heap.size Bs 1 := ⟨_, rfl⟩
  rw [← htg2] at HF2 TN HBT HRT
  have HF := Lib.hid HF2
  have HHN := Lib.hid (show hn < w2.heap.size from by obtain ⟨gm, e, _⟩ := hnet; exact (HNET2.out.blocks hn (e ▸ List.mem_cons_self ..)).2)
  have OWN := Lib.hid (own_any n xc w2 (HRD.out w2 (BW2.out.mono HLO.out)) HLN.out (by have := HNB.out; omega))
  clear hnet hBt hr hrt hX2 htg2 HF2
  go_wp2_with fail
  refine OWN.out.mono ?_; rintro e w3 ⟨uo, uc, rfl, own3, b3⟩
  go_upto_region 5 with (fail)
  have B3 := Lib.hid (b3.mono HB2.out)
  have b3d := b3.trans ((Below.refl w3.heap.size w3).drew.mono b3.size)
  have H3 := Lib.hid (HF.out.below b3d)
  have HNET3 := Lib.hid (HNET2.out.below b3d); have HRN3 := Lib.hid (HRN2.out.below b3d)
  have OW3 := Lib.hid (own3.below (Below.refl w3.heap.size w3).drew)
  have Q3 := Lib.hid (row_keep Q2.out (Keep.of_below b3d []) (by simp))
  have B3d := Lib.hid (b3d.mono HB2.out)
  have HB3 := Lib.hid (Nat.le_trans HB2.out b3d.size)
  have q3 := row_keep Q2.out (Keep.of_below b3 []) (by simp)
  have hbl := (Array.getElem?_eq_some_iff.1 q3).1
  have o1 := cell_of_row w3 bx 1 _ _ (0, 0) q3
  have o2 := cell_of_row w3 bx 2 _ _ (0, 0) q3
  have p7 := cell_of_row w3 bx 7 _ _ (0, 0) q3
  simp only [List.getElem?_toArray, List.getElem?_cons_zero, List.getElem?_cons_succ] at o1 o2 p7
  obtain ⟨c0, c1, hlt⟩ := (HF.out.below b3).cells
  have HTB := Lib.hid (show tb ∉ Bs from fun hm => by have := HBT.out tb hm; have := HF.out.tt; omega)
  have HTR := Lib.hid (show tb ∉ rnB nb lo D from fun hm => by have := HRT.out tb hm; have := HF.out.tt; omega)
  have hS : w3.cell? ⟨tb, 0, none⟩ = some (.pointer (some ⟨hn, 0, none⟩)) ∧ w3.cell? ⟨tb, 1, none⟩ = some (.pointer (some ⟨nb, 0, none⟩)) ∧ w3.cell? ⟨bx, 1, none⟩ = some (.int .i64 fr) ∧ w3.cell? ⟨bx, 2, none⟩ = some (.int .i64 dn) ∧ w3.cell? ⟨bx, 7, none⟩ = some (.slice xo n xc) ∧ tb < w3.heap.size ∧ bx < w3.heap.size := ⟨c0, c1, o1, o2, p7, hlt, hbl⟩
  clear b3 b3d own3 OWN o0 o7 q3 c0 c1 o1 o2 p7 hlt hbl
  by_cases hlong : 65546 < n
  · have HLG := Lib.hid hlong
    have CA := Lib.hid (send_long (hn := hn) w3.drew fr dn uo n uc hlong (by have := HNB.out; omega))
    have b4 := Lib.hid (Below.refl w3.drew.heap.size w3.drew)
    have H4 := H3; have OW4 := OW3; have Q4 := Q3; have HRN4 := HRN3; have HRT4 := HRT
    have TU4 := Lib.hid (show ∀ g ∈ blk uo, tg2 g = 7 from fun g hg => TN.out g (OW3.out.lt_size g hg).1)
    have B4 := B3d
    have HB4 := HB3
    obtain ⟨tg4, htg4⟩ : ∃ f, f = tg2 := ⟨_, rfl⟩
    rw [← htg4] at H4 HRT4 TU4
    clear b4 htg4 H3 OW3 Q3 HRN3 HRT HF TN HBT HNET3 HNET2
    clear hlong
    go_region_held3 (fun w' => w'.cell? ⟨tb, 0, none⟩ = some (.pointer (some ⟨hn, 0, none⟩)) ∧ w'.cell? ⟨tb, 1, none⟩ = some (.pointer (some ⟨nb, 0, none⟩)) ∧ w'.cell? ⟨bx, 1, none⟩ = some (.int .i64 fr) ∧ w'.cell? ⟨bx, 2, none⟩ = some (.int .i64 dn) ∧ w'.cell? ⟨bx, 7, none⟩ = some (.slice xo n xc) ∧ tb < w'.heap.size ∧ bx < w'.heap.size)
      (first | assumption | exact s1_below (by assumption) (by assumption) | exact s1_below (by assumption) (Below.refl _ _).drew)
      (first
        | (go_at_call 14; refine CA.out.mono ?_; rintro e w4 ⟨rfl, rfl⟩))
    clear CA hS
    generalize w3.drew = w4 at *
    go_upto_region 6 with (fail)
    have b4d : Below w4.heap.size w4 w4.drew := (Below.refl w4.heap.size w4).drew
    have H5 := Lib.hid (H4.out.below b4d)
    have HRN5 := Lib.hid (HRN4.out.below b4d)
    have OW5 := Lib.hid (OW4.out.below b4d)
    have B5 := Lib.hid (B4.out.trans (b4d.mono HB4.out))
    have HB5 := Lib.hid (Nat.le_trans HB4.out b4d.size)
    have o1 := cell_of_row w4 bx 1 _ _ (0, 0) Q4.out
    have o2 := cell_of_row w4 bx 2 _ _ (0, 0) Q4.out
    have o7 := cell_of_row w4 bx 7 _ _ (0, 0) Q4.out
    simp only [List.getElem?_toArray, List.getElem?_cons_zero, List.getElem?_cons_succ] at o1 o2 o7
    have hbl := (Array.getElem?_eq_some_iff.1 Q4.out).1
    obtain ⟨c0, c1, hlt⟩ := H4.out.cells
    have hS : w4.cell? ⟨tb, 0, none⟩ = some (.pointer (some ⟨hn, 0, none⟩)) ∧ w4.cell? ⟨tb, 1, none⟩ = some (.pointer (some ⟨nb, 0, none⟩)) ∧ w4.cell? ⟨bx, 1, none⟩ = some (.int .i64 fr) ∧ w4.cell? ⟨bx, 2, none⟩ = some (.int .i64 dn) ∧ w4.cell? ⟨bx, 7, none⟩ = some (.slice xo n xc) ∧ tb < w4.heap.size ∧ bx < w4.heap.size := ⟨c0, c1, o1, o2, o7, hlt, hbl⟩
    clear b4d Q4 H4 HRN4 OW4 c0 c1 o1 o2 o7 hlt hbl
    have CB := Lib.hid (rsend_long w4.drew (.pointer (some ⟨nb, 0, none⟩)) fr dn xo n xc HLG.out (by have := HNB.out; omega))
    go_region_held3 (fun w' => w'.cell? ⟨tb, 0, none⟩ = some (.pointer (some ⟨hn, 0, none⟩)) ∧ w'.cell? ⟨tb, 1, none⟩ = some (.pointer (some ⟨nb, 0, none⟩)) ∧ w'.cell? ⟨bx, 1, none⟩ = some (.int .i64 fr) ∧ w'.cell? ⟨bx, 2, none⟩ = some (.int .i64 dn) ∧ w'.cell? ⟨bx, 7, none⟩ = some (.slice xo n xc) ∧ tb < w'.heap.size ∧ bx < w'.heap.size)
      (first | assumption | exact s1_below (by assumption) (by assumption) | exact s1_below (by assumption) (Below.refl _ _).drew)
      (first
        | (go_at_call 22; refine CB.out.mono ?_; rintro e w6 ⟨rfl, b6⟩))
    have H6 := Lib.hid (H5.out.below b6)
    have OW6 := Lib.hid (OW5.out.below b6)
    have TU6 := TU4
    have B6 := Lib.hid (B5.out.trans (b6.mono HB5.out))
    have HB6 := Lib.hid (Nat.le_trans HB5.out b6.size)
    clear b6 CB hS
    go_wp2_with fail
    go_loopw [11] (fun v11 wr => ∃ (j : Nat) (l' : List Nat), v11 = .int .i64 (j : Int) ∧ j ≤ n ∧ Keep (blk uo) w6 wr ∧ Own wr w2.heap.size uo n uc l') (fun v11 _ => n - (intOf v11).toNat)
    case atStart => exact ⟨0, l, rfl, Nat.zero_le _, Keep.refl _ _, OW6.out⟩
    case round =>
      obtain ⟨j, l', rfl, hj, hk, hown⟩ := hrel
      have HK := Lib.hid hk; have HOW := Lib.hid hown
      have hjj0 : (0 : Int) ≤ (j : Int) := by omega
      have hnb2 : (n : Int) ≤ 140737488351232 := by have := HNB.out; omega
      clear hk
      by_cases hjn : j < n
      · obtain ⟨g, o, rfl, hg, hgl, hc, hf⟩ := hown.at_ j hjn
        have hjjn : (j : Int) < (n : Int) := by omega
        have hcap := hown.le
        clear hown hg
        go_wp2_with fail
        go_roundw
        case rel => exact ⟨j + 1, l'.set j 99, by go_num, by omega, HK.out.trans (by simpa [blk] using Keep.setCell wr ⟨g, o + j, none⟩ (.int .u8 99)), HOW.out.set j 99 hjn (by decide)⟩
        case measure => simp [intOf]; omega
      · obtain rfl : j = n := by omega
        clear hown
        go_wp2_with fail
        go_ret
        exact ⟨rfl, ⟨_, _, made, T, _, L, V, H6.out.keep HK.out (fun g hg => by rw [TU6.out g hg]; exact Nat.le_refl _), HAL.out, HLV.out, Nat.le_succ_of_le HMD.out, HT.out.le (by omega), HL.out.succ⟩, ((BW2.out.mono HLO.out).trans B6.out).trans (HK.out.below HB6.out (fun g hg => Nat.le_trans HB2.out (OW6.out.lt_size g hg).1))⟩
  · by_cases hfull : S.length = room
    · have HLG := Lib.hid (show n ≤ 65546 by omega)
      have HFU := Lib.hid (show D.length = room by rw [← HAL.out.len]; exact hfull)
      have CA := Lib.hid (send_full w3.drew fr dn uo n uc HLG.out HNET3.out (Nat.le_of_eq hfull.symm))
      have b4 := Lib.hid (Below.refl w3.drew.heap.size w3.drew)
      have H4 := H3; have OW4 := OW3; have Q4 := Q3; have HRN4 := HRN3; have HRT4 := HRT
      have TU4 := Lib.hid (show ∀ g ∈ blk uo, tg2 g = 7 from fun g hg => TN.out g (OW3.out.lt_size g hg).1)
      have B4 := B3d
      have HB4 := HB3
      obtain ⟨tg4, htg4⟩ : ∃ f, f = tg2 := ⟨_, rfl⟩
      rw [← htg4] at H4 HRT4 TU4
      clear b4 htg4 H3 OW3 Q3 HRN3 HRT HF TN HBT HNET3 HNET2
      clear hlong hfull
      go_region_held3 (fun w' => w'.cell? ⟨tb, 0, none⟩ = some (.pointer (some ⟨hn, 0, none⟩)) ∧ w'.cell? ⟨tb, 1, none⟩ = some (.pointer (some ⟨nb, 0, none⟩)) ∧ w'.cell? ⟨bx, 1, none⟩ = some (.int .i64 fr) ∧ w'.cell? ⟨bx, 2, none⟩ = some (.int .i64 dn) ∧ w'.cell? ⟨bx, 7, none⟩ = some (.slice xo n xc) ∧ tb < w'.heap.size ∧ bx < w'.heap.size)
        (first | assumption | exact s1_below (by assumption) (by assumption) | exact s1_below (by assumption) (Below.refl _ _).drew)
        (first
          | (go_at_call 14; refine CA.out.mono ?_; rintro e w4 ⟨rfl, b4⟩))
      have H4 := Lib.hid (H4.out.below b4)
      have OW4 := Lib.hid (OW4.out.below b4)
      have HRN4 := Lib.hid (HRN4.out.below b4)
      have Q4 := Lib.hid (row_keep Q4.out (Keep.of_below b4 []) (by simp))
      have B4 := Lib.hid (B4.out.trans (b4.mono HB4.out))
      have HB4 := Lib.hid (Nat.le_trans HB4.out b4.size)
      clear CA b4 hS
      go_upto_region 6 with (fail)
      have b4d : Below w4.heap.size w4 w4.drew := (Below.refl w4.heap.size w4).drew
      have H5 := Lib.hid (H4.out.below b4d)
      have HRN5 := Lib.hid (HRN4.out.below b4d)
      have OW5 := Lib.hid (OW4.out.below b4d)
      have B5 := Lib.hid (B4.out.trans (b4d.mono HB4.out))
      have HB5 := Lib.hid (Nat.le_trans HB4.out b4d.size)
      have o1 := cell_of_row w4 bx 1 _ _ (0, 0) Q4.out
      have o2 := cell_of_row w4 bx 2 _ _ (0, 0) Q4.out
      have o7 := cell_of_row w4 bx 7 _ _ (0, 0) Q4.out
      simp only [List.getElem?_toArray, List.getElem?_cons_zero, List.getElem?_cons_succ] at o1 o2 o7
      have hbl := (Array.getElem?_eq_some_iff.1 Q4.out).1
      obtain ⟨c0, c1, hlt⟩ := H4.out.cells
      have hS : w4.cell? ⟨tb, 0, none⟩ = some (.pointer (some ⟨hn, 0, none⟩)) ∧ w4.cell? ⟨tb, 1, none⟩ = some (.pointer (some ⟨nb, 0, none⟩)) ∧ w4.cell? ⟨bx, 1, none⟩ = some (.int .i64 fr) ∧ w4.cell? ⟨bx, 2, none⟩ = some (.int .i64 dn) ∧ w4.cell? ⟨bx, 7, none⟩ = some (.slice xo n xc) ∧ tb < w4.heap.size ∧ bx < w4.heap.size := ⟨c0, c1, o1, o2, o7, hlt, hbl⟩
      clear b4d Q4 H4 HRN4 OW4 c0 c1 o1 o2 o7 hlt hbl
      have CB := Lib.hid (rsend_full w4.drew fr dn xo n xc HLG.out HRN5.out HFU.out)
      go_region_held3 (fun w' => w'.cell? ⟨tb, 0, none⟩ = some (.pointer (some ⟨hn, 0, none⟩)) ∧ w'.cell? ⟨tb, 1, none⟩ = some (.pointer (some ⟨nb, 0, none⟩)) ∧ w'.cell? ⟨bx, 1, none⟩ = some (.int .i64 fr) ∧ w'.cell? ⟨bx, 2, none⟩ = some (.int .i64 dn) ∧ w'.cell? ⟨bx, 7, none⟩ = some (.slice xo n xc) ∧ tb < w'.heap.size ∧ bx < w'.heap.size)
        (first | assumption | exact s1_below (by assumption) (by assumption) | exact s1_below (by assumption) (Below.refl _ _).drew)
        (first
          | (go_at_call 22; refine CB.out.mono ?_; rintro e w6 ⟨rfl, b6⟩))
      have H6 := Lib.hid (H5.out.below b6)
      have OW6 := Lib.hid (OW5.out.below b6)
      have TU6 := TU4
      have B6 := Lib.hid (B5.out.trans (b6.mono HB5.out))
      have HB6 := Lib.hid (Nat.le_trans HB5.out b6.size)
      clear b6 CB hS
      go_wp2_with fail
      go_loopw [11] (fun v11 wr => ∃ (j : Nat) (l' : List Nat), v11 = .int .i64 (j : Int) ∧ j ≤ n ∧ Keep (blk uo) w6 wr ∧ Own wr w2.heap.size uo n uc l') (fun v11 _ => n - (intOf v11).toNat)
      case atStart => exact ⟨0, l, rfl, Nat.zero_le _, Keep.refl _ _, OW6.out⟩
      case round =>
        obtain ⟨j, l', rfl, hj, hk, hown⟩ := hrel
        have HK := Lib.hid hk; have HOW := Lib.hid hown
        have hjj0 : (0 : Int) ≤ (j : Int) := by omega
        have hnb2 : (n : Int) ≤ 140737488351232 := by have := HNB.out; omega
        clear hk
        by_cases hjn : j < n
        · obtain ⟨g, o, rfl, hg, hgl, hc, hf⟩ := hown.at_ j hjn
          have hjjn : (j : Int) < (n : Int) := by omega
          have hcap := hown.le
          clear hown hg
          go_wp2_with fail
          go_roundw
          case rel => exact ⟨j + 1, l'.set j 99, by go_num, by omega, HK.out.trans (by simpa [blk] using Keep.setCell wr ⟨g, o + j, none⟩ (.int .u8 99)), HOW.out.set j 99 hjn (by decide)⟩
          case measure => simp [intOf]; omega
        · obtain rfl : j = n := by omega
          clear hown
          go_wp2_with fail
          go_ret
          exact ⟨rfl, ⟨_, _, made, T, _, L, V, H6.out.keep HK.out (fun g hg => by rw [TU6.out g hg]; exact Nat.le_refl _), HAL.out, HLV.out, Nat.le_succ_of_le HMD.out, HT.out.le (by omega), HL.out.succ⟩, ((BW2.out.mono HLO.out).trans B6.out).trans (HK.out.below HB6.out (fun g hg => Nat.le_trans HB2.out (OW6.out.lt_size g hg).1))⟩
    · have HLG := Lib.hid (show n ≤ 65546 by omega)
      have hf : S.length < room := by have := HSR.out; omega
      have HFU := Lib.hid (show D.length < room by rw [← HAL.out.len]; exact hf)
      have HM1 := Lib.hid (show made + 1 < 18446744073709551616 by have := HMD.out; have := HNN.out; omega)
      have HT1 := Lib.hid (show T.sent < 4611686018427387904 by have := HT.out.1; have := HNN.out; omega)
      have CA := Lib.hid (send_yes w3.drew fr dn (cap := uc) (M := made + 1) OW3.out.rd HLN.out HLG.out hf rfl HM1.out HNET3.out (fun g hg e => by have := (OW3.out.lt_size g hg).1; have := HHN.out; omega) HT1.out)
      clear hlong hfull hf
      go_region_held3 (fun w' => w'.cell? ⟨tb, 0, none⟩ = some (.pointer (some ⟨hn, 0, none⟩)) ∧ w'.cell? ⟨tb, 1, none⟩ = some (.pointer (some ⟨nb, 0, none⟩)) ∧ w'.cell? ⟨bx, 1, none⟩ = some (.int .i64 fr) ∧ w'.cell? ⟨bx, 2, none⟩ = some (.int .i64 dn) ∧ w'.cell? ⟨bx, 7, none⟩ = some (.slice xo n xc) ∧ tb < w'.heap.size ∧ bx < w'.heap.size)
        (first | assumption | exact s1_keep (by assumption) hk4 HTB.out HXBS.out | exact s1_below (by assumption) (by assumption) | exact s1_below (by assumption) (Below.refl _ _).drew)
        (first
          | (go_at_call 14; refine CA.out.mono ?_; rintro e w4 ⟨ao4, cap4, Bs4, rfl, hn4, t4⟩; have hk4 := t4.keep))
      have TU3 : ∀ g ∈ blk uo, tg2 g = 7 := fun g hg => TN.out g (OW3.out.lt_size g hg).1
      have hX : ∀ g ∈ Bs4, tg2 g = 1 ∨ w3.drew.heap.size ≤ g := fun g hg => (t4.new g hg).imp (HBT.out g) (fun h => h)
      have H4 := Lib.hid (H3.out.setNet HNET3.out HBT.out hn4 t4)
      have OW4 := Lib.hid (OW3.out.keep t4.keep (fun g hg hm => by have := TU3 g hg; have := HBT.out g hm; omega))
      have TU4 := Lib.hid (show ∀ g ∈ blk uo, retag tg2 w3.drew.heap.size Bs4 1 g = 7 from fun g hg => (retag_old (OW3.out.lt_size g hg).2 (by rw [TU3 g hg]; decide) hX).trans (TU3 g hg))
      have HRN4 := Lib.hid (HRN3.out.keep t4.keep (fun g hg hm => by have := HRT.out g hg; have := HBT.out g hm; omega))
      have HRT4 := Lib.hid (show ∀ g ∈ rnB nb lo D, retag tg2 w3.drew.heap.size Bs4 1 g = 2 from fun g hg => (retag_old (HRN3.out.blocks g hg).2 (by rw [HRT.out g hg]; decide) hX).trans (HRT.out g hg))
      have Q4 := Lib.hid (row_keep Q3.out t4.keep HXBS.out)
      have b4 := t4.below HB3.out (fun g hg => (HNET3.out.blocks g hg).1)
      have B4 := Lib.hid (B3d.out.trans b4)
      have HB4 := Lib.hid (Nat.le_trans HB3.out b4.size)
      obtain ⟨tg4, htg4⟩ : ∃ f, f = retag tg2 w3.drew.heap.size Bs4 1 := ⟨_, rfl⟩
      rw [← htg4] at H4 HRT4 TU4
      clear CA b4 hS hk4 hX TU3 hn4 t4 htg4 H3 OW3 Q3 HRN3 HRT HF TN HBT HNET3 HNET2
      go_upto_region 6 with (fail)
      have b4d : Below w4.heap.size w4 w4.drew := (Below.refl w4.heap.size w4).drew
      have H5 := Lib.hid (H4.out.below b4d)
      have HRN5 := Lib.hid (HRN4.out.below b4d)
      have OW5 := Lib.hid (OW4.out.below b4d)
      have B5 := Lib.hid (B4.out.trans (b4d.mono HB4.out))
      have HB5 := Lib.hid (Nat.le_trans HB4.out b4d.size)
      have o1 := cell_of_row w4 bx 1 _ _ (0, 0) Q4.out
      have o2 := cell_of_row w4 bx 2 _ _ (0, 0) Q4.out
      have o7 := cell_of_row w4 bx 7 _ _ (0, 0) Q4.out
      simp only [List.getElem?_toArray, List.getElem?_cons_zero, List.getElem?_cons_succ] at o1 o2 o7
      have hbl := (Array.getElem?_eq_some_iff.1 Q4.out).1
      obtain ⟨c0, c1, hlt⟩ := H4.out.cells
      have hS : w4.cell? ⟨tb, 0, none⟩ = some (.pointer (some ⟨hn, 0, none⟩)) ∧ w4.cell? ⟨tb, 1, none⟩ = some (.pointer (some ⟨nb, 0, none⟩)) ∧ w4.cell? ⟨bx, 1, none⟩ = some (.int .i64 fr) ∧ w4.cell? ⟨bx, 2, none⟩ = some (.int .i64 dn) ∧ w4.cell? ⟨bx, 7, none⟩ = some (.slice xo n xc) ∧ tb < w4.heap.size ∧ bx < w4.heap.size := ⟨c0, c1, o1, o2, o7, hlt, hbl⟩
      clear b4d Q4 H4 HRN4 OW4 c0 c1 o1 o2 o7 hlt hbl
      have CB := Lib.hid (rsend_yes w4.drew fr dn (cap := xc) (M := made + 1) (HRD.out w4.drew ((BW2.out.mono HLO.out).trans B5.out)) HLN.out HLG.out HFU.out HR2.out rfl HM1.out HRN5.out (fun hne g hg e => by have h1 := HXB.out hne g hg; have h2 := HRN5.out.base; omega) HT1.out)
      go_region_held3 (fun w' => w'.cell? ⟨tb, 0, none⟩ = some (.pointer (some ⟨hn, 0, none⟩)) ∧ w'.cell? ⟨tb, 1, none⟩ = some (.pointer (some ⟨nb, 0, none⟩)) ∧ w'.cell? ⟨bx, 1, none⟩ = some (.int .i64 fr) ∧ w'.cell? ⟨bx, 2, none⟩ = some (.int .i64 dn) ∧ w'.cell? ⟨bx, 7, none⟩ = some (.slice xo n xc) ∧ tb < w'.heap.size ∧ bx < w'.heap.size)
        (first | assumption | exact s1_keep (by assumption) hk6 HTR.out HXR.out | exact s1_below (by assumption) (by assumption) | exact s1_below (by assumption) (Below.refl _ _).drew)
        (first
          | (go_at_call 22; refine CB.out.mono ?_; rintro e w6 ⟨rfl, ao6, cap6, lo6, lc6, hr6, t6⟩; have hk6 := t6.keep))
      have hX : ∀ g ∈ rnB nb lo6 (D ++ [⟨made + 1, fr, dn, ao6, cap6, l⟩]), tg4 g = 2 ∨ w4.drew.heap.size ≤ g := fun g hg => (t6.new g hg).imp (HRT4.out g) (fun h => h)
      have H6 := Lib.hid (H5.out.setRef HRN5.out HRT4.out hr6 t6)
      have OW6 := Lib.hid (OW5.out.keep t6.keep (fun g hg hm => by have := TU4.out g hg; have := HRT4.out g hm; omega))
      have TU6 := Lib.hid (show ∀ g ∈ blk uo, retag tg4 w4.drew.heap.size (rnB nb lo6 (D ++ [⟨made + 1, fr, dn, ao6, cap6, l⟩])) 2 g = 7 from fun g hg => (retag_old (OW5.out.lt_size g hg).2 (by rw [TU4.out g hg]; decide) hX).trans (TU4.out g hg))
      have b6 := t6.below HB5.out (fun g hg => (HRN5.out.blocks g hg).1)
      have B6 := Lib.hid (B5.out.trans b6)
      have HB6 := Lib.hid (Nat.le_trans HB5.out b6.size)
      have e1 : (((made + 1 : Nat) : Int) == ((made + 1 : Nat) : Int)) = true := by simp
      clear b6 CB hS hk6 hX hr6 t6
      go_wp2_with fail
      go_loopw [11] (fun v11 wr => ∃ (j : Nat) (l' : List Nat), v11 = .int .i64 (j : Int) ∧ j ≤ n ∧ Keep (blk uo) w6 wr ∧ Own wr w2.heap.size uo n uc l') (fun v11 _ => n - (intOf v11).toNat)
      case atStart => exact ⟨0, l, rfl, Nat.zero_le _, Keep.refl _ _, OW6.out⟩
      case round =>
        obtain ⟨j, l', rfl, hj, hk, hown⟩ := hrel
        have HK := Lib.hid hk; have HOW := Lib.hid hown
        have hjj0 : (0 : Int) ≤ (j : Int) := by omega
        have hnb2 : (n : Int) ≤ 140737488351232 := by have := HNB.out; omega
        clear hk
        by_cases hjn : j < n
        · obtain ⟨g, o, rfl, hg, hgl, hc, hf⟩ := hown.at_ j hjn
          have hjjn : (j : Int) < (n : Int) := by omega
          have hcap := hown.le
          clear hown hg
          go_wp2_with fail
          go_roundw
          case rel => exact ⟨j + 1, l'.set j 99, by go_num, by omega, HK.out.trans (by simpa [blk] using Keep.setCell wr ⟨g, o + j, none⟩ (.int .u8 99)), HOW.out.set j 99 hjn (by decide)⟩
          case measure => simp [intOf]; omega
        · obtain rfl : j = n := by omega
          clear hown
          go_wp2_with fail
          go_ret
          exact ⟨rfl, ⟨_, _, made + 1, T.addSent, _, L, V, H6.out.keep HK.out (fun g hg => by rw [TU6.out g hg]; exact Nat.le_refl _), HAL.out.app rfl, HLV.out, Nat.succ_le_succ HMD.out, by have := HT.out; exact ⟨by have := this.1; show T.sent + 1 ≤ _; omega, by have := this.2.1; show T.twice ≤ _; omega, by have := this.2.2.1; show T.spoilt ≤ _; omega, by have := this.2.2.2.1; show T.taken ≤ _; omega, by have := this.2.2.2.2; show T.lost ≤ _; omega⟩, HL.out.succ⟩, ((BW2.out.mono HLO.out).trans B6.out).trans (HK.out.below HB6.out (fun g hg => Nat.le_trans HB2.out (OW6.out.lt_size g hg).1))⟩
end Go.Proofs.Ythanjfnpohhebaa
