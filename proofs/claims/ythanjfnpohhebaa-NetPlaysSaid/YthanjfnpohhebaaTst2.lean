/- NetPlays: a step of the twin: Take and Look. -/
import Derived.Test.YthanjfnpohhebaaTst
namespace Go.Proofs.Ythanjfnpohhebaa
open Go.RowKit Go.Sort
set_option linter.unusedVariables false
set_option linter.unusedSectionVars false
set_option linter.unusedSimpArgs false
set_option maxRecDepth 100000
set_option maxHeartbeats 6400000 in
theorem tstep_2 {B tb hn nb room N : Nat} (w : World) (h : TwS w B tb hn nb room N) (hN : N ≤ 400) (fr dn at_ : Int) (id : Nat) (hid : id < 18446744073709551616) (raw : Bool) (b : Int) (v : Value) :
    Calls Try.prog 8 #[.pointer (some ⟨tb, 0, none⟩), .agg (opC 2 fr dn at_ id raw b v)] w (TstEnd B tb hn nb room N w) := by
  obtain ⟨tg, S, made, T, D, L, V, hw, hal, hlv, hmd, hT, hL⟩ := h
  have b0 := below_alloc (Below.refl w.heap.size w) (.cells (opC 2 fr dn at_ id raw b v) 41)
  have q0 := heap_alloc_new w (.cells (opC 2 fr dn at_ id raw b v) 41)
  have TID := Lib.hid (tid_any _ (hw.below b0) 2 fr dn at_ id hid raw b v)
  obtain ⟨Bs0, hn0, _⟩ := hw.net
  obtain ⟨hr1, hr2, hSr, hinc, hids, hlens⟩ := hn0.facts
  have HPID := Lib.hid (pickId_lt (raw := raw) hid hal (by omega) hids)
  obtain ⟨pid, hpid⟩ : ∃ x, pickId D raw id = x := ⟨_, rfl⟩
  rw [hpid] at TID HPID
  have HW := Lib.hid hw; have HAL := Lib.hid hal; have HLV := Lib.hid hlv; have HMD := Lib.hid hmd; have HT := Lib.hid hT; have HL := Lib.hid hL; have HINC := Lib.hid hinc; have HLENS := Lib.hid hlens; have HIDS := Lib.hid hids
  have HR1 := Lib.hid hr1; have HR2 := Lib.hid hr2; have HSR := Lib.hid hSr; have HNN := Lib.hid hN
  have HLO := Lib.hid hw.lo
  have B0 := Lib.hid b0; have Q0 := Lib.hid q0
  clear hw hal hlv hmd hT hL b0 q0 hn0 hr1 hr2 hSr hinc hids hlens hpid hN
  go_enter Try.func8, Try.ntmps8
  go_wp2_with fail
  refine TID.out.mono ?_; rintro e w2 ⟨rfl, b2⟩
  go_upto_region 2 with (fail)
  have BW2 := Lib.hid (below_next B0.out b2)
  have H2 := Lib.hid (HW.out.below BW2.out)
  have Q2 := Lib.hid (row_keep Q0.out (Keep.of_below b2 []) (by simp))
  clear b2 TID Q0 B0
  obtain ⟨bx, hbx⟩ : ∃ x, x = w.heap.size := ⟨_, rfl⟩
  rw [← hbx]
  rw [← hbx] at Q2
  have HBX := Lib.hid hbx
  clear hbx
  have o0 := cell_of_row w2 bx 0 _ _ (0, 0) Q2.out
  simp only [List.getElem?_toArray, List.getElem?_cons_zero] at o0
  have HB2 := Lib.hid (Nat.le_trans HLO.out BW2.out.size)
  obtain ⟨c0, _, hlt⟩ := H2.out.cells
  obtain ⟨Bs, hnet, hBt⟩ := H2.out.net
  have HNET := Lib.hid hnet; have HBT := Lib.hid hBt
  clear hnet hBt
  cases hk : look S pid with
  | none =>
    have HK := Lib.hid hk
    have HNW := Lib.hid (HAL.out.nowhere hk)
    clear hk
    have CA := Lib.hid (show Calls Try.prog 15 #[.pointer (some ⟨hn, 0, none⟩), .int .u64 (pid : Int)] w2 fun e w' => e = .returned (.tuple #[zpk, .int .i64 72]) ∧ Below w2.heap.size w2 w' from by
      have hf := find_any pid HPID.out _ (HNET.out.below (below_alloc (Below.refl w2.heap.size w2) zobj))
      rw [show findE S pid = .tuple #[agv ⟨0, 0, 0, none, 0, []⟩, .int .i64 72] by unfold findE; rw [HK.out]; rfl] at hf
      exact take_no w2 _ pid ⟨0, 0, 0, none, 0, []⟩ 72 (by decide) hf)
    go_wp2_with fail
    refine CA.out.mono ?_; rintro e w3 ⟨rfl, b3⟩
    have H3 := Lib.hid (H2.out.below b3)
    have B3 := Lib.hid b3
    clear b3 c0 hlt o0 CA
    have bz := below_alloc (Below.refl w3.heap.size w3) (.cells #[.int .u64 0, .int .i64 0, .int .i64 0, .slice none 0 0] 52)
    have H4 := Lib.hid (H3.out.below bz)
    have BZx1 := Lib.hid bz
    have rx1 := heap_alloc_new w3 (.cells #[.int .u64 0, .int .i64 0, .int .i64 0, .slice none 0 0] 52)
    have Rx1 := Lib.hid rx1
    clear bz rx1
    go_upto_region 14 with (fail)
    generalize w3.alloc (.cells #[.int .u64 0, .int .i64 0, .int .i64 0, .slice none 0 0] 52) = w4 at *
    obtain ⟨x1, hx1⟩ : ∃ x, x = w3.heap.size := ⟨_, rfl⟩
    rw [← hx1] at Rx1
    try rw [← hx1]
    have Hx1 := Lib.hid hx1
    clear hx1
    obtain ⟨_, c1, hlt4⟩ := H4.out.cells
    obtain ⟨lo, lc, hr, hrt⟩ := H4.out.rn
    have CB := Lib.hid (rtake_none w4 pid false hr HNW.out)
    clear hr hrt
    go_wp2_with fail
    refine CB.out.mono ?_; rintro e w5 ⟨rfl, b5⟩
    have H5 := Lib.hid (H4.out.below b5)
    have B5 := Lib.hid b5
    clear b5 c1 hlt4 CB
    have bz := below_alloc (Below.refl w5.heap.size w5) (.cells #[.int .u64 0, .int .i64 0, .int .i64 0, .slice none 0 0] 52)
    have H6 := Lib.hid (H5.out.below bz)
    have BZx2 := Lib.hid bz
    have rx2 := heap_alloc_new w5 (.cells #[.int .u64 0, .int .i64 0, .int .i64 0, .slice none 0 0] 52)
    have Rx2 := Lib.hid rx2
    clear bz rx2
    go_upto_region 15 with (fail)
    generalize w5.alloc (.cells #[.int .u64 0, .int .i64 0, .int .i64 0, .slice none 0 0] 52) = w6 at *
    obtain ⟨x2, hx2⟩ : ∃ x, x = w5.heap.size := ⟨_, rfl⟩
    rw [← hx2] at Rx2
    try rw [← hx2]
    have Hx2 := Lib.hid hx2
    clear hx2
    have q1 := row_keep Rx1.out (Keep.of_below (B5.out.trans (BZx2.out.mono B5.out.size)) []) (by simp)
    have q2 := Rx2.out
    obtain ⟨z0, z1, z2, z3, _, _, _, _, hlz⟩ := Row4.all q1
    obtain ⟨y0, y1, y2, y3, _, _, _, _, hly⟩ := Row4.all q2
    have OUT := Lib.hid (tout_any w6 H6.out HLV.out.len (by have := HL.out.1; have := HNN.out; omega) 0 0 0 none 0 0 [] rfl (by decide) none 0 (Own.nil w6 B) (by simp [blk]) (Rd.nil w6 none) (by simp [blk]))
    clear q1 q2
    go_wp2_with fail
    refine OUT.out.mono ?_; rintro e w7 ⟨rfl, tg7, ao7, cap7, h7, b7⟩
    have H7 := Lib.hid h7; have B7 := Lib.hid b7
    clear h7 b7 z0 z1 z2 z3 y0 y1 y2 y3 hlz hly OUT
    go_wp2_with fail
    go_ret
    have s3 := Nat.le_trans HB2.out B3.out.size
    have s4 := Nat.le_trans s3 BZx1.out.size
    have s5 := Nat.le_trans s4 B5.out.size
    exact ⟨rfl, ⟨_, S, made, T, D, _, _, H7.out, HAL.out, HLV.out.app rfl, Nat.le_succ_of_le HMD.out, HT.out.le (by omega), HL.out.app (Nat.zero_le _)⟩, (((((BW2.out.mono HLO.out).trans (B3.out.mono HB2.out)).trans (BZx1.out.mono s3)).trans (B5.out.mono s4)).trans (BZx2.out.mono s5)).trans B7.out⟩
  | some p =>
    have HK := Lib.hid hk
    obtain ⟨k, q, hat, htq⟩ := HAL.out.look HINC.out hk
    obtain ⟨hps, -⟩ := look_some hk
    have hpo : Own w2 B p.ao p.data.length p.cap p.data := by
      obtain ⟨gm, _, hh⟩ := HNET.out
      exact hh.pk.own p hps
    have hpt : ∀ g ∈ blk p.ao, g ∈ Bs := fun g hg => by
      obtain ⟨gm, e, hh⟩ := HNET.out
      rw [e]
      exact List.mem_cons_of_mem _ (List.mem_cons_of_mem _ (bs_mem.2 ⟨p, hps, hg⟩))
    have hp6 := HLENS.out p hps
    obtain ⟨e1, e2, e3, e4⟩ := told_eq htq
    obtain ⟨pi, pf, pt, pao, pcap, pl⟩ := p
    obtain ⟨qi, qf, qt, qao, qcap, ql⟩ := q
    simp only at e1 e2 e3 e4 hpo hpt hp6
    subst e1 e2 e3 e4
    obtain ⟨n, hpl⟩ : ∃ n, pl.length = n := ⟨_, rfl⟩
    have HAG := Lib.hid (show agv ⟨pi, pf, pt, pao, pcap, pl⟩ = .agg #[.int .u64 (pi : Int), .int .i64 pf, .int .i64 pt, .slice pao n pcap] by rw [← hpl])
    have HAG2 := Lib.hid (show agv ⟨pi, pf, pt, qao, qcap, pl⟩ = .agg #[.int .u64 (pi : Int), .int .i64 pf, .int .i64 pt, .slice qao n qcap] by rw [← hpl])
    rw [hpl] at hpo hp6
    have HPO := Lib.hid hpo; have HPT := Lib.hid hpt; have HP6 := Lib.hid hp6; have HAT := Lib.hid hat; have HN := Lib.hid hpl
    have HT1 := Lib.hid (show T.taken < 4611686018427387904 by have := HT.out.2.2.2.1; have := HNN.out; omega)
    have CA := Lib.hid (take_yes w2 pid HPID.out HNET.out HK.out HT1.out)
    clear hk hat htq hps hpo hpt hp6 hpl
    go_wp2_with fail
    refine CA.out.mono ?_; rintro e w3 ⟨rfl, Bs3, hn3, k3, hs3, ha3⟩
    rw [HAG.out]
    have t3 : Turned Bs Bs3 w2 w3 := ⟨k3.mono (fun q hq => .inl (hs3 q hq)), fun q hq => .inl (hs3 q hq)⟩
    have H3 := Lib.hid (H2.out.setNet HNET.out HBT.out hn3 t3)
    have B3 := Lib.hid (t3.below HB2.out (fun g hg => (HNET.out.blocks g hg).1))
    have PO3 := Lib.hid (HPO.out.keep k3 ha3)
    have TG3 := Lib.hid (show ∀ g ∈ blk pao, retag tg w2.heap.size Bs3 1 g = 7 from fun g hg => retag_left (ha3 g hg) (.inl (HBT.out g (HPT.out g hg))))
    obtain ⟨tg3, htg3⟩ : ∃ f, f = retag tg w2.heap.size Bs3 1 := ⟨_, rfl⟩
    rw [← htg3] at H3 TG3
    clear hn3 k3 hs3 ha3 t3 c0 hlt o0 CA htg3
    have bz := below_alloc (Below.refl w3.heap.size w3) (.cells #[.int .u64 (pi : Int), .int .i64 pf, .int .i64 pt, .slice pao n pcap] 52)
    have H4 := Lib.hid (H3.out.below bz)
    have BZx1 := Lib.hid bz
    have rx1 := heap_alloc_new w3 (.cells #[.int .u64 (pi : Int), .int .i64 pf, .int .i64 pt, .slice pao n pcap] 52)
    have Rx1 := Lib.hid rx1
    clear bz rx1
    go_upto_region 14 with (fail)
    generalize w3.alloc (.cells #[.int .u64 (pi : Int), .int .i64 pf, .int .i64 pt, .slice pao n pcap] 52) = w4 at *
    obtain ⟨x1, hx1⟩ : ∃ x, x = w3.heap.size := ⟨_, rfl⟩
    rw [← hx1] at Rx1
    try rw [← hx1]
    have Hx1 := Lib.hid hx1
    clear hx1
    obtain ⟨_, c1, hlt4⟩ := H4.out.cells
    obtain ⟨lo, lc, hr, hrt⟩ := H4.out.rn
    have HRN := Lib.hid hr; have HRT := Lib.hid hrt
    have CB := Lib.hid (rtake_yes w4 pid hr HAT.out HT1.out)
    clear hr hrt
    go_wp2_with fail
    refine CB.out.mono ?_; rintro e w5 ⟨rfl, lo5, lc5, hr5, t5, kn5⟩
    rw [HAG2.out]
    have H5 := Lib.hid (H4.out.setRef HRN.out HRT.out hr5 t5)
    have s3 := Nat.le_trans HB2.out B3.out.size
    have HS4 := Lib.hid (Nat.le_trans s3 BZx1.out.size)
    have B5 := Lib.hid (t5.below HS4.out (fun g hg => (HRN.out.blocks g hg).1))
    have PO4 := PO3.out.below BZx1.out
    have hq4 := HRN.out.pk.own _ HAT.out.mem
    have hqb : ∀ g ∈ blk qao, g ∈ rnB nb lo D := fun g hg => List.mem_cons_of_mem _ (List.mem_append.2 (.inr (bs_mem.2 ⟨_, HAT.out.mem, hg⟩)))
    have hnb2 : tg3 nb = 2 := HRT.out nb (List.mem_cons_self ..)
    have PO5 := Lib.hid (PO4.keep kn5 (fun g hg hm => by have := TG3.out g hg; simp only [List.mem_singleton] at hm; rw [hm] at this; omega))
    have hqn : ∀ g ∈ blk qao, g ∉ [nb] := fun g hg hm => by
      simp only [List.mem_singleton] at hm
      exact HRN.out.n2 (hm ▸ bs_mem.2 ⟨_, HAT.out.mem, hg⟩)
    have QR5 := Lib.hid (hq4.rd.keep kn5 hqn)
    have hX : ∀ g ∈ rnB nb lo5 (D.take k ++ D.drop (k + 1)), tg3 g = 2 ∨ w4.heap.size ≤ g := fun g hg => (t5.new g hg).imp (HRT.out g) (fun h => h)
    have TG5 := Lib.hid (show ∀ g ∈ blk pao, 7 ≤ retag tg3 w4.heap.size (rnB nb lo5 (D.take k ++ D.drop (k + 1))) 2 g from fun g hg => by
      have e7 := TG3.out g hg
      rw [retag_old (PO4.lt_size g hg).2 (by rw [e7]; decide) hX, e7]; exact Nat.le_refl _)
    have TQ5 := Lib.hid (show ∀ g ∈ blk qao, retag tg3 w4.heap.size (rnB nb lo5 (D.take k ++ D.drop (k + 1))) 2 g ≠ 0 ∧ retag tg3 w4.heap.size (rnB nb lo5 (D.take k ++ D.drop (k + 1))) 2 g ≠ 3 from fun g hg => by
      by_cases hm : g ∈ rnB nb lo5 (D.take k ++ D.drop (k + 1))
      · rw [retag_new hm]; exact ⟨by decide, by decide⟩
      · rw [retag_left hm (.inl (HRT.out g (hqb g hg)))]; exact ⟨by decide, by decide⟩)
    obtain ⟨tg5, htg5⟩ : ∃ f, f = retag tg3 w4.heap.size (rnB nb lo5 (D.take k ++ D.drop (k + 1))) 2 := ⟨_, rfl⟩
    rw [← htg5] at H5 TG5 TQ5
    have hx1n : x1 ∉ [nb] := fun hm => by
      simp only [List.mem_singleton] at hm
      have := (H3.out.rn.elim fun lo h => h.elim fun lc h => (h.1.lt)); have := Hx1.out; omega
    have RX1 := Lib.hid (row_keep Rx1.out kn5 hx1n)
    clear hr5 t5 c1 hlt4 CB kn5 htg5 PO4 hq4 hqb hqn hX hx1n s3 hnb2
    have bz := below_alloc (Below.refl w5.heap.size w5) (.cells #[.int .u64 (pi : Int), .int .i64 pf, .int .i64 pt, .slice qao n qcap] 52)
    have H6 := Lib.hid (H5.out.below bz)
    have BZx2 := Lib.hid bz
    have rx2 := heap_alloc_new w5 (.cells #[.int .u64 (pi : Int), .int .i64 pf, .int .i64 pt, .slice qao n qcap] 52)
    have Rx2 := Lib.hid rx2
    clear bz rx2
    go_upto_region 15 with (fail)
    generalize w5.alloc (.cells #[.int .u64 (pi : Int), .int .i64 pf, .int .i64 pt, .slice qao n qcap] 52) = w6 at *
    obtain ⟨x2, hx2⟩ : ∃ x, x = w5.heap.size := ⟨_, rfl⟩
    rw [← hx2] at Rx2
    try rw [← hx2]
    have Hx2 := Lib.hid hx2
    clear hx2
    have q1 := row_keep RX1.out (Keep.of_below BZx2.out []) (by simp)
    have q2 := Rx2.out
    obtain ⟨z0, z1, z2, z3, _, _, _, _, hlz⟩ := Row4.all q1
    obtain ⟨y0, y1, y2, y3, _, _, _, _, hly⟩ := Row4.all q2
    have OUT := Lib.hid (tout_any w6 H6.out HLV.out.len (by have := HL.out.1; have := HNN.out; omega) pi pf pt pao n pcap pl HN.out HP6.out qao qcap (PO5.out.below BZx2.out) TG5.out (QR5.out.below BZx2.out) TQ5.out)
    clear q1 q2
    go_wp2_with fail
    refine OUT.out.mono ?_; rintro e w7 ⟨rfl, tg7, ao7, cap7, h7, b7⟩
    have H7 := Lib.hid h7; have B7 := Lib.hid b7
    clear h7 b7 z0 z1 z2 z3 y0 y1 y2 y3 hlz hly OUT
    go_wp2_with fail
    go_ret
    have s3 := Nat.le_trans HB2.out B3.out.size
    have s5 := Nat.le_trans HS4.out B5.out.size
    exact ⟨rfl, ⟨_, _, made, T.addTaken, _, _, _, H7.out, HAL.out.wo HINC.out HAT.out, HLV.out.app rfl, Nat.le_succ_of_le HMD.out, by have := HT.out; exact ⟨by have := this.1; show T.sent ≤ _; omega, by have := this.2.1; show T.twice ≤ _; omega, by have := this.2.2.1; show T.spoilt ≤ _; omega, by have := this.2.2.2.1; show T.taken + 1 ≤ _; omega, by have := this.2.2.2.2; show T.lost ≤ _; omega⟩, HL.out.app (by show pl.length ≤ _; rw [HN.out]; exact HP6.out)⟩, (((((BW2.out.mono HLO.out).trans B3.out).trans (BZx1.out.mono s3)).trans B5.out).trans (BZx2.out.mono s5)).trans B7.out⟩
theorem lay4_row {w : World} {bx : Nat} {d0 d1 d2 d3 : Value} (h : Row4 w bx d0 d1 d2 d3) (c0 c1 c2 c3 : Value) : Row4 (lay4 w bx c0 c1 c2 c3) bx c0 c1 c2 c3 :=
  heap_setCell_same _ bx 3 _ _ c3 (heap_setCell_same _ bx 2 _ _ c2 (heap_setCell_same _ bx 1 _ _ c1 (heap_setCell_same _ bx 0 _ _ c0 h)))
set_option maxHeartbeats 6400000 in
theorem tstep_3 {B tb hn nb room N : Nat} (w : World) (h : TwS w B tb hn nb room N) (hN : N ≤ 400) (fr dn at_ : Int) (id : Nat) (hid : id < 18446744073709551616) (raw : Bool) (b : Int) (v : Value) :
    Calls Try.prog 8 #[.pointer (some ⟨tb, 0, none⟩), .agg (opC 3 fr dn at_ id raw b v)] w (TstEnd B tb hn nb room N w) := by
  obtain ⟨tg, S, made, T, D, L, V, hw, hal, hlv, hmd, hT, hL⟩ := h
  have b0 := below_alloc (Below.refl w.heap.size w) (.cells (opC 3 fr dn at_ id raw b v) 41)
  have q0 := heap_alloc_new w (.cells (opC 3 fr dn at_ id raw b v) 41)
  have TID := Lib.hid (tid_any _ (hw.below b0) 3 fr dn at_ id hid raw b v)
  obtain ⟨Bs0, hn0, _⟩ := hw.net
  obtain ⟨hr1, hr2, hSr, hinc, hids, hlens⟩ := hn0.facts
  have HPID := Lib.hid (pickId_lt (raw := raw) hid hal (by omega) hids)
  obtain ⟨pid, hpid⟩ : ∃ x, pickId D raw id = x := ⟨_, rfl⟩
  rw [hpid] at TID HPID
  have HW := Lib.hid hw; have HAL := Lib.hid hal; have HLV := Lib.hid hlv; have HMD := Lib.hid hmd; have HT := Lib.hid hT; have HL := Lib.hid hL; have HINC := Lib.hid hinc; have HLENS := Lib.hid hlens; have HIDS := Lib.hid hids
  have HR1 := Lib.hid hr1; have HR2 := Lib.hid hr2; have HSR := Lib.hid hSr; have HNN := Lib.hid hN
  have HLO := Lib.hid hw.lo
  have B0 := Lib.hid b0; have Q0 := Lib.hid q0
  clear hw hal hlv hmd hT hL b0 q0 hn0 hr1 hr2 hSr hinc hids hlens hpid hN
  go_enter Try.func8, Try.ntmps8
  go_wp2_with fail
  refine TID.out.mono ?_; rintro e w2 ⟨rfl, b2⟩
  go_upto_region 2 with (fail)
  have BW2 := Lib.hid (below_next B0.out b2)
  have H2 := Lib.hid (HW.out.below BW2.out)
  have Q2 := Lib.hid (row_keep Q0.out (Keep.of_below b2 []) (by simp))
  clear b2 TID Q0 B0
  obtain ⟨bx, hbx⟩ : ∃ x, x = w.heap.size := ⟨_, rfl⟩
  rw [← hbx]
  rw [← hbx] at Q2
  have HBX := Lib.hid hbx
  clear hbx
  have o0 := cell_of_row w2 bx 0 _ _ (0, 0) Q2.out
  simp only [List.getElem?_toArray, List.getElem?_cons_zero] at o0
  have HB2 := Lib.hid (Nat.le_trans HLO.out BW2.out.size)
  obtain ⟨c0, _, hlt⟩ := H2.out.cells
  obtain ⟨Bs, hnet, hBt⟩ := H2.out.net
  have HNET := Lib.hid hnet
  have HF2 := H2.out.setNet hnet hBt hnet (Turned.refl Bs w2)
  have TN := Lib.hid (show ∀ g, w2.heap.size ≤ g → retag tg w2.heap.size Bs 1 g = 7 from fun g hg => retag_left (fun hm => by have := (hnet.blocks g hm).2; omega) (.inr hg))
  obtain ⟨tg2, htg2⟩ : ∃ f, f = retag tg w2.heap.size Bs 1 := ⟨_, rfl⟩
  rw [← htg2] at HF2 TN
  have HF := Lib.hid HF2
  clear hnet hBt htg2 HF2 H2
  cases hk : look S pid with
  | none =>
    have HNW := Lib.hid (HAL.out.nowhere hk)
    have CA := Lib.hid (look_any w2 pid HPID.out HNET.out)
    rw [show foundP S pid = ⟨0, 0, 0, none, 0, []⟩ by unfold foundP; rw [hk]; rfl, show foundE S pid = 72 by unfold foundE; rw [hk]; rfl] at CA
    dsimp only at CA
    clear hk
    go_wp2_with fail
    refine CA.out.mono ?_; rintro e w3 ⟨ao3, cap3, rfl, own3, b3⟩
    have H3 := Lib.hid (HF.out.below b3)
    have B3 := Lib.hid b3
    have OW3 := Lib.hid own3
    clear b3 c0 hlt o0 CA own3
    have bz := below_alloc (Below.refl w3.heap.size w3) (.cells #[.int .u64 0, .int .i64 0, .int .i64 0, .slice ao3 0 cap3] 52)
    have H4 := Lib.hid (H3.out.below bz)
    have BZx1 := Lib.hid bz
    have rx1 := heap_alloc_new w3 (.cells #[.int .u64 0, .int .i64 0, .int .i64 0, .slice ao3 0 cap3] 52)
    have Rx1 := Lib.hid rx1
    clear bz rx1
    go_upto_region 18 with (fail)
    generalize w3.alloc (.cells #[.int .u64 0, .int .i64 0, .int .i64 0, .slice ao3 0 cap3] 52) = w4 at *
    obtain ⟨x1, hx1⟩ : ∃ x, x = w3.heap.size := ⟨_, rfl⟩
    rw [← hx1] at Rx1
    try rw [← hx1]
    have Hx1 := Lib.hid hx1
    clear hx1
    have bz := below_alloc (Below.refl w4.heap.size w4) (.cells #[.int .u64 0, .int .i64 0, .int .i64 0, .slice none 0 0] 52)
    have H5 := Lib.hid (H4.out.below bz)
    have BZx2 := Lib.hid bz
    have rx2 := heap_alloc_new w4 (.cells #[.int .u64 0, .int .i64 0, .int .i64 0, .slice none 0 0] 52)
    have Rx2 := Lib.hid rx2
    clear bz rx2
    go_upto_region 19 with (fail)
    generalize w4.alloc (.cells #[.int .u64 0, .int .i64 0, .int .i64 0, .slice none 0 0] 52) = w5 at *
    obtain ⟨x2, hx2⟩ : ∃ x, x = w4.heap.size := ⟨_, rfl⟩
    rw [← hx2] at Rx2
    try rw [← hx2]
    have Hx2 := Lib.hid hx2
    clear hx2
    obtain ⟨_, c1, hlt5⟩ := H5.out.cells
    obtain ⟨lo, lc, hr, hrt⟩ := H5.out.rn
    have CB := Lib.hid (place_no hr HNW.out)
    clear hr hrt
    go_wp2_with fail
    refine CB.out.mono ?_; rintro e w6 ⟨rfl, rfl⟩
    have q1 := row_keep Rx1.out (Keep.of_below BZx2.out []) (by simp)
    have q2 := Rx2.out
    obtain ⟨z0, z1, z2, z3, _, _, _, _, hlz⟩ := Row4.all q1
    obtain ⟨y0, y1, y2, y3, _, _, _, _, hly⟩ := Row4.all q2
    have OW4 := OW3.out.below BZx1.out
    have OW5 := OW4.below BZx2.out
    have OUT := Lib.hid (tout_any w5 H5.out HLV.out.len (by have := HL.out.1; have := HNN.out; omega) 0 0 0 ao3 0 cap3 [] rfl (by decide) none 0 (OW5.base HB2.out) (fun g hg => Nat.le_of_eq (TN.out g (OW3.out.lt_size g hg).1).symm) (Rd.nil w5 none) (by simp [blk]))
    clear q1 q2 OW4 OW5 CB c1 hlt5
    go_wp2_with fail
    refine OUT.out.mono ?_; rintro e w7 ⟨rfl, tg7, ao7, cap7, h7, b7⟩
    have H7 := Lib.hid h7; have B7 := Lib.hid b7
    clear h7 b7 z0 z1 z2 z3 y0 y1 y2 y3 hlz hly OUT
    go_wp2_with fail
    go_ret
    have s3 := Nat.le_trans HB2.out B3.out.size
    have s4 := Nat.le_trans s3 BZx1.out.size
    exact ⟨rfl, ⟨_, S, made, T, D, _, _, H7.out, HAL.out, HLV.out.app rfl, Nat.le_succ_of_le HMD.out, HT.out.le (by omega), HL.out.app (Nat.zero_le _)⟩, ((((BW2.out.mono HLO.out).trans (B3.out.mono HB2.out)).trans (BZx1.out.mono s3)).trans (BZx2.out.mono s4)).trans B7.out⟩
  | some p =>
    obtain ⟨k, q, hat, htq⟩ := HAL.out.look HINC.out hk
    obtain ⟨hps, -⟩ := look_some hk
    have hp6 := HLENS.out p hps
    obtain ⟨e1, e2, e3, e4⟩ := told_eq htq
    obtain ⟨pi, pf, pt, pao, pcap, pl⟩ := p
    obtain ⟨qi, qf, qt, qao, qcap, ql⟩ := q
    simp only at e1 e2 e3 e4 hp6
    subst e1 e2 e3 e4
    have CA := Lib.hid (look_any w2 pid HPID.out HNET.out)
    rw [show foundP S pid = ⟨pi, pf, pt, pao, pcap, pl⟩ by unfold foundP; rw [hk]; rfl, show foundE S pid = 0 by unfold foundE; rw [hk]; rfl] at CA
    dsimp only at CA
    obtain ⟨n, hpl⟩ : ∃ n, pl.length = n := ⟨_, rfl⟩
    rw [hpl] at hp6 CA
    have HAG := Lib.hid (show ∀ ao cap, agv ⟨pi, pf, pt, ao, cap, pl⟩ = .agg #[.int .u64 (pi : Int), .int .i64 pf, .int .i64 pt, .slice ao n cap] from fun ao cap => by rw [← hpl])
    have HSL := Lib.hid (show (⟨pi, pf, pt, qao, qcap, pl⟩ : Pkt).sl = .slice qao n qcap by rw [← hpl])
    have HP6 := Lib.hid hp6; have HAT := Lib.hid hat; have HN := Lib.hid hpl
    clear hk hat htq hps hp6 hpl
    go_wp2_with fail
    refine CA.out.mono ?_; rintro e w3 ⟨ao3, cap3, rfl, own3, b3⟩
    rw [HAG.out]
    have H3 := Lib.hid (HF.out.below b3)
    have B3 := Lib.hid b3
    have OW3 := Lib.hid own3
    clear b3 c0 hlt o0 CA own3
    have bz := below_alloc (Below.refl w3.heap.size w3) (.cells #[.int .u64 (pi : Int), .int .i64 pf, .int .i64 pt, .slice ao3 n cap3] 52)
    have H4 := Lib.hid (H3.out.below bz)
    have BZx1 := Lib.hid bz
    have rx1 := heap_alloc_new w3 (.cells #[.int .u64 (pi : Int), .int .i64 pf, .int .i64 pt, .slice ao3 n cap3] 52)
    have Rx1 := Lib.hid rx1
    clear bz rx1
    go_upto_region 18 with (fail)
    generalize w3.alloc (.cells #[.int .u64 (pi : Int), .int .i64 pf, .int .i64 pt, .slice ao3 n cap3] 52) = w4 at *
    obtain ⟨x1, hx1⟩ : ∃ x, x = w3.heap.size := ⟨_, rfl⟩
    rw [← hx1] at Rx1
    try rw [← hx1]
    have Hx1 := Lib.hid hx1
    clear hx1
    have bz := below_alloc (Below.refl w4.heap.size w4) (.cells #[.int .u64 0, .int .i64 0, .int .i64 0, .slice none 0 0] 52)
    have H5 := Lib.hid (H4.out.below bz)
    have BZx2 := Lib.hid bz
    have rx2 := heap_alloc_new w4 (.cells #[.int .u64 0, .int .i64 0, .int .i64 0, .slice none 0 0] 52)
    have Rx2 := Lib.hid rx2
    clear bz rx2
    go_upto_region 19 with (fail)
    generalize w4.alloc (.cells #[.int .u64 0, .int .i64 0, .int .i64 0, .slice none 0 0] 52) = w5 at *
    obtain ⟨x2, hx2⟩ : ∃ x, x = w4.heap.size := ⟨_, rfl⟩
    rw [← hx2] at Rx2
    try rw [← hx2]
    have Hx2 := Lib.hid hx2
    clear hx2
    obtain ⟨_, c1, hlt5⟩ := H5.out.cells
    obtain ⟨lo, lc, hr, hrt⟩ := H5.out.rn
    have HRN := Lib.hid hr; have HRT := Lib.hid hrt
    have CB := Lib.hid (place_yes hr HAT.out)
    obtain ⟨g, rfl, hg, hc⟩ := hr.pkt HAT.out.1
    obtain ⟨m, hm⟩ : ∃ m, D.length = m := ⟨_, rfl⟩
    have hkm : k < m := by rw [← hm]; exact (List.getElem?_eq_some_iff.1 HAT.out.1).1
    have hmb : (m : Int) ≤ 4096 := by have := hr.few; omega
    have hki : (k : Int) < (m : Int) := by omega
    have hk0 : (0 : Int) ≤ (k : Int) := by omega
    have r2 := hr.at_ 2
    simp only [rowR, List.getElem?_toArray, List.getElem?_cons_succ, List.getElem?_cons_zero] at r2
    rw [hm] at r2
    have d0 := hc 0 (by omega)
    have d1 := hc 1 (by omega)
    have d2 := hc 2 (by omega)
    have d3 := hc 3 (by omega)
    simp only [List.getElem?_cons_succ, List.getElem?_cons_zero, Nat.add_zero] at d0 d1 d2 d3
    rw [HSL.out] at d3
    obtain ⟨y0, y1, y2, y3, e0, e1, e2, e3, hly⟩ := Row4.all Rx2.out
    clear hr hrt hc hm
    go_wp2_with fail
    refine CB.out.mono ?_; rintro e w6 ⟨rfl, rfl⟩
    clear CB
    go_upto_region 22 with (fail)
    have k6 : Keep [x2] w5 ((((w5.setCell ⟨x2, 0, none⟩ (.int .u64 (pi : Int))).setCell ⟨x2, 1, none⟩ (.int .i64 pf)).setCell ⟨x2, 2, none⟩ (.int .i64 pt)).setCell ⟨x2, 3, none⟩ (.slice qao n qcap)) := lay4_keep w5 x2 (.int .u64 (pi : Int)) (.int .i64 pf) (.int .i64 pt) (.slice qao n qcap)
    have r6 : Row4 ((((w5.setCell ⟨x2, 0, none⟩ (.int .u64 (pi : Int))).setCell ⟨x2, 1, none⟩ (.int .i64 pf)).setCell ⟨x2, 2, none⟩ (.int .i64 pt)).setCell ⟨x2, 3, none⟩ (.slice qao n qcap)) x2 (.int .u64 (pi : Int)) (.int .i64 pf) (.int .i64 pt) (.slice qao n qcap) := lay4_row Rx2.out (.int .u64 (pi : Int)) (.int .i64 pf) (.int .i64 pt) (.slice qao n qcap)
    generalize (((w5.setCell ⟨x2, 0, none⟩ (.int .u64 (pi : Int))).setCell ⟨x2, 1, none⟩ (.int .i64 pf)).setCell ⟨x2, 2, none⟩ (.int .i64 pt)).setCell ⟨x2, 3, none⟩ (.slice qao n qcap) = w6 at *
    have K6 := Lib.hid k6; have R6 := Lib.hid r6
    clear c1 hlt5 hmb hki hk0 r2 d0 d1 d2 d3 y0 y1 y2 y3 e0 e1 e2 e3 hly k6 r6 hg hkm
    have hx2 : w2.heap.size ≤ x2 := by have := Hx2.out; have := BZx1.out.size; have := B3.out.size; omega
    have hx1 : w2.heap.size ≤ x1 := by have := Hx1.out; have := B3.out.size; omega
    have hx12 : x1 ≠ x2 := by have := Hx2.out; have := (Array.getElem?_eq_some_iff.1 Rx1.out).1; omega
    have H6 := Lib.hid (H5.out.keep K6.out (fun g hg => by simp only [List.mem_singleton] at hg; rw [hg, TN.out x2 hx2]; exact Nat.le_refl _))
    have q1 := row_keep (row_keep Rx1.out (Keep.of_below BZx2.out []) (by simp)) K6.out (by simpa using hx12)
    have q2 := R6.out
    obtain ⟨z0, z1, z2, z3, _, _, _, _, hlz⟩ := Row4.all q1
    obtain ⟨y0, y1, y2, y3, _, _, _, _, hly⟩ := Row4.all q2
    have OW4 := OW3.out.below BZx1.out
    have hx3 : ∀ g ∈ blk ao3, g ∉ [x2] := fun g hg hm => by
      simp only [List.mem_singleton] at hm
      have h1 := (OW4.lt_size g hg).2; have := Hx2.out; omega
    have OW6 := (OW4.below BZx2.out).keep K6.out hx3
    have hq5 := HRN.out.pk.own _ HAT.out.mem
    have hqt : ∀ g ∈ blk qao, tg2 g = 2 := fun g hg => HRT.out g (List.mem_cons_of_mem _ (List.mem_append.2 (.inr (bs_mem.2 ⟨_, HAT.out.mem, hg⟩))))
    have hqx : ∀ g ∈ blk qao, g ∉ [x2] := fun g hg hm => by
      simp only [List.mem_singleton] at hm
      have h1 := hqt g hg; rw [hm, TN.out x2 hx2] at h1; omega
    have OUT := Lib.hid (tout_any w6 H6.out HLV.out.len (by have := HL.out.1; have := HNN.out; omega) pi pf pt ao3 n cap3 pl HN.out HP6.out qao qcap (OW6.base HB2.out) (fun g hg => Nat.le_of_eq (TN.out g (OW3.out.lt_size g hg).1).symm) (hq5.rd.keep K6.out hqx) (fun g hg => by rw [hqt g hg]; exact ⟨by decide, by decide⟩))
    have B6 := Lib.hid (K6.out.below (Nat.le_trans HB2.out (Nat.le_trans (Nat.le_trans B3.out.size BZx1.out.size) BZx2.out.size)) (fun g hg => by simp only [List.mem_singleton] at hg; rw [hg]; exact Nat.le_trans HB2.out hx2))
    clear q1 q2 OW4 OW6 hx3 hq5 hqt hqx hx1 hx2 hx12
    have hk0 : (0 : Int) ≤ (k : Int) := by omega
    go_wp2_with fail
    refine OUT.out.mono ?_; rintro e w7 ⟨rfl, tg7, ao7, cap7, h7, b7⟩
    have H7 := Lib.hid h7; have B7 := Lib.hid b7
    clear h7 b7 z0 z1 z2 z3 y0 y1 y2 y3 hlz hly OUT
    go_wp2_with fail
    go_ret
    have s3 := Nat.le_trans HB2.out B3.out.size
    have s4 := Nat.le_trans s3 BZx1.out.size
    exact ⟨rfl, ⟨_, S, made, T, D, _, _, H7.out, HAL.out, HLV.out.app rfl, Nat.le_succ_of_le HMD.out, HT.out.le (by omega), HL.out.app (by show pl.length ≤ _; rw [HN.out]; exact HP6.out)⟩, (((((BW2.out.mono HLO.out).trans (B3.out.mono HB2.out)).trans (BZx1.out.mono s3)).trans (BZx2.out.mono s4)).trans B6.out).trans B7.out⟩
end Go.Proofs.Ythanjfnpohhebaa
