/- NetPlays: a step of the twin. -/
import Derived.Test.YthanjfnpohhebaaTout
namespace Go.Proofs.Ythanjfnpohhebaa
open Go.RowKit Go.Sort
set_option linter.unusedVariables false
set_option linter.unusedSectionVars false
set_option linter.unusedSimpArgs false
set_option maxRecDepth 100000
/-- what came out: so many packets, none of them great -/
def Few (L : List Pkt) (N : Nat) : Prop := L.length ≤ N ∧ ∀ p ∈ L, p.data.length ≤ 65546
theorem Few.succ {L : List Pkt} {N : Nat} (h : Few L N) : Few L (N + 1) := ⟨Nat.le_succ_of_le h.1, h.2⟩
theorem Few.app {L : List Pkt} {N : Nat} (h : Few L N) {p : Pkt} (hp : p.data.length ≤ 65546) : Few (L ++ [p]) (N + 1) :=
  ⟨by rw [List.length_append]; exact Nat.add_le_add_right h.1 1, fun x hx => by
    rcases List.mem_append.1 hx with hx | hx
    · exact h.2 x hx
    · rw [List.mem_singleton] at hx; rw [hx]; exact hp⟩
/-- both nets alike, behind at most N steps -/
def TwS (w : World) (B tb hn nb room N : Nat) : Prop := ∃ tg S made T D L V, TwW w B tb tg hn nb room S made T D made T L V ∧ Alike S D ∧ Alike L V ∧ made ≤ N ∧ T.small (4096 * N) ∧ Few L N
/-- what a step ends in -/
def TstEnd (B tb hn nb room N : Nat) (w : World) (e : Ending) (w' : World) : Prop := e = .returned (.bool true) ∧ TwS w' B tb hn nb room (N + 1) ∧ Below B w w'
theorem Tr.small.le {T : Tr} {k m : Nat} (h : T.small k) (hk : k ≤ m) : T.small m := by
  obtain ⟨a, b, c, d, e⟩ := h
  exact ⟨by omega, by omega, by omega, by omega, by omega⟩
theorem Net.facts {w : World} {B hn room made : Nat} {Bs : List Nat} {S : List Pkt} {T : Tr} (h : Net w B hn Bs S room made T) : 1 ≤ room ∧ room ≤ 4096 ∧ S.length ≤ room ∧ Inc S ∧ (∀ p ∈ S, 1 ≤ p.id ∧ p.id ≤ made) ∧ ∀ p ∈ S, p.data.length ≤ 65546 := by
  obtain ⟨gm, _, h⟩ := h
  exact ⟨h.rm.1, h.rm.2, h.few, h.inc, h.ids, h.lens⟩
theorem pickId_lt {S D : List Pkt} {raw : Bool} {id made : Nat} (hid : id < 18446744073709551616) (ha : Alike S D) (hm : made < 18446744073709551616) (hs : ∀ p ∈ S, 1 ≤ p.id ∧ p.id ≤ made) : pickId D raw id < 18446744073709551616 := by
  unfold pickId
  split
  · exact hid
  · cases hk : D[id % D.length]? with
    | none => show 0 < _; omega
    | some q =>
      obtain ⟨p, hp, e⟩ := ha.symm.at_ hk
      have := (hs p (List.mem_of_getElem? hp)).2
      have := (told_eq e).1
      show q.id < _
      omega
set_option maxHeartbeats 6400000 in
theorem tstep_list {B tb hn nb room N : Nat} (w : World) (h : TwS w B tb hn nb room N) (hN : N ≤ 400) {kind : Int} (hk1 : kind ≠ 1) (hk2 : kind ≠ 2) (hk3 : kind ≠ 3) (hk4 : kind ≠ 4) (hk5 : kind ≠ 5) (hk6 : kind ≠ 6) (hk7 : kind ≠ 7) (fr dn at_ : Int) (id : Nat) (hid : id < 18446744073709551616) (raw : Bool) (b : Int) (v : Value) :
    Calls Try.prog 8 #[.pointer (some ⟨tb, 0, none⟩), .agg (opC kind fr dn at_ id raw b v)] w (TstEnd B tb hn nb room N w) := by
  obtain ⟨tg, S, made, T, D, L, V, hw, hal, hlv, hmd, hT, hL⟩ := h
  have b0 := below_alloc (Below.refl w.heap.size w) (.cells (opC kind fr dn at_ id raw b v) 41)
  have q0 := heap_alloc_new w (.cells (opC kind fr dn at_ id raw b v) 41)
  have TID := Lib.hid (tid_any _ (hw.below b0) kind fr dn at_ id hid raw b v)
  obtain ⟨Bs0, hn0, _⟩ := hw.net
  obtain ⟨hr1, hr2, hSr, hinc, hids, hlens⟩ := hn0.facts
  have HPID := Lib.hid (pickId_lt (raw := raw) hid hal (by omega) hids)
  obtain ⟨pid, hpid⟩ : ∃ x, pickId D raw id = x := ⟨_, rfl⟩
  rw [hpid] at TID HPID
  have HW := Lib.hid hw; have HAL := Lib.hid hal; have HLV := Lib.hid hlv; have HMD := Lib.hid hmd; have HT := Lib.hid hT; have HL := Lib.hid hL; have HINC := Lib.hid hinc; have HLENS := Lib.hid hlens; have HIDS := Lib.hid hids
  have HR1 := Lib.hid hr1; have HR2 := Lib.hid hr2; have HSR := Lib.hid hSr; have HNN := Lib.hid hN
  have HLO := Lib.hid hw.lo
  have B0 := Lib.hid b0; have Q0 := Lib.hid q0
  clear hw hal hlv hmd hT hL b0 q0 hn0 hr1 hr2 hSr hinc hids hlens hpid hN
  have k1 : (kind == 1) = false := by simpa using hk1
  have k2 : (kind == 2) = false := by simpa using hk2
  have k3 : (kind == 3) = false := by simpa using hk3
  have k4 : (kind == 4) = false := by simpa using hk4
  have k5 : (kind == 5) = false := by simpa using hk5
  have k6 : (kind == 6) = false := by simpa using hk6
  have k7 : (kind == 7) = false := by simpa using hk7
  go_enter Try.func8, Try.ntmps8
  go_wp2_with fail
  refine TID.out.mono ?_; rintro e w2 ⟨rfl, b2⟩
  go_upto_region 2 with (fail)
  have BW2 := Lib.hid (below_next B0.out b2)
  have H2 := Lib.hid (HW.out.below BW2.out)
  have Q2 := Lib.hid (row_keep Q0.out (Keep.of_below b2 []) (by simp))
  clear b2 TID Q0 B0
  obtain ⟨bx, hbx⟩ : ∃ x, x = w.heap.size := ⟨_, rfl⟩
  rw [← hbx]
  rw [← hbx] at Q2
  have HBX := Lib.hid hbx
  clear hbx
  have o0 := cell_of_row w2 bx 0 _ _ (0, 0) Q2.out
  simp only [List.getElem?_toArray, List.getElem?_cons_zero] at o0
  trace_state
  obtain ⟨c0, c1, hlt⟩ := H2.out.cells
  have TL := Lib.hid (tlist_any w2 H2.out HAL.out (by have := HMD.out; have := HNN.out; omega))
  go_wp2_with fail
  refine TL.out.mono ?_; rintro e w3 ⟨rfl, b3⟩
  have B3 := Lib.hid b3
  clear b3
  go_wp2_with fail
  go_ret
  exact ⟨rfl, ⟨tg, S, made, T, D, L, V, H2.out.below B3.out, HAL.out, HLV.out, Nat.le_succ_of_le HMD.out, HT.out.le (by omega), HL.out.succ⟩, (BW2.out.mono HLO.out).trans (B3.out.mono (Nat.le_trans HLO.out BW2.out.size))⟩
set_option maxHeartbeats 6400000 in
theorem tstep_5 {B tb hn nb room N : Nat} (w : World) (h : TwS w B tb hn nb room N) (hN : N ≤ 400) (fr dn at_ : Int) (id : Nat) (hid : id < 18446744073709551616) (raw : Bool) (b : Int) (v : Value) :
    Calls Try.prog 8 #[.pointer (some ⟨tb, 0, none⟩), .agg (opC 5 fr dn at_ id raw b v)] w (TstEnd B tb hn nb room N w) := by
  obtain ⟨tg, S, made, T, D, L, V, hw, hal, hlv, hmd, hT, hL⟩ := h
  have b0 := below_alloc (Below.refl w.heap.size w) (.cells (opC 5 fr dn at_ id raw b v) 41)
  have q0 := heap_alloc_new w (.cells (opC 5 fr dn at_ id raw b v) 41)
  have TID := Lib.hid (tid_any _ (hw.below b0) 5 fr dn at_ id hid raw b v)
  obtain ⟨Bs0, hn0, _⟩ := hw.net
  obtain ⟨hr1, hr2, hSr, hinc, hids, hlens⟩ := hn0.facts
  have HPID := Lib.hid (pickId_lt (raw := raw) hid hal (by omega) hids)
  obtain ⟨pid, hpid⟩ : ∃ x, pickId D raw id = x := ⟨_, rfl⟩
  rw [hpid] at TID HPID
  have HW := Lib.hid hw; have HAL := Lib.hid hal; have HLV := Lib.hid hlv; have HMD := Lib.hid hmd; have HT := Lib.hid hT; have HL := Lib.hid hL; have HINC := Lib.hid hinc; have HLENS := Lib.hid hlens; have HIDS := Lib.hid hids
  have HR1 := Lib.hid hr1; have HR2 := Lib.hid hr2; have HSR := Lib.hid hSr; have HNN := Lib.hid hN
  have HLO := Lib.hid hw.lo
  have B0 := Lib.hid b0; have Q0 := Lib.hid q0
  clear hw hal hlv hmd hT hL b0 q0 hn0 hr1 hr2 hSr hinc hids hlens hpid hN
  go_enter Try.func8, Try.ntmps8
  go_wp2_with fail
  refine TID.out.mono ?_; rintro e w2 ⟨rfl, b2⟩
  go_upto_region 2 with (fail)
  have BW2 := Lib.hid (below_next B0.out b2)
  have H2 := Lib.hid (HW.out.below BW2.out)
  have Q2 := Lib.hid (row_keep Q0.out (Keep.of_below b2 []) (by simp))
  clear b2 TID Q0 B0
  obtain ⟨bx, hbx⟩ : ∃ x, x = w.heap.size := ⟨_, rfl⟩
  rw [← hbx]
  rw [← hbx] at Q2
  have HBX := Lib.hid hbx
  clear hbx
  have o0 := cell_of_row w2 bx 0 _ _ (0, 0) Q2.out
  simp only [List.getElem?_toArray, List.getElem?_cons_zero] at o0
  obtain ⟨Bs, hnet, hBt⟩ := H2.out.net
  have HNET := Lib.hid hnet; have HBT := Lib.hid hBt
  have HB2 := Lib.hid (Nat.le_trans HLO.out BW2.out.size)
  obtain ⟨c0, _, hlt⟩ := H2.out.cells
  clear hnet hBt
  cases hk : look S pid with
  | none =>
    have HK := Lib.hid hk
    have HNW := Lib.hid (HAL.out.nowhere hk)
    clear hk
    have CA := Lib.hid (show Calls Try.prog 17 #[.pointer (some ⟨hn, 0, none⟩), .int .u64 (pid : Int)] w2 fun e w' => e = .returned (.tuple #[.int .u64 0, .int .i64 72]) ∧ Below w2.heap.size w2 w' from by
      have hf := find_any pid HPID.out w2 HNET.out
      rw [show findE S pid = .tuple #[agv ⟨0, 0, 0, none, 0, []⟩, .int .i64 72] by unfold findE; rw [HK.out]; rfl] at hf
      exact twice_no w2 _ pid ⟨0, 0, 0, none, 0, []⟩ 72 (by decide) hf)
    go_wp2_with fail
    refine CA.out.mono ?_; rintro e w3 ⟨rfl, b3⟩
    have H3 := Lib.hid (H2.out.below b3)
    have B3 := Lib.hid b3
    obtain ⟨_, c1, hlt3⟩ := H3.out.cells
    obtain ⟨lo, lc, hr, hrt⟩ := H3.out.rn
    have CB := Lib.hid (rtwice_none w3 pid hr HNW.out)
    clear b3 hr hrt CA c0 hlt o0
    go_wp2_with fail
    refine CB.out.mono ?_; rintro e w4 ⟨rfl, b4⟩
    have B4 := Lib.hid b4
    clear b4 c1 hlt3
    go_wp2_with fail
    go_ret
    exact ⟨rfl, ⟨tg, S, made, T, D, L, V, H3.out.below B4.out, HAL.out, HLV.out, Nat.le_succ_of_le HMD.out, HT.out.le (by omega), HL.out.succ⟩, ((BW2.out.mono HLO.out).trans (B3.out.mono HB2.out)).trans (B4.out.mono (Nat.le_trans HB2.out B3.out.size))⟩
  | some p =>
    have HK := Lib.hid hk
    obtain ⟨k, q, hat, htq⟩ := HAL.out.look HINC.out hk
    have HAT := Lib.hid hat; have HTQ := Lib.hid htq
    clear hk hat htq
    by_cases hfull : S.length = room
    · have HFD := Lib.hid (show D.length = room by rw [← HAL.out.len]; exact hfull)
      have CA := Lib.hid (twice_full w2 pid HPID.out HNET.out HK.out (Nat.le_of_eq hfull.symm))
      clear hfull
      go_wp2_with fail
      refine CA.out.mono ?_; rintro e w3 ⟨rfl, b3⟩
      have H3 := Lib.hid (H2.out.below b3)
      have B3 := Lib.hid b3
      obtain ⟨_, c1, hlt3⟩ := H3.out.cells
      obtain ⟨lo, lc, hr, hrt⟩ := H3.out.rn
      have CB := Lib.hid (rtwice_full w3 pid hr HAT.out HFD.out)
      clear b3 hr hrt CA c0 hlt o0
      go_wp2_with fail
      refine CB.out.mono ?_; rintro e w4 ⟨rfl, b4⟩
      have B4 := Lib.hid b4
      clear b4 c1 hlt3
      go_wp2_with fail
      go_ret
      exact ⟨rfl, ⟨tg, S, made, T, D, L, V, H3.out.below B4.out, HAL.out, HLV.out, Nat.le_succ_of_le HMD.out, HT.out.le (by omega), HL.out.succ⟩, ((BW2.out.mono HLO.out).trans (B3.out.mono HB2.out)).trans (B4.out.mono (Nat.le_trans HB2.out B3.out.size))⟩
    · have hf : S.length < room := by have := HSR.out; omega
      have HFD := Lib.hid (show D.length < room by rw [← HAL.out.len]; exact hf)
      have CA := Lib.hid (twice_yes w2 pid (M := made + 1) HPID.out HNET.out HK.out hf rfl (by have := HMD.out; have := HNN.out; omega) (by have := HT.out.2.1; have := HNN.out; omega))
      clear hfull hf
      go_wp2_with fail
      refine CA.out.mono ?_; rintro e w3 ⟨ao', cap', Bs', rfl, hn3, t3⟩
      have H3 := Lib.hid (H2.out.setNet HNET.out HBT.out hn3 t3)
      have B3 := Lib.hid (t3.below HB2.out (fun g hg => (HNET.out.blocks g hg).1))
      obtain ⟨_, c1, hlt3⟩ := H3.out.cells
      obtain ⟨lo, lc, hr, hrt⟩ := H3.out.rn
      have HR3 := Lib.hid hr; have HRT3 := Lib.hid hrt
      have CB := Lib.hid (rtwice_yes w3 pid (M := made + 1) HAT.out HFD.out HR2.out rfl (by have := HMD.out; have := HNN.out; omega) hr (by have := HT.out.2.1; have := HNN.out; omega))
      clear hr hrt CA hn3 t3 c0 hlt o0
      go_wp2_with fail
      refine CB.out.mono ?_; rintro e w4 ⟨rfl, ao4, cap4, lo4, lc4, hr4, t4⟩
      have H4 := Lib.hid (H3.out.setRef HR3.out HRT3.out hr4 t4)
      have B4 := Lib.hid (t4.below (Nat.le_trans HB2.out B3.out.size) (fun g hg => (HR3.out.blocks g hg).1))
      clear hr4 t4 c1 hlt3
      have EQ := Lib.hid (told_eq HTQ.out)
      have e1 : (((made + 1 : Nat) : Int) == ((made + 1 : Nat) : Int)) = true := by simp
      go_wp2_with fail
      go_ret
      exact ⟨rfl, ⟨_, _, made + 1, T.addTwice, _, L, V, H4.out, HAL.out.app (by simp only [told, EQ.out.2.1, EQ.out.2.2.1, EQ.out.2.2.2]), HLV.out, Nat.succ_le_succ HMD.out, by have := HT.out; exact ⟨by have := this.1; show T.sent ≤ _; omega, by have := this.2.1; show T.twice + 1 ≤ _; omega, by have := this.2.2.1; show T.spoilt ≤ _; omega, by have := this.2.2.2.1; show T.taken ≤ _; omega, by have := this.2.2.2.2; show T.lost ≤ _; omega⟩, HL.out.succ⟩, ((BW2.out.mono HLO.out).trans B3.out).trans B4.out⟩
set_option maxHeartbeats 6400000 in
theorem tstep_4 {B tb hn nb room N : Nat} (w : World) (h : TwS w B tb hn nb room N) (hN : N ≤ 400) (fr dn at_ : Int) (id : Nat) (hid : id < 18446744073709551616) (raw : Bool) (b : Int) (v : Value) :
    Calls Try.prog 8 #[.pointer (some ⟨tb, 0, none⟩), .agg (opC 4 fr dn at_ id raw b v)] w (TstEnd B tb hn nb room N w) := by
  obtain ⟨tg, S, made, T, D, L, V, hw, hal, hlv, hmd, hT, hL⟩ := h
  have b0 := below_alloc (Below.refl w.heap.size w) (.cells (opC 4 fr dn at_ id raw b v) 41)
  have q0 := heap_alloc_new w (.cells (opC 4 fr dn at_ id raw b v) 41)
  have TID := Lib.hid (tid_any _ (hw.below b0) 4 fr dn at_ id hid raw b v)
  obtain ⟨Bs0, hn0, _⟩ := hw.net
  obtain ⟨hr1, hr2, hSr, hinc, hids, hlens⟩ := hn0.facts
  have HPID := Lib.hid (pickId_lt (raw := raw) hid hal (by omega) hids)
  obtain ⟨pid, hpid⟩ : ∃ x, pickId D raw id = x := ⟨_, rfl⟩
  rw [hpid] at TID HPID
  have HW := Lib.hid hw; have HAL := Lib.hid hal; have HLV := Lib.hid hlv; have HMD := Lib.hid hmd; have HT := Lib.hid hT; have HL := Lib.hid hL; have HINC := Lib.hid hinc; have HLENS := Lib.hid hlens; have HIDS := Lib.hid hids
  have HR1 := Lib.hid hr1; have HR2 := Lib.hid hr2; have HSR := Lib.hid hSr; have HNN := Lib.hid hN
  have HLO := Lib.hid hw.lo
  have B0 := Lib.hid b0; have Q0 := Lib.hid q0
  clear hw hal hlv hmd hT hL b0 q0 hn0 hr1 hr2 hSr hinc hids hlens hpid hN
  go_enter Try.func8, Try.ntmps8
  go_wp2_with fail
  refine TID.out.mono ?_; rintro e w2 ⟨rfl, b2⟩
  go_upto_region 2 with (fail)
  have BW2 := Lib.hid (below_next B0.out b2)
  have H2 := Lib.hid (HW.out.below BW2.out)
  have Q2 := Lib.hid (row_keep Q0.out (Keep.of_below b2 []) (by simp))
  clear b2 TID Q0 B0
  obtain ⟨bx, hbx⟩ : ∃ x, x = w.heap.size := ⟨_, rfl⟩
  rw [← hbx]
  rw [← hbx] at Q2
  have HBX := Lib.hid hbx
  clear hbx
  have o0 := cell_of_row w2 bx 0 _ _ (0, 0) Q2.out
  simp only [List.getElem?_toArray, List.getElem?_cons_zero] at o0
  have HB2 := Lib.hid (Nat.le_trans HLO.out BW2.out.size)
  obtain ⟨_, c1, hlt⟩ := H2.out.cells
  obtain ⟨lo, lc, hr, hrt⟩ := H2.out.rn
  have HRN := Lib.hid hr; have HRT := Lib.hid hrt
  clear hr hrt
  cases hk : look S pid with
  | none =>
    have HK := Lib.hid hk
    have CB := Lib.hid (rtake_none w2 pid true HRN.out (HAL.out.nowhere hk))
    clear hk
    go_wp2_with fail
    refine CB.out.mono ?_; rintro e w3 ⟨rfl, b3⟩
    have H3 := Lib.hid (H2.out.below b3)
    have B3 := Lib.hid b3
    clear b3 c1 hlt o0
    obtain ⟨c0, _, hlt3⟩ := H3.out.cells
    have bz := below_alloc (Below.refl w3.heap.size w3) zobj
    have H4 := Lib.hid (H3.out.below bz)
    have B4 := Lib.hid bz
    have c0' := (bz.cell (p := ⟨tb, 0, none⟩) hlt3).trans c0
    have hlt4 := H4.out.lt
    obtain ⟨Bs, hnet, hBt⟩ := H4.out.net
    have CA := Lib.hid (show Calls Try.prog 16 #[.pointer (some ⟨hn, 0, none⟩), .int .u64 (pid : Int)] (w3.alloc zobj) fun e w' => e = .returned (.int .i64 72) ∧ Below (w3.alloc zobj).heap.size (w3.alloc zobj) w' from by
      have hf := find_any pid HPID.out _ hnet
      rw [show findE S pid = .tuple #[agv ⟨0, 0, 0, none, 0, []⟩, .int .i64 72] by unfold findE; rw [HK.out]; rfl] at hf
      exact lose_no _ _ pid ⟨0, 0, 0, none, 0, []⟩ 72 (by decide) hf)
    clear bz hnet hBt
    go_upto_region 25 with (fail)
    generalize w3.alloc (.cells #[.int .u64 0, .int .i64 0, .int .i64 0, .slice none 0 0] 52) = w4 at *
    go_wp2_with fail
    refine CA.out.mono ?_; rintro e w5 ⟨rfl, b5⟩
    have B5 := Lib.hid b5
    clear b5 c0 c0' hlt3 hlt4
    go_wp2_with fail
    go_ret
    exact ⟨rfl, ⟨tg, S, made, T, D, L, V, H4.out.below B5.out, HAL.out, HLV.out, Nat.le_succ_of_le HMD.out, HT.out.le (by omega), HL.out.succ⟩, (((BW2.out.mono HLO.out).trans (B3.out.mono HB2.out)).trans (B4.out.mono (Nat.le_trans HB2.out B3.out.size))).trans (B5.out.mono (Nat.le_trans (Nat.le_trans HB2.out B3.out.size) B4.out.size))⟩
  | some p =>
    have HK := Lib.hid hk
    obtain ⟨k, q, hat, htq⟩ := HAL.out.look HINC.out hk
    have HAT := Lib.hid hat; have HTQ := Lib.hid htq
    have CB := Lib.hid (rtake_lost w2 pid HRN.out hat (by have := HT.out.2.2.2.2; have := HNN.out; omega))
    clear hk hat htq
    obtain ⟨qid, qfr, qdn, qao, qcap, ql⟩ := q
    obtain ⟨n, hn⟩ : ∃ n, ql.length = n := ⟨_, rfl⟩
    have HAG := Lib.hid (show agv ⟨qid, qfr, qdn, qao, qcap, ql⟩ = .agg #[.int .u64 (qid : Int), .int .i64 qfr, .int .i64 qdn, .slice qao n qcap] by rw [← hn])
    clear hn
    go_wp2_with fail
    refine CB.out.mono ?_; rintro e w3 ⟨rfl, lo3, lc3, hr3, t3, _⟩
    have H3 := Lib.hid (H2.out.setRef HRN.out HRT.out hr3 t3)
    have B3 := Lib.hid (t3.below HB2.out (fun g hg => (HRN.out.blocks g hg).1))
    clear hr3 t3 c1 hlt o0
    rw [HAG.out]
    obtain ⟨c0, _, hlt3⟩ := H3.out.cells
    have bz := below_alloc (Below.refl w3.heap.size w3) (.cells #[.int .u64 (qid : Int), .int .i64 qfr, .int .i64 qdn, .slice qao n qcap] 52)
    have H4 := Lib.hid (H3.out.below bz)
    have B4 := Lib.hid bz
    have c0' := (bz.cell (p := ⟨tb, 0, none⟩) hlt3).trans c0
    have hlt4 := H4.out.lt
    obtain ⟨Bs, hnet, hBt⟩ := H4.out.net
    have HNET := Lib.hid hnet; have HBT := Lib.hid hBt
    have CA := Lib.hid (lose_yes _ pid HPID.out hnet HK.out (by have := HT.out.2.2.2.2; have := HNN.out; omega))
    clear bz hnet hBt
    go_upto_region 25 with (fail)
    generalize w3.alloc (.cells #[.int .u64 (qid : Int), .int .i64 qfr, .int .i64 qdn, .slice qao n qcap] 52) = w4 at *
    go_wp2_with fail
    refine CA.out.mono ?_; rintro e w5 ⟨rfl, Bs5, hn5, k5, hn5b, _⟩
    have t5 : Turned Bs Bs5 w4 w5 := ⟨k5.mono (fun q hq => .inl (hn5b q hq)), fun q hq => .inl (hn5b q hq)⟩
    have H5 := Lib.hid (H4.out.setNet HNET.out HBT.out hn5 t5)
    have HB4 := Lib.hid (Nat.le_trans (Nat.le_trans HB2.out B3.out.size) B4.out.size)
    have B5 := Lib.hid (t5.below HB4.out (fun g hg => (HNET.out.blocks g hg).1))
    clear hn5 k5 hn5b t5 c0 c0' hlt3 hlt4
    go_wp2_with fail
    go_ret
    exact ⟨rfl, ⟨_, _, made, T.addLost, _, L, V, H5.out, HAL.out.wo HINC.out HAT.out, HLV.out, Nat.le_succ_of_le HMD.out, by have := HT.out; exact ⟨by have := this.1; show T.sent ≤ _; omega, by have := this.2.1; show T.twice ≤ _; omega, by have := this.2.2.1; show T.spoilt ≤ _; omega, by have := this.2.2.2.1; show T.taken ≤ _; omega, by have := this.2.2.2.2; show T.lost + 1 ≤ _; omega⟩, HL.out.succ⟩, (((BW2.out.mono HLO.out).trans B3.out).trans (B4.out.mono (Nat.le_trans HB2.out B3.out.size))).trans B5.out⟩
theorem s7_keep {U : List Nat} {w w' : World} {tb bx : Nat} {a c d : Value} (h : w.cell? ⟨tb, 0, none⟩ = some a ∧ w.cell? ⟨tb, 1, none⟩ = some c ∧ w.cell? ⟨bx, 2, none⟩ = some d ∧ tb < w.heap.size ∧ bx < w.heap.size) (k : Keep U w w') (h1 : tb ∉ U) (h2 : bx ∉ U) :
    w'.cell? ⟨tb, 0, none⟩ = some a ∧ w'.cell? ⟨tb, 1, none⟩ = some c ∧ w'.cell? ⟨bx, 2, none⟩ = some d ∧ tb < w'.heap.size ∧ bx < w'.heap.size :=
  ⟨(k.cell h.2.2.2.1 h1).trans h.1, (k.cell h.2.2.2.1 h1).trans h.2.1, (k.cell h.2.2.2.2 h2).trans h.2.2.1, Nat.lt_of_lt_of_le h.2.2.2.1 k.size, Nat.lt_of_lt_of_le h.2.2.2.2 k.size⟩
theorem s7_below {w w' : World} {tb bx : Nat} {a c d : Value} (h : w.cell? ⟨tb, 0, none⟩ = some a ∧ w.cell? ⟨tb, 1, none⟩ = some c ∧ w.cell? ⟨bx, 2, none⟩ = some d ∧ tb < w.heap.size ∧ bx < w.heap.size) (b : Below w.heap.size w w') :
    w'.cell? ⟨tb, 0, none⟩ = some a ∧ w'.cell? ⟨tb, 1, none⟩ = some c ∧ w'.cell? ⟨bx, 2, none⟩ = some d ∧ tb < w'.heap.size ∧ bx < w'.heap.size := s7_keep h (Keep.of_below b []) (by simp) (by simp)
set_option maxHeartbeats 6400000 in
theorem tstep_7 {B tb hn nb room N : Nat} (w : World) (h : TwS w B tb hn nb room N) (hN : N ≤ 400) (fr dn at_ : Int) (id : Nat) (hid : id < 18446744073709551616) (raw : Bool) (b : Int) (v : Value) :
    Calls Try.prog 8 #[.pointer (some ⟨tb, 0, none⟩), .agg (opC 7 fr dn at_ id raw b v)] w (TstEnd B tb hn nb room N w) := by
  obtain ⟨tg, S, made, T, D, L, V, hw, hal, hlv, hmd, hT, hL⟩ := h
  have b0 := below_alloc (Below.refl w.heap.size w) (.cells (opC 7 fr dn at_ id raw b v) 41)
  have q0 := heap_alloc_new w (.cells (opC 7 fr dn at_ id raw b v) 41)
  have TID := Lib.hid (tid_any _ (hw.below b0) 7 fr dn at_ id hid raw b v)
  obtain ⟨Bs0, hn0, _⟩ := hw.net
  obtain ⟨hr1, hr2, hSr, hinc, hids, hlens⟩ := hn0.facts
  have HPID := Lib.hid (pickId_lt (raw := raw) hid hal (by omega) hids)
  obtain ⟨pid, hpid⟩ : ∃ x, pickId D raw id = x := ⟨_, rfl⟩
  rw [hpid] at TID HPID
  have HW := Lib.hid hw; have HAL := Lib.hid hal; have HLV := Lib.hid hlv; have HMD := Lib.hid hmd; have HT := Lib.hid hT; have HL := Lib.hid hL; have HINC := Lib.hid hinc; have HLENS := Lib.hid hlens; have HIDS := Lib.hid hids
  have HR1 := Lib.hid hr1; have HR2 := Lib.hid hr2; have HSR := Lib.hid hSr; have HNN := Lib.hid hN
  have HLO := Lib.hid hw.lo
  have B0 := Lib.hid b0; have Q0 := Lib.hid q0
  clear hw hal hlv hmd hT hL b0 q0 hn0 hr1 hr2 hSr hinc hids hlens hpid hN
  go_enter Try.func8, Try.ntmps8
  go_wp2_with fail
  refine TID.out.mono ?_; rintro e w2 ⟨rfl, b2⟩
  go_upto_region 2 with (fail)
  have BW2 := Lib.hid (below_next B0.out b2)
  have H2 := Lib.hid (HW.out.below BW2.out)
  have Q2 := Lib.hid (row_keep Q0.out (Keep.of_below b2 []) (by simp))
  clear b2 TID Q0 B0
  obtain ⟨bx, hbx⟩ : ∃ x, x = w.heap.size := ⟨_, rfl⟩
  rw [← hbx]
  rw [← hbx] at Q2
  have HBX := Lib.hid hbx
  clear hbx
  have o0 := cell_of_row w2 bx 0 _ _ (0, 0) Q2.out
  simp only [List.getElem?_toArray, List.getElem?_cons_zero] at o0
  have HB2 := Lib.hid (Nat.le_trans HLO.out BW2.out.size)
  obtain ⟨tl, htl⟩ : ∃ x, (to_ S dn).length = x := ⟨_, rfl⟩
  have HTS := Lib.hid htl
  have HTD := Lib.hid (show (to_ D dn).length = tl by rw [← HAL.out.to_ dn]; exact htl)
  have HTL := Lib.hid (show tl ≤ 4096 by have := to_len S dn; have := HSR.out; have := HR2.out; omega)
  clear htl
  have o2 := cell_of_row w2 bx 2 _ _ (0, 0) Q2.out
  simp only [List.getElem?_toArray, List.getElem?_cons_zero, List.getElem?_cons_succ] at o2
  have hbl := (Array.getElem?_eq_some_iff.1 Q2.out).1
  have BWD := Lib.hid (BW2.out.trans ((Below.refl w2.heap.size w2).drew.mono BW2.out.size))
  have HD := Lib.hid (HW.out.below BWD.out)
  obtain ⟨Bs, hnet, hBt⟩ := HW.out.net
  obtain ⟨lo, lc, hr, hrt⟩ := HW.out.rn
  have htB : tb ∉ Bs := fun hm => by have := hBt tb hm; have := H2.out.tt; omega
  have hxB : bx ∉ Bs := fun hm => by have := (hnet.blocks bx hm).2; have := HBX.out; omega
  have htR : tb ∉ rnB nb lo D := fun hm => by have := hrt tb hm; have := H2.out.tt; omega
  have hxR : bx ∉ rnB nb lo D := fun hm => by have := (hr.blocks bx hm).2; have := HBX.out; omega
  have HNET := Lib.hid (hnet.below BWD.out); have HBT := Lib.hid hBt; have HRN := Lib.hid hr; have HRT := Lib.hid hrt
  have HBL := Lib.hid (fun g hg => (hnet.blocks g hg).1); have HBLR := Lib.hid (fun g hg => (hr.blocks g hg).1)
  have NR := Lib.hid (show ∀ g ∈ rnB nb lo D, g ∉ Bs from fun g hg hm => by have := hrt g hg; have := hBt g hm; omega)
  have HT1 := Lib.hid (show T.lost < 2305843009213693952 by have := HT.out.2.2.2.2; have := HNN.out; omega)
  have e1 : ((tl : Int) == (tl : Int)) = true := by simp
  clear hnet hBt hr hrt
  go_upto_region 33 with (fail)
  obtain ⟨c0, c1, hlt⟩ := H2.out.cells
  clear o0
  have hS : w2.cell? ⟨tb, 0, none⟩ = some (.pointer (some ⟨hn, 0, none⟩)) ∧ w2.cell? ⟨tb, 1, none⟩ = some (.pointer (some ⟨nb, 0, none⟩)) ∧ w2.cell? ⟨bx, 2, none⟩ = some (.int .i64 dn) ∧ tb < w2.heap.size ∧ bx < w2.heap.size := ⟨c0, c1, o2, hlt, hbl⟩
  go_region_held3 (fun w' => w'.cell? ⟨tb, 0, none⟩ = some (.pointer (some ⟨hn, 0, none⟩)) ∧ w'.cell? ⟨tb, 1, none⟩ = some (.pointer (some ⟨nb, 0, none⟩)) ∧ w'.cell? ⟨bx, 2, none⟩ = some (.int .i64 dn) ∧ tb < w'.heap.size ∧ bx < w'.heap.size)
    (first | assumption | exact s7_keep (by assumption) hk3 htB hxB | exact s7_keep (by assumption) hk4 htR hxR | exact s7_below (by assumption) (Below.refl _ _).drew)
    (first
      | (go_at_call 19; refine (forget_any _ dn HNET.out (by have := HMD.out; have := HNN.out; omega) HT1.out).mono ?_; rintro e w3' ⟨he, Bs3, hn3, t3⟩; rw [HTS.out] at he hn3; subst he; have hk3 := t3.keep; have H3 := Lib.hid (HD.out.setNet HNET.out HBT.out hn3 t3); have T3 := Lib.hid t3; have HR3 := Lib.hid ((HRN.out.below BWD.out).keep hk3 NR.out); clear hn3 t3)
      | (go_at_call 28; refine (rforget_any _ dn HR3.out HT1.out).mono ?_; rintro e w4' ⟨he, lo4, lc4, hr4, t4⟩; rw [HTD.out] at he hr4; subst he; have hk4 := t4.keep; have HR4 := Lib.hid hr4; have T4 := Lib.hid t4; clear hr4 t4))
  have HRT3 : ∀ g ∈ rnB nb lo D, retag tg w2.drew.heap.size Bs3 1 g = 2 := fun g hg => (retag_old (Nat.lt_of_lt_of_le (HRN.out.blocks g hg).2 BWD.out.size) (by rw [HRT.out g hg]; decide) (fun g hg => (T3.out.new g hg).imp (HBT.out g) (fun h => h))).trans (HRT.out g hg)
  have H4 := Lib.hid (H3.out.setRef HR3.out HRT3 HR4.out T4.out)
  have HBD := Lib.hid (Nat.le_trans HLO.out BWD.out.size)
  have b3 := Lib.hid (T3.out.below HBD.out HBL.out)
  have b4 := Lib.hid (T4.out.below (Nat.le_trans HBD.out b3.out.size) HBLR.out)
  clear hS hk3 hk4 HRT3 c0 c1 o2
  go_wp2_with fail
  go_ret
  exact ⟨rfl, ⟨_, _, made, T.lostK tl, _, L, V, H4.out, HAL.out.forget HINC.out dn, HLV.out, Nat.le_succ_of_le HMD.out, by have := HT.out; exact ⟨by have := this.1; show T.sent ≤ _; omega, by have := this.2.1; show T.twice ≤ _; omega, by have := this.2.2.1; show T.spoilt ≤ _; omega, by have := this.2.2.2.1; show T.taken ≤ _; omega, by have := this.2.2.2.2; have := HTL.out; show T.lost + tl ≤ _; omega⟩, HL.out.succ⟩, ((BWD.out.mono HLO.out).trans b3.out).trans b4.out⟩
theorem s6_keep {U : List Nat} {w w' : World} {tb bx : Nat} {a c d f : Value} (h : w.cell? ⟨tb, 0, none⟩ = some a ∧ w.cell? ⟨tb, 1, none⟩ = some c ∧ w.cell? ⟨bx, 3, none⟩ = some d ∧ w.cell? ⟨bx, 6, none⟩ = some f ∧ tb < w.heap.size ∧ bx < w.heap.size) (k : Keep U w w') (h1 : tb ∉ U) (h2 : bx ∉ U) :
    w'.cell? ⟨tb, 0, none⟩ = some a ∧ w'.cell? ⟨tb, 1, none⟩ = some c ∧ w'.cell? ⟨bx, 3, none⟩ = some d ∧ w'.cell? ⟨bx, 6, none⟩ = some f ∧ tb < w'.heap.size ∧ bx < w'.heap.size :=
  ⟨(k.cell h.2.2.2.2.1 h1).trans h.1, (k.cell h.2.2.2.2.1 h1).trans h.2.1, (k.cell h.2.2.2.2.2 h2).trans h.2.2.1, (k.cell h.2.2.2.2.2 h2).trans h.2.2.2.1, Nat.lt_of_lt_of_le h.2.2.2.2.1 k.size, Nat.lt_of_lt_of_le h.2.2.2.2.2 k.size⟩
theorem s6_below {w w' : World} {tb bx : Nat} {a c d f : Value} (h : w.cell? ⟨tb, 0, none⟩ = some a ∧ w.cell? ⟨tb, 1, none⟩ = some c ∧ w.cell? ⟨bx, 3, none⟩ = some d ∧ w.cell? ⟨bx, 6, none⟩ = some f ∧ tb < w.heap.size ∧ bx < w.heap.size) (b : Below w.heap.size w w') :
    w'.cell? ⟨tb, 0, none⟩ = some a ∧ w'.cell? ⟨tb, 1, none⟩ = some c ∧ w'.cell? ⟨bx, 3, none⟩ = some d ∧ w'.cell? ⟨bx, 6, none⟩ = some f ∧ tb < w'.heap.size ∧ bx < w'.heap.size := s6_keep h (Keep.of_below b []) (by simp) (by simp)
set_option maxHeartbeats 6400000 in
theorem tstep_6 {B tb hn nb room N : Nat} (w : World) (h : TwS w B tb hn nb room N) (hN : N ≤ 400) (fr dn at_ : Int) (id : Nat) (hid : id < 18446744073709551616) (raw : Bool) (bb : Nat) (hbb : bb < 256) (v : Value) :
    Calls Try.prog 8 #[.pointer (some ⟨tb, 0, none⟩), .agg (opC 6 fr dn at_ id raw (bb : Int) v)] w (TstEnd B tb hn nb room N w) := by
  obtain ⟨tg, S, made, T, D, L, V, hw, hal, hlv, hmd, hT, hL⟩ := h
  have b0 := below_alloc (Below.refl w.heap.size w) (.cells (opC 6 fr dn at_ id raw (bb : Int) v) 41)
  have q0 := heap_alloc_new w (.cells (opC 6 fr dn at_ id raw (bb : Int) v) 41)
  have TID := Lib.hid (tid_any _ (hw.below b0) 6 fr dn at_ id hid raw (bb : Int) v)
  obtain ⟨Bs0, hn0, _⟩ := hw.net
  obtain ⟨hr1, hr2, hSr, hinc, hids, hlens⟩ := hn0.facts
  have HPID := Lib.hid (pickId_lt (raw := raw) hid hal (by omega) hids)
  obtain ⟨pid, hpid⟩ : ∃ x, pickId D raw id = x := ⟨_, rfl⟩
  rw [hpid] at TID HPID
  have HW := Lib.hid hw; have HAL := Lib.hid hal; have HLV := Lib.hid hlv; have HMD := Lib.hid hmd; have HT := Lib.hid hT; have HL := Lib.hid hL; have HINC := Lib.hid hinc; have HLENS := Lib.hid hlens; have HIDS := Lib.hid hids
  have HR1 := Lib.hid hr1; have HR2 := Lib.hid hr2; have HSR := Lib.hid hSr; have HNN := Lib.hid hN
  have HLO := Lib.hid hw.lo
  have B0 := Lib.hid b0; have Q0 := Lib.hid q0
  clear hw hal hlv hmd hT hL b0 q0 hn0 hr1 hr2 hSr hinc hids hlens hpid hN
  go_enter Try.func8, Try.ntmps8
  go_wp2_with fail
  refine TID.out.mono ?_; rintro e w2 ⟨rfl, b2⟩
  go_upto_region 2 with (fail)
  have BW2 := Lib.hid (below_next B0.out b2)
  have H2 := Lib.hid (HW.out.below BW2.out)
  have Q2 := Lib.hid (row_keep Q0.out (Keep.of_below b2 []) (by simp))
  clear b2 TID Q0 B0
  obtain ⟨bx, hbx⟩ : ∃ x, x = w.heap.size := ⟨_, rfl⟩
  rw [← hbx]
  rw [← hbx] at Q2
  have HBX := Lib.hid hbx
  clear hbx
  have o0 := cell_of_row w2 bx 0 _ _ (0, 0) Q2.out
  simp only [List.getElem?_toArray, List.getElem?_cons_zero] at o0
  have HB2 := Lib.hid (Nat.le_trans HLO.out BW2.out.size)
  have o3 := cell_of_row w2 bx 3 _ _ (0, 0) Q2.out
  have o6 := cell_of_row w2 bx 6 _ _ (0, 0) Q2.out
  simp only [List.getElem?_toArray, List.getElem?_cons_zero, List.getElem?_cons_succ] at o3 o6
  have hbl := (Array.getElem?_eq_some_iff.1 Q2.out).1
  have BWD := Lib.hid (BW2.out.trans ((Below.refl w2.heap.size w2).drew.mono BW2.out.size))
  have HD := Lib.hid (HW.out.below BWD.out)
  obtain ⟨Bs, hnet, hBt⟩ := HW.out.net
  obtain ⟨lo, lc, hr, hrt⟩ := HW.out.rn
  have htB : tb ∉ Bs := fun hm => by have := hBt tb hm; have := H2.out.tt; omega
  have hxB : bx ∉ Bs := fun hm => by have := (hnet.blocks bx hm).2; have := HBX.out; omega
  have htR : tb ∉ rnB nb lo D := fun hm => by have := hrt tb hm; have := H2.out.tt; omega
  have hxR : bx ∉ rnB nb lo D := fun hm => by have := (hr.blocks bx hm).2; have := HBX.out; omega
  have HNET := Lib.hid (hnet.below BWD.out); have HBT := Lib.hid hBt; have HRN := Lib.hid hr; have HRT := Lib.hid hrt
  have HBL := Lib.hid (fun g hg => (hnet.blocks g hg).1); have HBLR := Lib.hid (fun g hg => (hr.blocks g hg).1)
  have NR := Lib.hid (show ∀ g ∈ rnB nb lo D, g ∉ Bs from fun g hg hm => by have := hrt g hg; have := hBt g hm; omega)
  have HT1 := Lib.hid (show T.spoilt < 4611686018427387904 by have := HT.out.2.2.1; have := HNN.out; omega)
  have HBD := Lib.hid (Nat.le_trans HLO.out BWD.out.size)
  have HBB := Lib.hid hbb
  clear hnet hBt hr hrt hbb
  obtain ⟨c0, c1, hlt⟩ := H2.out.cells
  cases hk : look S pid with
  | none =>
    have HK := Lib.hid hk
    have HNW := Lib.hid (HAL.out.nowhere hk)
    clear hk
    have CA := Lib.hid (show Calls Try.prog 18 #[.pointer (some ⟨hn, 0, none⟩), .int .u64 (pid : Int), .int .i64 at_, .int .u8 (bb : Int)] w2.drew fun e w' => e = .returned (.int .i64 72) ∧ Below w2.drew.heap.size w2.drew w' from by
      have hf := find_any pid HPID.out _ HNET.out
      rw [show findE S pid = .tuple #[agv ⟨0, 0, 0, none, 0, []⟩, .int .i64 72] by unfold findE; rw [HK.out]; rfl] at hf
      exact spoil_no _ _ pid ⟨0, 0, 0, none, 0, []⟩ 72 at_ (bb : Int) (by decide) hf)
    go_upto_region 31 with (fail)
    clear o0
    have hS : w2.cell? ⟨tb, 0, none⟩ = some (.pointer (some ⟨hn, 0, none⟩)) ∧ w2.cell? ⟨tb, 1, none⟩ = some (.pointer (some ⟨nb, 0, none⟩)) ∧ w2.cell? ⟨bx, 3, none⟩ = some (.int .i64 at_) ∧ w2.cell? ⟨bx, 6, none⟩ = some (.int .u8 (bb : Int)) ∧ tb < w2.heap.size ∧ bx < w2.heap.size := ⟨c0, c1, o3, o6, hlt, hbl⟩
    go_region_held3 (fun w' => w'.cell? ⟨tb, 0, none⟩ = some (.pointer (some ⟨hn, 0, none⟩)) ∧ w'.cell? ⟨tb, 1, none⟩ = some (.pointer (some ⟨nb, 0, none⟩)) ∧ w'.cell? ⟨bx, 3, none⟩ = some (.int .i64 at_) ∧ w'.cell? ⟨bx, 6, none⟩ = some (.int .u8 (bb : Int)) ∧ tb < w'.heap.size ∧ bx < w'.heap.size)
      (first | assumption | exact s6_keep (by assumption) hk3 htB hxB | exact s6_keep (by assumption) hk4 htR hxR | exact s6_below (by assumption) (by assumption) | exact s6_below (by assumption) (Below.refl _ _).drew)
      (first
        | (go_at_call 18; refine CA.out.mono ?_; rintro e w3' ⟨rfl, b3⟩; have HR3 := Lib.hid ((HRN.out.below BWD.out).below b3))
        | (go_at_call 27; refine (rspoil_none _ pid at_ (bb : Int) HR3.out HNW.out).mono ?_; rintro e w4' ⟨rfl, rfl⟩))
    have B3 := Lib.hid b3
    clear hS b3 c0 c1 o3 o6
    go_wp2_with fail
    go_ret
    exact ⟨rfl, ⟨tg, S, made, T, D, L, V, HD.out.below B3.out, HAL.out, HLV.out, Nat.le_succ_of_le HMD.out, HT.out.le (by omega), HL.out.succ⟩, (BWD.out.mono HLO.out).trans (B3.out.mono HBD.out)⟩
  | some p =>
    have HK := Lib.hid hk
    obtain ⟨k, q, hat, htq⟩ := HAL.out.look HINC.out hk
    have HAT := Lib.hid hat; have HTQ := Lib.hid (told_eq htq)
    have HDI := Lib.hid (HAL.out.inc HINC.out)
    clear hk hat htq
    by_cases hout : at_ < 0 ∨ (p.data.length : Int) ≤ at_
    · have HOA := Lib.hid hout
      have HOB := Lib.hid (show at_ < 0 ∨ (q.data.length : Int) ≤ at_ by rw [← HTQ.out.2.2.2]; exact hout)
      clear hout
      go_upto_region 31 with (fail)
      clear o0
      have hS : w2.cell? ⟨tb, 0, none⟩ = some (.pointer (some ⟨hn, 0, none⟩)) ∧ w2.cell? ⟨tb, 1, none⟩ = some (.pointer (some ⟨nb, 0, none⟩)) ∧ w2.cell? ⟨bx, 3, none⟩ = some (.int .i64 at_) ∧ w2.cell? ⟨bx, 6, none⟩ = some (.int .u8 (bb : Int)) ∧ tb < w2.heap.size ∧ bx < w2.heap.size := ⟨c0, c1, o3, o6, hlt, hbl⟩
      go_region_held3 (fun w' => w'.cell? ⟨tb, 0, none⟩ = some (.pointer (some ⟨hn, 0, none⟩)) ∧ w'.cell? ⟨tb, 1, none⟩ = some (.pointer (some ⟨nb, 0, none⟩)) ∧ w'.cell? ⟨bx, 3, none⟩ = some (.int .i64 at_) ∧ w'.cell? ⟨bx, 6, none⟩ = some (.int .u8 (bb : Int)) ∧ tb < w'.heap.size ∧ bx < w'.heap.size)
        (first | assumption | exact s6_keep (by assumption) hk3 htB hxB | exact s6_keep (by assumption) hk4 htR hxR | exact s6_below (by assumption) (by assumption) | exact s6_below (by assumption) (Below.refl _ _).drew)
        (first
          | (go_at_call 18; refine (spoil_out _ pid HPID.out HNET.out HK.out at_ (bb : Int) HOA.out).mono ?_; rintro e w3' ⟨rfl, b3⟩; have HR3 := Lib.hid ((HRN.out.below BWD.out).below b3))
          | (go_at_call 27; refine (rspoil_out _ pid HR3.out HAT.out at_ (bb : Int) HOB.out).mono ?_; rintro e w4' ⟨rfl, rfl⟩))
      have B3 := Lib.hid b3
      clear hS b3 c0 c1 o3 o6
      go_wp2_with fail
      go_ret
      exact ⟨rfl, ⟨tg, S, made, T, D, L, V, HD.out.below B3.out, HAL.out, HLV.out, Nat.le_succ_of_le HMD.out, HT.out.le (by omega), HL.out.succ⟩, (BWD.out.mono HLO.out).trans (B3.out.mono HBD.out)⟩
    · obtain ⟨a, rfl⟩ : ∃ a : Nat, at_ = (a : Int) := ⟨at_.toNat, by omega⟩
      have HA := Lib.hid (show a < p.data.length by omega)
      have HA2 := Lib.hid (show a < q.data.length by rw [← HTQ.out.2.2.2]; omega)
      clear hout
      go_upto_region 31 with (fail)
      clear o0
      have hS : w2.cell? ⟨tb, 0, none⟩ = some (.pointer (some ⟨hn, 0, none⟩)) ∧ w2.cell? ⟨tb, 1, none⟩ = some (.pointer (some ⟨nb, 0, none⟩)) ∧ w2.cell? ⟨bx, 3, none⟩ = some (.int .i64 (a : Int)) ∧ w2.cell? ⟨bx, 6, none⟩ = some (.int .u8 (bb : Int)) ∧ tb < w2.heap.size ∧ bx < w2.heap.size := ⟨c0, c1, o3, o6, hlt, hbl⟩
      go_region_held3 (fun w' => w'.cell? ⟨tb, 0, none⟩ = some (.pointer (some ⟨hn, 0, none⟩)) ∧ w'.cell? ⟨tb, 1, none⟩ = some (.pointer (some ⟨nb, 0, none⟩)) ∧ w'.cell? ⟨bx, 3, none⟩ = some (.int .i64 (a : Int)) ∧ w'.cell? ⟨bx, 6, none⟩ = some (.int .u8 (bb : Int)) ∧ tb < w'.heap.size ∧ bx < w'.heap.size)
        (first | assumption | exact s6_keep (by assumption) hk3 htB hxB | exact s6_keep (by assumption) hk4 htR hxR | exact s6_below (by assumption) (by assumption) | exact s6_below (by assumption) (Below.refl _ _).drew)
        (first
          | (go_at_call 18; refine (spoil_yes _ pid HPID.out HNET.out HK.out a bb HA.out HBB.out HT1.out).mono ?_; rintro e w3' ⟨rfl, hn3, hk3⟩; have T3 := Lib.hid (⟨hk3, fun q hq => .inl hq⟩ : Turned Bs Bs w2.drew w3'); have H3 := Lib.hid (HD.out.setNet HNET.out HBT.out hn3 T3.out); have HR3 := Lib.hid ((HRN.out.below BWD.out).keep hk3 NR.out); clear hn3)
          | (go_at_call 27; refine (rspoil_yes _ pid HR3.out HDI.out HAT.out a bb HA2.out HBB.out HT1.out).mono ?_; rintro e w4' ⟨rfl, hr4, hk4⟩; have HR4 := Lib.hid hr4; have T4 := Lib.hid (⟨hk4, fun q hq => .inl (by simpa only [rnB, bs_sp] using hq)⟩ : Turned (rnB nb lo D) (rnB nb lo (spS D pid a (bt q.data a ^^^ bb))) w3' w4'); clear hr4))
      have HRT3 : ∀ g ∈ rnB nb lo D, retag tg w2.drew.heap.size Bs 1 g = 2 := fun g hg => (retag_old (Nat.lt_of_lt_of_le (HRN.out.blocks g hg).2 BWD.out.size) (by rw [HRT.out g hg]; decide) (fun g hg => (T3.out.new g hg).imp (HBT.out g) (fun h => h))).trans (HRT.out g hg)
      have H4 := Lib.hid (H3.out.setRef HR3.out HRT3 HR4.out T4.out)
      have b3 := Lib.hid (T3.out.below HBD.out HBL.out)
      have b4 := Lib.hid (T4.out.below (Nat.le_trans HBD.out b3.out.size) HBLR.out)
      clear hS hk3 hk4 HRT3 c0 c1 o3 o6
      go_wp2_with fail
      go_ret
      exact ⟨rfl, ⟨_, _, made, T.addSpoilt, _, L, V, H4.out, by have := HAL.out.sp pid a (bt p.data a ^^^ bb); rw [HTQ.out.2.2.2] at this ⊢; exact this, HLV.out, Nat.le_succ_of_le HMD.out, by have := HT.out; exact ⟨by have := this.1; show T.sent ≤ _; omega, by have := this.2.1; show T.twice ≤ _; omega, by have := this.2.2.1; show T.spoilt + 1 ≤ _; omega, by have := this.2.2.2.1; show T.taken ≤ _; omega, by have := this.2.2.2.2; show T.lost ≤ _; omega⟩, HL.out.succ⟩, ((BWD.out.mono HLO.out).trans b3.out).trans b4.out⟩
end Go.Proofs.Ythanjfnpohhebaa
