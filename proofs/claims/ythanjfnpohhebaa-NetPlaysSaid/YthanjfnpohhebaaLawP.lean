/- NetPlays: the walk. -/
import Derived.Test.YthanjfnpohhebaaOver
import Derived.Test.YthanjfnpohhebaaTst3
import Derived.Test.YthanjfnpohhebaaArg
import Derived.Test.YthanjfnpohhebaaAwake
import Derived.Lib.QuietBelow
namespace Go.Proofs.Ythanjfnpohhebaa
open Go.RowKit Go.Sort
set_option linter.unusedVariables false
set_option linter.unusedSimpArgs false
set_option maxRecDepth 100000
theorem tstep_any {B tb hn nb room N : Nat} {W : World} (w : World) (hB : W.heap.size = B) (hb : Below B W w) (h : TwS w B tb hn nb room N) (hN : N ≤ 400) (p : Op) (ok : Op.Ok W p) :
    Calls Try.prog 8 #[.pointer (some ⟨tb, 0, none⟩), .agg p.cells] w (TstEnd B tb hn nb room N w) := by
  obtain ⟨kind, fr, dn, at_, id, raw, by_, ao, cap, data⟩ := p
  have hid := ok.id
  have hby := ok.by_
  have hsz := ok.size
  have hrd : ∀ w', Below B w w' → Rd w' ao data := fun w' hw' => by
    subst hB
    exact ok.rd.below (hb.trans hw')
  have hxb : data ≠ [] → ∀ g ∈ blk ao, g < B := fun hne g hg => by
    obtain ⟨g', o, e, hlt, _⟩ := ok.rd.at_ 0 (List.length_pos_iff.2 hne)
    simp only at e
    subst e
    simp only [blk, List.mem_singleton] at hg
    omega
  simp only at hid hby hsz
  show Calls _ _ #[.pointer (some ⟨tb, 0, none⟩), .agg (opC kind fr dn at_ id raw (by_ : Int) (.slice ao data.length cap))] w _
  by_cases k1 : kind = 1
  · subst k1; exact tstep_1 w h hN fr dn at_ id hid raw (by_ : Int) rfl hsz hrd hxb
  by_cases k2 : kind = 2
  · subst k2; exact tstep_2 w h hN fr dn at_ id hid raw (by_ : Int) _
  by_cases k3 : kind = 3
  · subst k3; exact tstep_3 w h hN fr dn at_ id hid raw (by_ : Int) _
  by_cases k4 : kind = 4
  · subst k4; exact tstep_4 w h hN fr dn at_ id hid raw (by_ : Int) _
  by_cases k5 : kind = 5
  · subst k5; exact tstep_5 w h hN fr dn at_ id hid raw (by_ : Int) _
  by_cases k6 : kind = 6
  · subst k6; exact tstep_6 w h hN fr dn at_ id hid raw by_ hby _
  by_cases k7 : kind = 7
  · subst k7; exact tstep_7 w h hN fr dn at_ id hid raw (by_ : Int) _
  exact tstep_list w h hN k1 k2 k3 k4 k5 k6 k7 fr dn at_ id hid raw (by_ : Int) _
theorem Net.lower {w : World} {B B' hn room made : Nat} {Bs : List Nat} {S : List Pkt} {T : Tr} (h : Net w B hn Bs S room made T) (hb : B' ≤ B) : Net w B' hn Bs S room made T := by
  obtain ⟨gm, e, h⟩ := h
  exact ⟨gm, e, ⟨h.map, h.row, Nat.le_trans hb h.base, Nat.le_trans hb h.gbase, h.ne, h.pk.base hb, h.nh, h.ng, h.inc, h.ids, h.lens, h.rm, h.few⟩⟩
theorem Few.mono {L : List Pkt} {N M : Nat} (h : Few L N) (hn : N ≤ M) : Few L M := ⟨Nat.le_trans h.1 hn, h.2⟩
abbrev refO (room : Nat) : Obj := .cells #[.int .i64 (room : Int), .int .u64 0, .slice none 0 0, .int .i64 0, .int .i64 0, .int .i64 0, .int .i64 0, .int .i64 0] 35
abbrev twinO (hn nb : Nat) : Obj := .cells #[.pointer (some ⟨hn, 0, none⟩), .pointer (some ⟨nb, 0, none⟩), .slice none 0 0, .slice none 0 0] 37
/-- the twin at its beginning -/
theorem tws_start {w w1 w2 : World} {B hn room nb tb : Nat} {Bs : List Nat} (h : Net w B hn Bs [] room 0 ⟨0, 0, 0, 0, 0⟩) (hB : B ≤ w.heap.size) (e1 : w1 = w.alloc (refO room)) (e2 : w2 = w1.alloc (twinO hn nb)) (hnb : nb = w.heap.size) (htb : tb = w1.heap.size) : TwS w2 B tb hn nb room 0 := by
  have b1 : Below w.heap.size w w1 := e1 ▸ below_alloc (Below.refl _ _) _
  have b2 : Below w1.heap.size w1 w2 := e2 ▸ below_alloc (Below.refl _ _) _
  have r1 : w1.heap[nb]? = some (refO room) := by rw [e1, hnb]; exact heap_alloc_new w (refO room)
  have r2 : w2.heap[tb]? = some (twinO hn nb) := by rw [e2, htb]; exact heap_alloc_new w1 (twinO hn nb)
  have s1 : w1.heap.size = w.heap.size + 1 := by rw [e1]; simp
  have hbl := h.blocks
  have ht : ∀ g ∈ Bs, g ≠ tb := fun g hg e => by have := (hbl g hg).2; omega
  have hn' : ∀ g ∈ Bs, g ≠ nb := fun g hg e => by have := (hbl g hg).2; omega
  refine ⟨fun g => if g = tb then 0 else if g ∈ Bs then 1 else if g = nb then 2 else 7, [], 0, ⟨0, 0, 0, 0, 0⟩, [], [], [], ⟨⟨Bs, (h.below b1).below b2, fun g hg => ?_⟩, ⟨none, 0, ⟨(b2.block nb (Array.getElem?_eq_some_iff.1 r1).1).trans r1, by omega, World.ownsRow_nil _ _ _ _, ⟨by simp, by simp⟩, by simp [blk], by simp [bs], by simp [blk], by simp, by simp⟩, fun g hg => ?_⟩, ⟨none, 0, none, 0, r2, OutW.nil _ _, OutW.nil _ _, by simp [blk], by simp [blk], by simp [bs], by simp [bs]⟩, by omega, by simp⟩, rfl, rfl, Nat.le_refl _, ⟨by simp, by simp, by simp, by simp, by simp⟩, ⟨by simp, by simp⟩⟩
  · show (if g = tb then 0 else if g ∈ Bs then 1 else if g = nb then 2 else 7) = 1
    rw [if_neg (ht g hg), if_pos hg]
  · have e : g = nb := by simpa [rnB, blk, bs] using hg
    subst e
    show (if g = tb then 0 else if g ∈ Bs then 1 else if g = g then 2 else 7) = 2
    rw [if_neg (by omega), if_neg (fun hm => hn' g hm rfl), if_pos rfl]
set_option maxHeartbeats 16000000 in
theorem netPlays_law (a : Int) (wa : (Lit.int .i64 a).wf = true) (ao : Option Addr) (n cap : Nat) (hc : n ≤ cap) (hm : cap ≤ maxLen) (W : World) (hr : OpsRd W ao n) :
    Calls Try.prog 3 #[.int .i64 a, .slice ao n cap] W (LawOk W) := by
  have HR := Lib.hid hr
  clear hr
  have hni : (n : Int) ≤ 9223372036854775807 := by unfold maxLen at hm; omega
  have hab : -9223372036854775808 ≤ a ∧ a ≤ 9223372036854775807 := by simpa [Lit.wf, IntKind.min, IntKind.max, IntKind.signed, IntKind.bits] using wa
  go_enter Try.func3, Try.ntmps3
  go_wp2_with fail
  refine (awake_any W).mono ?_; rintro e w0 ⟨rfl, b0⟩
  have HB0 := Lib.hid b0; clear b0
  by_cases hok : 1 ≤ a ∧ a ≤ 4096
  · obtain ⟨q, rfl⟩ : ∃ q : Nat, a = (q : Int) := ⟨a.toNat, by omega⟩
    obtain ⟨g1, g2⟩ := hok
    have NW := Lib.hid (new_yes q (by omega) (by omega) w0)
    clear hab wa
    go_wp2_with fail
    refine NW.out.mono ?_; rintro e w1 ⟨hn, Bs, rfl, h1, b1⟩
    have HN1 := Lib.hid (h1.lower HB0.out.size)
    have HB1 := Lib.hid (below_next HB0.out b1)
    have HS0 := Lib.hid HB1.out.size
    clear h1 b1 NW
    go_upto_region 9 with (fail)
    obtain ⟨tb, htb⟩ : ∃ x, x = w1.heap.size + 1 := ⟨_, rfl⟩
    rw [← htb]
    generalize hv1 : w1.alloc (.cells #[.int .i64 (q : Int), .int .u64 0, .slice none 0 0, .int .i64 0, .int .i64 0, .int .i64 0, .int .i64 0, .int .i64 0] 35) = v1 at *
    obtain ⟨nb, hnb⟩ : ∃ x, x = w1.heap.size := ⟨_, rfl⟩
    rw [← hnb]
    generalize hv2 : v1.alloc (.cells #[.pointer (some ⟨hn, 0, none⟩), .pointer (some ⟨nb, 0, none⟩), .slice none 0 0, .slice none 0 0] 37) = v2 at *
    have TS := Lib.hid (tws_start (nb := nb) (tb := tb) HN1.out HS0.out hv1.symm hv2.symm hnb (by rw [htb, ← hv1]; simp))
    have HB2 := Lib.hid (show Below W.heap.size W v2 from hv2 ▸ below_alloc (hv1 ▸ below_alloc HB1.out _) _)
    clear hv1 hv2 htb hnb HN1 HB1 HS0
    go_wp2_with fail
    go_loopw [10] (fun v10 wr => ∃ k : Nat, v10 = .int .i64 (k : Int) ∧ k ≤ n ∧ k ≤ 300 ∧ Hid (TwS wr W.heap.size tb hn nb q k) ∧ Hid (Below W.heap.size W wr)) (fun v10 _ => n - (intOf v10).toNat)
    case atStart => exact ⟨0, rfl, Nat.zero_le _, Nat.zero_le _, TS, HB2⟩
    case round =>
      clear TS HB2
      obtain ⟨k, rfl, hk, hk3, HT, HB⟩ := hrel
      by_cases hlt : k < n ∧ k < 300
      · obtain ⟨hlt, hlt5⟩ := hlt
        obtain ⟨go, oo, p, rfl, hg, hcs, hpk⟩ := HR.out k hlt
        have hx : ∀ i, i < 8 → wr.cell? ⟨go, oo + k * 8 + i, none⟩ = (Op.cells p)[i]? := fun i hi => (HB.out.cell hg).trans (hcs i hi)
        have ST := Lib.hid (tstep_any wr rfl HB.out HT.out (by omega) p hpk)
        clear hcs hpk
        have x0 := hx 0 (by omega); have x1 := hx 1 (by omega); have x2 := hx 2 (by omega); have x3 := hx 3 (by omega); have x4 := hx 4 (by omega); have x5 := hx 5 (by omega); have x6 := hx 6 (by omega); have x7 := hx 7 (by omega)
        obtain ⟨kind, fr, dest, at_, pid, raw, by_, xo, xc, l⟩ := p
        simp only [Op.cells, Nat.add_zero, List.getElem?_toArray, List.getElem?_cons_zero, List.getElem?_cons_succ] at x0 x1 x2 x3 x4 x5 x6 x7
        have hki : (0 : Int) ≤ (k : Int) := by omega
        have hki2 : (k : Int) < (n : Int) := by omega
        have hki3 : (k : Int) < 300 := by omega
        clear hx
        go_wp2_with fail
        refine ST.out.mono ?_; rintro e w3 ⟨rfl, hts3, b3⟩
        have HT3 := Lib.hid hts3
        have HB3 := Lib.hid (HB.out.trans b3)
        clear ST b3 hts3 x0 x1 x2 x3 x4 x5 x6 x7
        obtain ⟨tg, S, made, T, D, L, V, hw, hal, hlv, hmd, hsm, hfw⟩ := HT3.out
        obtain ⟨Bs, hnet, _⟩ := hw.net
        obtain ⟨lo, lc, hr, _⟩ := hw.rn
        obtain ⟨c0, c1, _⟩ := hw.cells
        have d2 := hr.at_ 2; have d3 := hr.at_ 3; have d4 := hr.at_ 4; have d5 := hr.at_ 5; have d6 := hr.at_ 6; have d7 := hr.at_ 7
        simp only [rowR, List.getElem?_toArray, List.getElem?_cons_succ, List.getElem?_cons_zero] at d2 d3 d4 d5 d6 d7
        have hle := hal.len
        have CN := Lib.hid (fun d os => Calls.regrown_of (same_below (count_any _ (hnet.below (below_regrown w3 d os)))))
        have CT := Lib.hid (fun d os => Calls.regrown_of (told_any _ (hnet.below (below_regrown w3 d os))))
        rw [hle] at CN
        obtain ⟨m, hm⟩ : ∃ m, D.length = m := ⟨_, rfl⟩
        rw [hm] at CN d2
        obtain ⟨ts, tt, tp, ta, tl⟩ := T
        have r1 := cell_regrown c1
        have r2 := cell_regrown d2; have r3 := cell_regrown d3; have r4 := cell_regrown d4; have r5 := cell_regrown d5; have r6 := cell_regrown d6; have r7 := cell_regrown d7
        have e1 : ((m : Int) != (m : Int)) = false := by simp
        clear c0 c1 d2 d3 d4 d5 d6 d7 hw hal hlv hmd hsm hfw hnet hr hle hm
        go_upto_region 13 with (fail)
        refine wp_region_quiet_below (by kernel_rfl) (by kernel_rfl) ?_
        repeat (go_big_quiet_step (first | exact CN.out _ _ | exact CT.out _ _))
        refine wpQuiet_nil ?_
        intro _ hw'
        obtain ⟨⟨dq, osq⟩, hw''⟩ := hw'
        subst hw''
        have lk := below_regrown w3 dq osq
        obtain ⟨tg, S, made, T, D, L, V, hw, hal, hlv, hmd, hsm, hfw⟩ := HT3.out
        have HT4 := Lib.hid (show TwS _ W.heap.size tb hn nb q (k + 1) from ⟨tg, S, made, T, D, L, V, hw.below lk, hal, hlv, hmd, hsm, hfw⟩)
        have HB4 := Lib.hid (below_next HB3.out lk)
        clear r1 r2 r3 r4 r5 r6 r7 lk e1 CN CT hw hal hlv hmd hsm hfw
        generalize grow (redrawn w3 dq) osq = w12 at *
        go_wp2_with fail
        go_roundw
        case rel => exact ⟨k + 1, by go_num, by omega, by omega, HT4, HB4⟩
        case measure => simp [intOf]; omega
      · have hge : ¬ (k < n ∧ k < 300) := hlt
        obtain ⟨tg, S, made, T, D, L, V, hw, hal, hlv, hmd, hsm, hfw⟩ := HT.out
        have OV := Lib.hid (tover_any wr hw hal hlv (hfw.mono (by omega)) (by omega))
        clear hw hal hlv hmd hsm hfw
        by_cases h1 : k < n
        · have hki3 : ¬ ((k : Int) < 300) := by omega
          have hki2 : (k : Int) < (n : Int) := by omega
          clear hge hlt
          go_wp2_with fail
          refine OV.out.mono ?_; rintro e w9 ⟨rfl, b9⟩
          go_wp2_with fail
          go_ret
          exact ⟨rfl, HB.out.trans b9⟩
        · have hki2 : ¬ ((k : Int) < (n : Int)) := by omega
          clear hge hlt
          go_wp2_with fail
          refine OV.out.mono ?_; rintro e w9 ⟨rfl, b9⟩
          go_wp2_with fail
          go_ret
          exact ⟨rfl, HB.out.trans b9⟩
  · have NN := Lib.hid (new_no a (by omega) w0)
    by_cases h1 : 1 ≤ a
    · have h2 : decide (a ≤ 4096) = false := decide_eq_false (fun h => hok ⟨h1, h⟩)
      have h3 : decide (1 ≤ a) = true := decide_eq_true h1
      clear hok hab wa
      go_wp2_with fail
      refine NN.out.mono ?_; rintro e w1 ⟨rfl, rfl⟩
      go_wp2_with fail
      go_ret
      exact ⟨rfl, HB0.out⟩
    · have h3 : decide (1 ≤ a) = false := decide_eq_false h1
      clear hok hab wa
      go_wp2_with fail
      refine NN.out.mono ?_; rintro e w1 ⟨rfl, rfl⟩
      go_wp2_with fail
      go_ret
      exact ⟨rfl, HB0.out⟩
end Go.Proofs.Ythanjfnpohhebaa
