/- The document's Beat. -/
import Derived.Test.YtlfnkplgjlpaaaaRfC
import Derived.Deep.CutRange
namespace Go.Proofs.Ytlfnkplgjlpaaaa
open Go.RowKit Go.Sort
set_option linter.unusedVariables false

section
variable {w w' : World} {B hb cap guess : Nat} {ao : Option Addr} {S : List Nd} {Bs : List Nat}
set_option maxHeartbeats 800000 in
theorem rchanges_no (now : Int) (hT : isT now = false) (w : World) (h : Rf w B hb Bs S guess) : Calls Try.prog 30 #[.pointer (some ⟨hb, 0, none⟩), .int .i64 now] w fun e w' => e = .returned (.slice none 0 0) ∧ w = w' := by
  obtain ⟨ao, cap, rfl, h⟩ := h
  have T1 := fun w => rtime_any now w
  rw [hT] at T1
  have T1 := Lib.hid T1
  have c1 := h.at1
  have hmi : (S.length : Int) ≤ 12 := by have := h.few; omega
  generalize S.length = m at *
  clear h hT
  go_enter Try.func30, Try.ntmps30
  go_wp2_with fail
  refine (T1.out _).mono ?_; rintro e w1 ⟨rfl, rfl⟩
  go_wp2_with fail
  go_loopw [5, 7, 8] (fun v5 v7 v8 wr => v5 = .slice none 0 0 ∧ v7 = .int .i64 0 ∧ wr = w1) (fun _ _ _ _ => 0)
  case atStart => exact ⟨rfl, rfl, rfl⟩
  case round =>
    obtain ⟨rfl, rfl, rfl⟩ := hrel
    go_wp2_with fail
    all_goals
      go_ret
      exact ⟨rfl, rfl⟩
theorem putN_set {j : Nat} {n n2 : Nd} (hS : Inc S) (hj : S[j]? = some n) (hid : n2.id = n.id) : putN n2 S = S.set j n2 := by
  apply List.ext_getElem?
  intro q
  unfold putN
  rw [List.getElem?_map]
  by_cases e : j = q
  · subst e
    rw [hj, List.getElem?_set_self (List.getElem?_eq_some_iff.1 hj).1]
    simp [hid]
  · rw [List.getElem?_set_ne e]
    cases hq : S[q]? with
    | none => rfl
    | some m =>
      have hne : m.id ≠ n2.id := by
        intro h2
        rw [hid] at h2
        have h3 := hS.one (List.mem_of_getElem? hq) (List.mem_of_getElem? hj) h2
        obtain ⟨h4, h5⟩ := List.getElem?_eq_some_iff.1 hj
        obtain ⟨h6, h7⟩ := List.getElem?_eq_some_iff.1 hq
        have h8 := List.pairwise_iff_getElem.1 hS
        rcases Nat.lt_or_gt_of_ne e with h9 | h9
        · have := h8 j q h4 h6 h9
          rw [h5, h7, h3] at this; omega
        · have := h8 q j h6 h4 h9
          rw [h5, h7, h3] at this; omega
      simp [hne]
/-- five cells laid anew -/
abbrev lay5 (w : World) (g o : Nat) (n : Nd) : World := ((((w.setCell ⟨g, o, none⟩ (.int .i64 n.id)).setCell ⟨g, o + 1, none⟩ (.int .i64 (n.last : Int))).setCell ⟨g, o + 2, none⟩ (.int .i64 (n.mean : Int))).setCell ⟨g, o + 3, none⟩ (.int .i64 (n.margin : Int))).setCell ⟨g, o + 4, none⟩ (.bool n.bad)
theorem lay5_keep (w : World) (g o : Nat) (n : Nd) : Keep [g] w (lay5 w g o n) :=
  ((((Keep.setCell w ⟨g, o, none⟩ _).trans (Keep.setCell _ ⟨g, o + 1, none⟩ _)).trans (Keep.setCell _ ⟨g, o + 2, none⟩ _)).trans (Keep.setCell _ ⟨g, o + 3, none⟩ _)).trans (Keep.setCell _ ⟨g, o + 4, none⟩ _)
theorem fl_put5 {j : Nat} (n : Nd) (hjl : j < S.length) : ((((((fl c5 S).set (j * 5) (.int .i64 n.id)).set (j * 5 + 1) (.int .i64 (n.last : Int))).set (j * 5 + 2) (.int .i64 (n.mean : Int))).set (j * 5 + 3) (.int .i64 (n.margin : Int))).set (j * 5 + 4) (.bool n.bad)) = fl c5 (S.set j n) := by
  have hl := fl_len c5_len S
  refine fl_set c5_len S j _ _ (by simp) hjl (fun i hi => ?_) (fun q hq => ?_)
  · have : i = 0 ∨ i = 1 ∨ i = 2 ∨ i = 3 ∨ i = 4 := by omega
    rcases this with rfl | rfl | rfl | rfl | rfl
    · rw [Nat.add_zero, List.getElem?_set_ne (by omega), List.getElem?_set_ne (by omega), List.getElem?_set_ne (by omega), List.getElem?_set_ne (by omega)]
      rw [show (fl c5 S).set (j * 5) (.int .i64 n.id) = (fl c5 S).set (j * 5 + 0) (.int .i64 n.id) from rfl, Nat.add_zero, List.getElem?_set_self (by omega)]; rfl
    · rw [List.getElem?_set_ne (by omega), List.getElem?_set_ne (by omega), List.getElem?_set_ne (by omega), List.getElem?_set_self (by simp; omega)]; rfl
    · rw [List.getElem?_set_ne (by omega), List.getElem?_set_ne (by omega), List.getElem?_set_self (by simp; omega)]; rfl
    · rw [List.getElem?_set_ne (by omega), List.getElem?_set_self (by simp; omega)]; rfl
    · rw [List.getElem?_set_self (by simp; omega)]; rfl
  · rw [List.getElem?_set_ne (by omega), List.getElem?_set_ne (by omega), List.getElem?_set_ne (by omega), List.getElem?_set_ne (by omega), List.getElem?_set_ne (by omega)]
theorem RfW.lay {j : Nat} {n n2 : Nd} {g : Nat} (h : RfW w B hb (some ⟨g, 0, none⟩) cap S guess) (hj : S[j]? = some n) (hid : n2.id = n.id) (hok : n2.Ok) : RfW (lay5 w g (j * 5) n2) B hb (some ⟨g, 0, none⟩) cap (putN n2 S) guess := by
  have hjl := (List.getElem?_eq_some_iff.1 hj).1
  rw [putN_set h.inc hj hid]
  refine h.of_row hj hid hok rfl (lay5_keep _ _ _ _) ?_
  rw [← fl_put5 n2 hjl]
  exact owns_putq (owns_putq (owns_putq (owns_putq (owns_putq h.own _ (by omega) _) _ (by omega) _) _ (by omega) _) _ (by omega) _) _ (by omega) _
/-- five cells in a block -/
structure C5 (w : World) (bx : Nat) (id : Int) (last mean marg : Nat) (bad : Bool) : Prop where
  c0 : w.cell? ⟨bx, 0, none⟩ = some (.int .i64 id)
  c1 : w.cell? ⟨bx, 1, none⟩ = some (.int .i64 (last : Int))
  c2 : w.cell? ⟨bx, 2, none⟩ = some (.int .i64 (mean : Int))
  c3 : w.cell? ⟨bx, 3, none⟩ = some (.int .i64 (marg : Int))
  c4 : w.cell? ⟨bx, 4, none⟩ = some (.bool bad)
  f1 : w.frozen? ⟨bx, 1, none⟩ = false
  f2 : w.frozen? ⟨bx, 2, none⟩ = false
  f3 : w.frozen? ⟨bx, 3, none⟩ = false
  lt : bx < w.heap.size
section
variable {bx last mean marg : Nat} {id : Int} {bad : Bool}
theorem C5.set1 (h : C5 w bx id last mean marg bad) (x : Nat) : C5 (w.setCell ⟨bx, 1, none⟩ (.int .i64 (x : Int))) bx id x mean marg bad := by
  obtain ⟨c0, c1, c2, c3, c4, f1, f2, f3, lt⟩ := h
  exact ⟨by go_simp, by go_simp, by go_simp, by go_simp, by go_simp, by go_simp, by go_simp, by go_simp, by simpa [World.setCell] using lt⟩
theorem C5.set2 (h : C5 w bx id last mean marg bad) (x : Nat) : C5 (w.setCell ⟨bx, 2, none⟩ (.int .i64 (x : Int))) bx id last x marg bad := by
  obtain ⟨c0, c1, c2, c3, c4, f1, f2, f3, lt⟩ := h
  exact ⟨by go_simp, by go_simp, by go_simp, by go_simp, by go_simp, by go_simp, by go_simp, by go_simp, by simpa [World.setCell] using lt⟩
theorem C5.set3 (h : C5 w bx id last mean marg bad) (x : Nat) : C5 (w.setCell ⟨bx, 3, none⟩ (.int .i64 (x : Int))) bx id last mean x bad := by
  obtain ⟨c0, c1, c2, c3, c4, f1, f2, f3, lt⟩ := h
  exact ⟨by go_simp, by go_simp, by go_simp, by go_simp, by go_simp, by go_simp, by go_simp, by go_simp, by simpa [World.setCell] using lt⟩
end
set_option maxHeartbeats 800000 in
theorem rbeat_no (id now : Int) (w : World) (h : Rf w B hb Bs S guess) (hl : look S id = none) : Calls Try.prog 26 #[.pointer (some ⟨hb, 0, none⟩), .int .i64 id, .int .i64 now] w fun e w' => e = .returned (.int .i64 92) ∧ w = w' := by
  obtain ⟨ao, cap, rfl, h⟩ := h
  have P1 := Lib.hid (rplace_any id w h)
  have HL := Lib.hid hl
  clear h hl
  go_enter Try.func26, Try.ntmps26
  go_wp2_with fail
  refine P1.out.mono ?_; rintro e w1 ⟨x, rfl, hx, rfl⟩
  obtain rfl : x = -1 := by
    rcases hx with ⟨h1, _⟩ | ⟨_, n, _, _, _, h1⟩
    · exact h1
    · rw [HL.out] at h1; cases h1
  clear hx P1
  go_wp2_with fail
  go_ret
  exact ⟨rfl, rfl⟩
set_option maxHeartbeats 800000 in
theorem rbeat_arg (id now : Int) (hT : isT now = false) (w : World) (h : Rf w B hb Bs S guess) {n : Nd} (hl : look S id = some n) : Calls Try.prog 26 #[.pointer (some ⟨hb, 0, none⟩), .int .i64 id, .int .i64 now] w fun e w' => e = .returned (.int .i64 1) ∧ w = w' := by
  obtain ⟨ao, cap, rfl, h⟩ := h
  have P1 := Lib.hid (rplace_any id w h)
  have T1 := fun w => rtime_any now w
  rw [hT] at T1
  have T1 := Lib.hid T1
  have HL := Lib.hid hl
  clear h hl hT
  go_enter Try.func26, Try.ntmps26
  go_wp2_with fail
  refine P1.out.mono ?_; rintro e w1 ⟨x, rfl, hx, rfl⟩
  obtain ⟨j, rfl⟩ : ∃ j : Nat, x = j := by
    rcases hx with ⟨_, h1⟩ | ⟨j, _, h1, _⟩
    · rw [HL.out] at h1; cases h1
    · exact ⟨j, h1⟩
  clear hx P1
  go_wp2_with fail
  refine (T1.out _).mono ?_; rintro e w2 ⟨rfl, rfl⟩
  go_wp2_with fail
  go_ret
  exact ⟨rfl, rfl⟩
set_option maxRecDepth 10000 in
set_option maxHeartbeats 8000000 in
theorem rbeat_yes (id : Int) {t : Nat} (ht : t ≤ 1099511627776) (w : World) (h : Rf w B hb Bs S guess) {n : Nd} (hl : look S id = some n) : Calls Try.prog 26 #[.pointer (some ⟨hb, 0, none⟩), .int .i64 id, .int .i64 (t : Int)] w fun e w' => e = .returned (.int .i64 0) ∧ Rf w' B hb Bs (putN (n.heard t) S) guess ∧ Keep Bs w w' := by
  obtain ⟨ao, cap, hBs, h⟩ := h
  have HBs := Lib.hid hBs
  have P1 := Lib.hid (rplace_any id w h)
  have T1 := fun w => rtime_any (t : Int) w
  rw [isT_nat ht] at T1
  have T1 := Lib.hid T1
  have HL := Lib.hid hl
  have H := Lib.hid h
  have c1 := h.at1
  have hhb := h.hlt
  have hfew := h.few
  have hnok := h.ok n (look_some hl).1
  have HOK := Lib.hid (hnok.heard ht)
  have S1 := Lib.hid (show Ret _ _ _ from fun w => rsilent_any n hnok ht w)
  have W1 := Lib.hid (show Ret _ _ _ from fun w => rwait_any n hnok w)
  obtain ⟨n2, hn2⟩ : ∃ n2, n.heard t = n2 := ⟨_, rfl⟩
  have hmean := hnok.mean; have hmarg := hnok.marg; have hlastb := hnok.last
  have h2i : n2.id = n.id := by rw [← hn2]; rfl
  have h2l : n2.last = max n.last t := by rw [← hn2]; rfl
  have h2m : n2.mean = n.mean + min (n.sil t) 4096 - n.mean / 8 := by rw [← hn2]; rfl
  have h2g : n2.margin = if n.wait < n.sil t then min (2 * n.margin) 4096 else n.margin := by
    rw [← hn2]; show (if n.susp t then _ else _) = _; unfold Nd.susp; simp
  have h2b : n2.bad = n.bad := by rw [← hn2]; rfl
  rw [hn2] at HOK ⊢
  have hslb : n.sil t ≤ 1099511627776 := by unfold Nd.sil; omega
  have hwb := n.wait_hi
  obtain ⟨sl, hsl⟩ : ∃ sl, n.sil t = sl := ⟨_, rfl⟩
  obtain ⟨wt, hwt⟩ : ∃ wt, n.wait = wt := ⟨_, rfl⟩
  rw [hsl] at S1 h2m h2g hslb
  rw [hwt] at W1 h2g hwb
  clear h hl hBs hn2 hsl hwt hnok
  go_enter Try.func26, Try.ntmps26
  go_wp2_with fail
  refine P1.out.mono ?_; rintro e w1 ⟨x, rfl, hx, rfl⟩
  obtain ⟨j, rfl, hj, hnid⟩ : ∃ j : Nat, x = j ∧ S[j]? = some n ∧ n.id = id := by
    rcases hx with ⟨_, h1⟩ | ⟨j, n', h1, h2, h3, h4⟩
    · rw [HL.out] at h1; cases h1
    · rw [HL.out] at h4; cases h4; exact ⟨j, h1, h2, h3⟩
  clear hx P1
  have hjl := (List.getElem?_eq_some_iff.1 hj).1
  obtain ⟨m, hm⟩ : ∃ m, S.length = m := ⟨_, rfl⟩
  rw [hm] at c1 hjl hfew
  have hji : (0 : Int) ≤ (j : Int) := by omega
  have hji2 : (j : Int) < (m : Int) := by omega
  have hmi : (m : Int) ≤ 12 := by omega
  obtain ⟨g, rfl, hg, hgB, hcell⟩ := H.out.node hj
  have d0 := (hcell 0 _ rfl).1
  have d1 := (hcell 1 _ rfl).1
  have d2 := (hcell 2 _ rfl).1
  have d3 := (hcell 3 _ rfl).1
  have d4 := (hcell 4 _ rfl).1
  rw [Nat.add_zero] at d0
  have HJ := Lib.hid hj; have HM := Lib.hid hm
  clear hcell hj hm hnid
  obtain ⟨nid, last, mean, marg, bad⟩ := n
  obtain ⟨nid2, last2, mean2, marg2, bad2⟩ := n2
  simp only at h2i h2l h2m h2g h2b d0 d1 d2 d3 d4 hmean hmarg hlastb
  subst h2i h2b
  have HFACT := Lib.hid (And.intro h2l (And.intro h2m h2g))
  clear h2l h2m h2g
  go_wp2_with fail
  refine (T1.out _).mono ?_; rintro e w2 ⟨rfl, rfl⟩
  go_wp2_with fail
  have R1 := heap_alloc_new w2 (pobj ⟨nid2, last, mean, marg, bad2⟩)
  have B1 := below_alloc (Below.refl w2.heap.size w2) (pobj ⟨nid2, last, mean, marg, bad2⟩)
  refine (S1.out _).mono ?_; rintro e w3 ⟨rfl, b3⟩
  have r3 := (b3.block w2.heap.size (by simp)).trans R1
  have b03 := below_next B1 b3
  clear b3 R1 B1 d0 d1 d2 d3 d4
  simp only [pobj] at r3
  have rc := fun i => cell_of_row w3 w2.heap.size i _ _ (0, 0) r3
  have k0 := rc 0; have k1 := rc 1; have k2 := rc 2; have k3 := rc 3; have k4 := rc 4
  simp only [List.getElem?_toArray, List.getElem?_cons_zero, List.getElem?_cons_succ] at k0 k1 k2 k3 k4
  have hbx : w2.heap.size < w3.heap.size := (Array.getElem?_eq_some_iff.1 r3).1
  have HB3 := Lib.hid b03; have R3 := Lib.hid r3
  clear rc b03 r3
  go_wp2_with fail
  refine (W1.out _).mono ?_; rintro e w4 ⟨rfl, b4⟩
  have r4 := (b4.block w2.heap.size hbx).trans R3.out
  have rc := fun i => cell_of_row w4 w2.heap.size i _ _ (0, 0) r4
  have z := fun i => frozen_of_row w4 w2.heap.size i _ _ r4
  have hbx4 : w2.heap.size < w4.heap.size := (Array.getElem?_eq_some_iff.1 r4).1
  clear k0 k1 k2 k3 k4
  have k0 := rc 0; have k1 := rc 1; have k2 := rc 2; have k3 := rc 3; have k4 := rc 4
  have z1 := z 1; have z2 := z 2; have z3 := z 3
  simp only [List.getElem?_toArray, List.getElem?_cons_zero, List.getElem?_cons_succ] at k0 k1 k2 k3 k4
  have HB4 := Lib.hid (below_next HB3.out b4)
  clear rc z r4 b4 R3 HB3 S1 W1
  have hq : (mean : Int).tdiv 8 = (mean : Int) / 8 := Int.tdiv_eq_ediv_of_nonneg (by omega)
  have hq2 : 0 ≤ (mean : Int) / 8 ∧ (mean : Int) / 8 ≤ 4096 := by omega
  obtain ⟨bx, hbxe⟩ : ∃ bx, w2.heap.size = bx := ⟨_, rfl⟩
  have HBX := Lib.hid hbxe
  have hgx : g < bx := by omega
  have hhx : hb < bx := by omega
  rw [hbxe] at k0 k1 k2 k3 k4 z1 z2 z3 hbx hbx4 ⊢
  clear hbxe
  obtain ⟨f1, f2, f3⟩ := HFACT.out
  clear HFACT
  have HF1 := Lib.hid f1; have HF2 := Lib.hid f2; have HF3 := Lib.hid f3
  clear f1 f2 f3
  have K0 := Lib.hid (show C5 w4 bx nid2 last mean marg bad2 from ⟨k0, k1, k2, k3, k4, z1, z2, z3, hbx4⟩)
  clear k0 k1 k2 k3 k4 z1 z2 z3
  go_upto_if 33 with (fail)
  go_cut [] from 11 to 65 (fun wx => C5 wx bx nid2 last mean marg2 bad2 ∧ Keep [bx] w4 wx)
  case first =>
    as_aux_lemma =>
      obtain ⟨k0, k1, k2, k3, k4, z1, z2, z3, hbx4⟩ := K0.out
      have hk0 := K0.out
      by_cases hs : wt < sl
      · have hsi : (wt : Int) < (sl : Int) := by omega
        by_cases hm2 : 2 * marg ≤ 4096
        · have hmi2 : ¬ (4096 : Int) < 2 * (marg : Int) := by omega
          have hmg : 2 * (marg : Int) = (marg2 : Int) := by have := HF3.out; rw [if_pos hs] at this; omega
          go_wp2_with fail
          go_meet
          case rel => exact ⟨hk0.set3 marg2, Keep.setCell w4 ⟨bx, 3, none⟩ _⟩
        · have hmi2 : (4096 : Int) < 2 * (marg : Int) := by omega
          have hmg : (marg2 : Int) = 4096 := by have := HF3.out; rw [if_pos hs] at this; omega
          go_wp2_with fail
          go_meet
          case rel =>
            rw [← hmg, show 2 * (marg : Int) = ((2 * marg : Nat) : Int) by omega]
            exact ⟨(hk0.set3 (2 * marg)).set3 marg2, (Keep.setCell w4 ⟨bx, 3, none⟩ _).trans (show Keep [bx] _ _ from Keep.setCell _ ⟨bx, 3, none⟩ _)⟩
      · have hsi : ¬ (wt : Int) < (sl : Int) := by omega
        have hmg : marg2 = marg := by have := HF3.out; rw [if_neg hs] at this; exact this
        subst hmg
        go_wp2_with fail
        go_meet
        case rel => exact ⟨hk0, Keep.refl _ _⟩
  case rest =>
    obtain ⟨hk1, kk1⟩ := hcut
    have K1 := Lib.hid hk1; have KK1 := Lib.hid kk1
    clear K0 hk1 kk1
    go_upto_if 43 with (fail)
    go_cut [10] from 11 to 65 (fun s wx => s = .int .i64 ((min sl 4096 : Nat) : Int) ∧ wc = wx)
    case first =>
      as_aux_lemma =>
        by_cases hs : 4096 < sl
        · have hsi : (4096 : Int) < (sl : Int) := by omega
          have e : ((min sl 4096 : Nat) : Int) = 4096 := by omega
          go_wp2_with fail
          go_meet
          case rel => exact ⟨by rw [e], rfl⟩
        · have hsi : ¬ (4096 : Int) < (sl : Int) := by omega
          have e : ((min sl 4096 : Nat) : Int) = (sl : Int) := by omega
          go_wp2_with fail
          go_meet
          case rel => exact ⟨by rw [e], rfl⟩
    case rest =>
      obtain ⟨rfl, rfl⟩ := hcut
      obtain ⟨x4, hx4⟩ : ∃ x4, min sl 4096 = x4 := ⟨_, rfl⟩
      rw [hx4]
      have hx4b : (x4 : Int) ≤ 4096 := by omega
      have hmn : (mean : Int) + (x4 : Int) - (mean : Int) / 8 = (mean2 : Int) := by have := HF2.out; omega
      obtain ⟨k0, k1, k2, k3, k4, z1, z2, z3, hbx5⟩ := K1.out
      have hk2 := Lib.hid (K1.out.set2 mean2)
      have kk2 := Lib.hid (KK1.out.trans (Keep.setCell wc ⟨bx, 2, none⟩ (.int .i64 (mean2 : Int))))
      go_upto_if 56 with (fail)
      generalize wc.setCell ⟨bx, 2, none⟩ (.int .i64 (mean2 : Int)) = w7 at *
      clear k0 k1 k2 k3 k4 z1 z2 z3 hbx5 K1 KK1 hmn hx4
      go_cut [] from 11 to 65 (fun wx => C5 wx bx nid2 last2 mean2 marg2 bad2 ∧ Keep [bx] w4 wx)
      case first =>
        as_aux_lemma =>
          obtain ⟨k0, k1, k2, k3, k4, z1, z2, z3, hbx7⟩ := hk2.out
          by_cases hs : last < t
          · have hsi : (last : Int) < (t : Int) := by omega
            have e : last2 = t := by have := HF1.out; omega
            subst e
            go_wp2_with fail
            go_meet
            case rel => exact ⟨hk2.out.set1 _, kk2.out.trans (show Keep [bx] _ _ from Keep.setCell _ ⟨bx, 1, none⟩ _)⟩
          · have hsi : ¬ (last : Int) < (t : Int) := by omega
            have e : last2 = last := by have := HF1.out; omega
            subst e
            go_wp2_with fail
            go_meet
            case rel => exact ⟨hk2.out, kk2.out⟩
      case rest =>
        obtain ⟨hk9, kk9⟩ := hcut
        have HK := Lib.hid kk9
        obtain ⟨n0, n1, n2, n3, n4, _, _, _, hwx⟩ := hk9
        clear hk2 kk2 kk9
        have H5 := Lib.hid ((H.out.below HB4.out).keep HK.out (fun q hq hm => by have := (H.out.blocks q hq).2; have := HBX.out; simp at hm; omega))
        have c5' := H5.out.at1
        rw [HM.out] at c5'
        have k0 := cell_regrown n0; have k1 := cell_regrown n1; have k2 := cell_regrown n2; have k3 := cell_regrown n3; have k4 := cell_regrown n4
        have kd := cell_regrown c5'
        clear n0 n1 n2 n3 n4 c5'
        go_wp2_with fail
        refine region_tail 7 (by kernel_rfl) (by kernel_rfl) ?_
        simp only [List.take_succ_cons, List.take_zero, List.drop_succ_cons, List.drop_zero]
        repeat (go_big_quiet_step (fail))
        refine wpQuiet_nil ?_
        intro _ hw'
        obtain ⟨⟨dq, osq⟩, hw''⟩ := hw'
        subst hw''
        have lk := below_regrown wc dq osq
        have h6 := H5.out.below lk
        have KK := Lib.hid ((((Keep.of_below HB4.out (bx :: hb :: blk (some ⟨g, 0, none⟩))).trans (HK.out.mono (fun q hq => .inl (by simp at hq ⊢; exact .inl hq)))).trans (Keep.of_below lk _)).mono (T := hb :: blk (some ⟨g, 0, none⟩)) (fun q hq => by
          rcases List.mem_cons.1 hq with rfl | hq
          · exact .inr (by rw [HBX.out]; exact Nat.le_refl _)
          · exact .inl hq))
        have h7 := h6.lay (n2 := ⟨nid2, last2, mean2, marg2, bad2⟩) HJ.out rfl HOK.out
        have kl := lay5_keep (grow (redrawn wc dq) osq) g (j * 5) ⟨nid2, last2, mean2, marg2, bad2⟩
        obtain ⟨g', e', _, _, hc⟩ := h6.node HJ.out
        cases e'
        have y0 := (hc 0 _ rfl).2; have y1 := (hc 1 _ rfl).2; have y2 := (hc 2 _ rfl).2; have y3 := (hc 3 _ rfl).2; have y4 := (hc 4 _ rfl).2
        have v0 := (hc 0 _ rfl).1; have v1 := (hc 1 _ rfl).1; have v2 := (hc 2 _ rfl).1; have v3 := (hc 3 _ rfl).1; have v4 := (hc 4 _ rfl).1
        rw [Nat.add_zero] at y0 v0
        have hg6 : g < (grow (redrawn wc dq) osq).heap.size := by have := (h6.blocks g (by simp [blk])).2; exact this
        have H7 := Lib.hid h7; have KL := Lib.hid kl
        clear k0 k1 k2 k3 k4 kd lk h6 h7 kl hc
        generalize grow (redrawn wc dq) osq = w6 at *
        go_wp2_with fail
        go_ret
        refine ⟨rfl, ⟨_, _, HBs.out, H7.out⟩, ?_⟩
        rw [HBs.out]
        exact KK.out.trans (KL.out.mono fun q hq => .inl (by simp [blk] at hq ⊢; exact .inr hq))
end
end Go.Proofs.Ytlfnkplgjlpaaaa
