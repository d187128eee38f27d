/- DetectLearns: the walk. -/
import Derived.Test.YtlfnkplgjlpaaaaAwake
import Derived.Test.YtlfnkplgjlpaaaaArg
namespace Go.Proofs.Ytlfnkplgjlpaaaa
open Go.RowKit Go.Sort
set_option linter.unusedVariables false

/-- how often it was wrongly suspected, and its margin -/
def Lrn (n : Nd) (wrong : Nat) : Prop := wrong ≤ 12 ∧ (2 ^ wrong ≤ n.margin ∨ 4096 ≤ n.margin)
theorem Lrn.start (g : Nat) (hg : 1 ≤ g) : Lrn (newN g 0 0) 0 := ⟨by omega, .inl (by simpa using hg)⟩
theorem susp_marg {n : Nd} {now : Nat} (hs : n.susp now = true) (h4 : n.sil now ≤ 4096) : n.margin < 4096 := by
  unfold Nd.susp at hs
  have h1 : n.wait < n.sil now := by simpa using hs
  unfold Nd.wait at h1
  omega
theorem Lrn.yes {n : Nd} {wrong now : Nat} (h : Lrn n wrong) (hs : n.susp now = true) (h4 : n.sil now ≤ 4096) : Lrn (n.heard now) (wrong + 1) := by
  have hm := susp_marg hs h4
  obtain ⟨h1, h2⟩ := h
  have h3 : 2 ^ wrong ≤ n.margin := by omega
  have h5 : wrong < 12 := by
    refine (Nat.pow_lt_pow_iff_right (a := 2) (by omega)).1 ?_
    have : (2 : Nat) ^ 12 = 4096 := by decide
    omega
  refine ⟨by omega, ?_⟩
  show 2 ^ (wrong + 1) ≤ (if n.susp now then min (2 * n.margin) 4096 else n.margin) ∨ 4096 ≤ (if n.susp now then min (2 * n.margin) 4096 else n.margin)
  rw [hs, if_pos rfl, Nat.pow_succ]
  omega
theorem Lrn.no {n : Nd} {wrong now : Nat} (h : Lrn n wrong) (hs : n.susp now = false) : Lrn (n.heard now) wrong := by
  refine ⟨h.1, ?_⟩
  show 2 ^ wrong ≤ (if n.susp now then min (2 * n.margin) 4096 else n.margin) ∨ 4096 ≤ (if n.susp now then min (2 * n.margin) 4096 else n.margin)
  rw [hs]
  exact h.2
theorem bads_one (n : Nd) (now : Nat) : (bads [n] now).length = if n.susp now then 1 else 0 := by
  unfold bads
  cases hs : n.susp now <;> simp [hs]
theorem sil_last {n : Nd} {now : Nat} (h : n.last ≤ now) : n.sil now = now - n.last := by unfold Nd.sil; omega
theorem heard_last {n : Nd} {now : Nat} (h : n.last ≤ now) : (n.heard now).last = now := by show max n.last now = now; omega
theorem susp_off (n : Nd) {x : Nat} (h : x ≤ n.wait) : n.susp (n.last + x) = false := by
  unfold Nd.susp Nd.sil; simp; omega
theorem susp_on (n : Nd) : n.susp (n.last + n.wait + 1) = true := by
  unfold Nd.susp Nd.sil; simp; omega
theorem putN_one {n n2 : Nd} (h : n.id = n2.id) : putN n2 [n] = [n2] := by simp [putN, h]

section
variable {w : World} {B hn guess : Nat} {Bs : List Nat} {n : Nd}
theorem suspects_off {now : Nat} (hnow : now ≤ 1099511627776) (w : World) (h : Det w B hn Bs [n] guess) (hb : n.susp now = false) : Calls Try.prog 13 #[.pointer (some ⟨hn, 0, none⟩), .int .i64 (now : Int)] w fun e w' =>
    ∃ ao cap, e = .returned (.slice ao 0 cap) ∧ Below w.heap.size w w' := by
  refine (suspects_yes hnow w h).mono fun e w' ⟨v, h1, h2, h3⟩ => ?_
  rw [bads_one, hb] at h2
  obtain ⟨ao, cap, rfl, _, _⟩ := owns_shape h2
  exact ⟨ao, cap, h1, h3⟩
theorem suspects_on {now : Nat} (hnow : now ≤ 1099511627776) (w : World) (h : Det w B hn Bs [n] guess) (hb : n.susp now = true) : Calls Try.prog 13 #[.pointer (some ⟨hn, 0, none⟩), .int .i64 (now : Int)] w fun e w' =>
    ∃ ao cap, e = .returned (.slice ao 1 cap) ∧ Below w.heap.size w w' := by
  refine (suspects_yes hnow w h).mono fun e w' ⟨v, h1, h2, h3⟩ => ?_
  rw [bads_one, hb] at h2
  obtain ⟨ao, cap, rfl, _, _⟩ := owns_shape h2
  exact ⟨ao, cap, h1, h3⟩
end
theorem i64_hi {k : Int} (wk : (Lit.int .i64 k).wf = true) : -9223372036854775808 ≤ k ∧ k ≤ 9223372036854775807 := by
  simp [Lit.wf, IntKind.min, IntKind.max, IntKind.signed, IntKind.bits] at wk
  omega
/-- the guess of a number -/
def gs (x : Int) : Nat := 1 + ((if x < 0 then -(x + 1) else x) % 4096).toNat
theorem gs_ok (x : Int) : 1 ≤ gs x ∧ gs x ≤ 4096 := by unfold gs; omega
/-- the gap of a number -/
def gap (x : Int) : Nat := (x.natAbs % 4097)
theorem tmod_bd (z : Int) : -4096 ≤ z.tmod 4097 ∧ z.tmod 4097 ≤ 4096 := by
  by_cases hz : 0 ≤ z
  · rw [Int.tmod_eq_emod_of_nonneg hz]; omega
  · have h : z.tmod 4097 = -((-z).tmod 4097) := by rw [Int.neg_tmod]; omega
    rw [h, Int.tmod_eq_emod_of_nonneg (by omega)]; omega
theorem gap_pos {z : Int} (h : ¬ z.tmod 4097 < 0) : z.tmod 4097 = (gap z : Int) := by
  unfold gap
  by_cases hz : 0 ≤ z
  · rw [Int.tmod_eq_emod_of_nonneg hz]; omega
  · have h2 : z.tmod 4097 = -((-z).tmod 4097) := by rw [Int.neg_tmod]; omega
    rw [h2, Int.tmod_eq_emod_of_nonneg (by omega)] at h ⊢
    omega
theorem gap_neg {z : Int} (h : z.tmod 4097 < 0) : -z.tmod 4097 = (gap z : Int) := by
  unfold gap
  by_cases hz : 0 ≤ z
  · rw [Int.tmod_eq_emod_of_nonneg hz] at h; omega
  · have h2 : z.tmod 4097 = -((-z).tmod 4097) := by rw [Int.neg_tmod]; omega
    rw [h2, Int.tmod_eq_emod_of_nonneg (by omega)]
    omega
theorem gap_ok (x : Int) : gap x ≤ 4096 := by unfold gap; omega
set_option maxRecDepth 100000 in
set_option maxHeartbeats 8000000 in
theorem detectLearns_law (x : Int) (wx : (Lit.int .i64 x).wf = true) (ao : Option Addr) (n cap : Nat) (l : List Int) (hl : l.length = n) (hc : n ≤ cap) (hm : cap ≤ maxLen) (hz : n ≤ 17592186043904) (W : World) (hr : IntsRd W ao l) :
    Calls Try.prog 4 #[.int .i64 x, .slice ao n cap] W (LawOk W) := by
  have hx := i64_hi wx
  have HR := Lib.hid hr; have HL := Lib.hid hl
  have hg := gs_ok x
  clear hr hl wx
  have hni : (n : Int) ≤ 17592186043904 := by omega
  by_cases hneg : x < 0
  all_goals
    first
      | (have ht : -(x + 1).tmod 4096 = (-(x + 1)) % 4096 := by
           rw [← Int.neg_tmod, Int.tmod_eq_emod_of_nonneg (by omega)]
         have hgx : (1 : Int) + -(x + 1).tmod 4096 = (gs x : Int) := by
           rw [ht]; unfold gs; rw [if_pos (by assumption)]; omega
         have hb1 : 0 ≤ -(x + 1).tmod 4096 ∧ -(x + 1).tmod 4096 < 4096 := by rw [ht]; omega
         clear ht)
      | (have hgx : (1 : Int) + x % 4096 = (gs x : Int) := by
           unfold gs; rw [if_neg (by assumption)]; omega
         have hb1 : 0 ≤ x % 4096 ∧ x % 4096 < 4096 := by omega)
    have HGX := Lib.hid hgx; clear hgx
    go_enter Try.func4, Try.ntmps4
    go_wp2_with fail
    refine (awake_any W).mono ?_; rintro e w0 ⟨rfl, b0⟩
    have HB0 := Lib.hid b0; clear b0
    go_wp2_with fail
    rw [HGX.out]
    generalize gs x = g at *
    have hg1 : 1 ≤ g ∧ g ≤ 4096 := hg
    refine (new_yes g hg1 w0).mono ?_; rintro e w1 ⟨hn, rfl, h1, b1⟩
    have W1 := Lib.hid (watch_yes 0 (by omega) (now := 0) (by omega) w1 h1 rfl (by simp))
    have HB1 := Lib.hid (below_next HB0.out b1)
    have hs1 := b1.size
    have hge := Lib.hid (show ∀ q ∈ [hn], w0.heap.size ≤ q from fun q hq => (h1.blocks q hq).1)
    have HBW := Lib.hid HB0.out.size
    clear h1 b1 HB0 hb1
    go_wp2_with fail
    refine W1.out.mono ?_; rintro e w2 ⟨Bs, rfl, h2, t2⟩
    have h2 : Det w2 w0.heap.size hn Bs [newN g 0 0] g := h2
    have HB2 := Lib.hid (HB1.out.trans (t2.keep.below (B := W.heap.size) HB1.out.size (fun q hq => by have := hge.out q hq; have := HBW.out; omega)))
    have H2 := Lib.hid h2
    clear h2 t2 W1 HB1 hge
    go_wp2_with fail
    go_loopw [8, 9, 10, 11, 12, 13, 14] (fun v8 v9 v10 v11 v12 v13 v14 wr => ∃ (k wrong t : Nat) (nd : Nd), v8 = .int .i64 (t : Int) ∧ v9 = .int .i64 (wrong : Int) ∧ v10 = .int .i64 (k : Int) ∧ k ≤ n ∧ k ≤ 3000 ∧ t ≤ k * 4096 ∧ nd.last = t ∧ nd.id = 0 ∧ Lrn nd wrong ∧ Det wr w0.heap.size hn Bs [nd] g ∧ Below W.heap.size W wr) (fun _ _ v10 _ _ _ _ _ => n - (intOf v10).toNat)
    case atStart => exact ⟨0, 0, 0, newN g 0 0, rfl, rfl, rfl, by omega, by omega, by omega, rfl, rfl, Lrn.start g hg.1, H2.out, HB2.out⟩
    case round =>
      clear H2 HB2 HGX
      obtain ⟨k, wrong, t, nd, rfl, rfl, rfl, hk, hk3, htk, hlast, hid, hlrn, hdet, hbl⟩ := hrel
      by_cases hlt : k < n ∧ k < 3000
      · obtain ⟨hlt, hlt3⟩ := hlt
        obtain ⟨z, hz0⟩ : ∃ z, l[k]? = some z := ⟨_, List.getElem?_eq_getElem (by rw [HL.out]; exact hlt)⟩
        obtain ⟨ga, oa, rfl, hga, hcell⟩ := (HR.out.below hbl).2 k z hz0
        have hzr := HR.out.1 z (List.mem_of_getElem? hz0)
        have hki : (0 : Int) ≤ (k : Int) := by omega
        have hki2 : (k : Int) < (n : Int) := by omega
        have hki3 : (k : Int) < 3000 := by omega
        have hti : (t : Int) ≤ 12288000 := by omega
        have hwi : (wrong : Int) ≤ 12 := by have := hlrn.1; omega
        have hgp := gap_ok z
        have HLR := Lib.hid hlrn; have HD := Lib.hid hdet; have HB := Lib.hid hbl; have HLA := Lib.hid hlast; have HID := Lib.hid hid
        clear hlrn hdet hbl hlast hid hz0
        have hzb : -4096 ≤ z.tmod 4097 ∧ z.tmod 4097 ≤ 4096 := tmod_bd z
        by_cases hzn : z.tmod 4097 < 0
        all_goals
          first
            | have hge2 : -z.tmod 4097 = (gap z : Int) := gap_neg (by assumption)
            | have hge2 : z.tmod 4097 = (gap z : Int) := gap_pos (by assumption)
          go_wp2_with fail
          obtain ⟨t2, ht2⟩ : ∃ t2, t + gap z = t2 := ⟨_, rfl⟩
          rw [show (t : Int) + (gap z : Int) = (t2 : Int) by omega]
          have htb : t2 ≤ 12292096 := by omega
          have htb3 : t2 ≤ (k + 1) * 4096 := by omega
          have htb2 : (t2 : Int) ≤ 12292096 := by omega
          have hsil : nd.sil t2 ≤ 4096 := by have := HLA.out; unfold Nd.sil; omega
          have hle : nd.last ≤ t2 := by have := HLA.out; omega
          have hlook : look [nd] 0 = some nd := by simp [look, HID.out]
          clear hge2 ht2 hzn hzb
          generalize gap z = gp at *
          have BT := Lib.hid (fun w (h : Det w w0.heap.size hn Bs [nd] g) => beat_yes (B := w0.heap.size) 0 (by decide) (now := t2) (by omega) w h (n := nd) hlook)
          have hput : putN (nd.heard t2) [nd] = [nd.heard t2] := putN_one rfl
          rw [hput] at BT
          have hl2 := heard_last hle
          have hid2 : (nd.heard t2).id = 0 := HID.out
          have HNX : ∀ b, nd.susp t2 = b → Lrn (nd.heard t2) (if b then wrong + 1 else wrong) := fun b hb => by
            cases b
            · exact HLR.out.no hb
            · exact HLR.out.yes hb hsil
          have HNX := Lib.hid HNX
          obtain ⟨n2, hn2⟩ : ∃ n2, nd.heard t2 = n2 := ⟨_, rfl⟩
          rw [hn2] at BT hl2 hid2 HNX
          have hwl := n2.wait_lo
          have hwh := n2.wait_hi
          have s0 := susp_off n2 (x := 0) (by omega)
          have s1 := susp_off n2 (x := n2.wait) (Nat.le_refl _)
          have s2 := susp_on n2
          rw [hl2] at s0 s1 s2
          rw [Nat.add_zero] at s0
          have hlook2 : look [n2] 0 = some n2 := by simp [look, hid2]
          have WT := Lib.hid (fun w (h : Det w w0.heap.size hn Bs [n2] g) => waitM_yes (B := w0.heap.size) 0 (by decide) w h hlook2 (h.found hlook2).1)
          generalize hwt : n2.wait = wt at *
          have hwl2 : (4 : Int) ≤ (wt : Int) := by omega
          have hwh2 : (wt : Int) ≤ 4096 := by omega
          have Q0 := Lib.hid (fun w (h : Det w w0.heap.size hn Bs [n2] g) => suspects_off (B := w0.heap.size) (now := t2) (by omega) w h s0)
          have Q1 := Lib.hid (fun w (h : Det w w0.heap.size hn Bs [n2] g) => suspects_off (B := w0.heap.size) (now := t2 + wt) (by omega) w h s1)
          have Q2 := Lib.hid (fun w (h : Det w w0.heap.size hn Bs [n2] g) => suspects_on (B := w0.heap.size) (now := t2 + wt + 1) (by omega) w h s2)
          have e1 : ((t2 + wt : Nat) : Int) = (t2 : Int) + (wt : Int) := by omega
          have e2 : ((t2 + wt + 1 : Nat) : Int) = (t2 : Int) + (wt : Int) + 1 := by omega
          rw [e1] at Q1
          rw [e2] at Q2
          have HL2 := Lib.hid hl2; have HI2 := Lib.hid hid2; have HT3 := Lib.hid htb3
          clear hn2 hput hlook hlook2 e1 e2 s0 s1 s2 hwl hwh hwt hl2 hid2 htb3 htb hsil hle
          cases hsb : nd.susp t2
          all_goals
            first
              | have S1 := suspects_off (now := t2) (by omega) wr HD.out hsb
              | have S1 := suspects_on (now := t2) (by omega) wr HD.out hsb
            have HX := HNX.out _ hsb
            simp only [Bool.false_eq_true, if_false, if_true] at HX
            have HX := Lib.hid HX
            clear hsb HNX
            refine S1.mono ?_; rintro e w3 ⟨a3, c3, rfl, b3⟩
            have H3 := HD.out.below b3
            have B3 := Lib.hid (below_next HB.out b3)
            have hs3 : W.heap.size ≤ w3.heap.size := B3.out.size
            clear b3 S1
            go_wp2_with fail
            refine (BT.out w3 H3).mono ?_; rintro e w4 ⟨rfl, h4, t4⟩
            have B4 := Lib.hid (turned_below B3.out t4 hs3 (fun q hq => Nat.le_trans HBW.out (H3.blocks q hq).1))
            have H4 := Lib.hid h4
            clear h4 t4 H3 BT
            go_wp2_with fail
            refine (WT.out w4 H4.out).mono ?_; rintro e w5 ⟨rfl, b5⟩
            have H5 := Lib.hid (H4.out.below b5)
            have B5 := Lib.hid (below_next B4.out b5)
            clear b5 H4 WT
            go_wp2_with fail
            refine (Q0.out w5 H5.out).mono ?_; rintro e w6 ⟨a6, c6, rfl, b6⟩
            have H6 := Lib.hid (H5.out.below b6)
            have B6 := Lib.hid (below_next B5.out b6)
            clear b6 H5 Q0
            go_wp2_with fail
            refine (Q1.out w6 H6.out).mono ?_; rintro e w7 ⟨a7, c7, rfl, b7⟩
            have H7 := Lib.hid (H6.out.below b7)
            have B7 := Lib.hid (below_next B6.out b7)
            clear b7 H6 Q1
            go_wp2_with fail
            refine (Q2.out w7 H7.out).mono ?_; rintro e w8 ⟨a8, c8, rfl, b8⟩
            have H8 := Lib.hid (H7.out.below b8)
            have B8 := Lib.hid (below_next B7.out b8)
            clear b8 H7 Q2
            go_wp2_with fail
            go_roundw
            case rel => exact ⟨k + 1, _, t2, n2, rfl, by go_num, by go_num, by omega, by omega, HT3.out, HL2.out, HI2.out, HX.out, H8.out, B8.out⟩
            case measure => simp [intOf]; omega
      · have HLR := Lib.hid hlrn; have HB := Lib.hid hbl
        have hw13 : (wrong : Int) ≤ 13 := by have := hlrn.1; omega
        clear hlrn hdet hbl hlast hid
        rcases Nat.lt_or_ge k n with hkn | hkn
        · have hk30 : k = 3000 := by omega
          subst hk30
          have hki2 : (3000 : Int) < (n : Int) := by omega
          rw [show ((3000 : Nat) : Int) = 3000 from rfl]
          clear hk hk3 hlt htk hkn
          go_wp2_with fail
          go_ret
          exact ⟨rfl, HB.out⟩
        · obtain rfl : k = n := by omega
          clear hk hk3 hlt htk hkn
          go_wp2_with fail
          go_ret
          exact ⟨rfl, HB.out⟩
end Go.Proofs.Ytlfnkplgjlpaaaa
