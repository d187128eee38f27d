/- TopBeats: the walk. -/
import Derived.Test.YtlfnkplgjlpaaaaTop
import Derived.Test.YtlfnkplgjlpaaaaOwn2
import Derived.Deep.CutRange
namespace Go.Proofs.Ytlfnkplgjlpaaaa
open Go.RowKit Go.Sort
set_option linter.unusedVariables false

set_option maxRecDepth 100000 in
set_option maxHeartbeats 16000000 in
theorem topBeats_law (x0 : Int) (wx0 : (Lit.int .i64 x0).wf = true) (x1 : Int) (wx1 : (Lit.int .i64 x1).wf = true) (ao : Option Addr) (n cap : Nat) (l : List Int) (hl : l.length = n) (hc : n ≤ cap) (hm : cap ≤ maxLen)
    (bo : Option Addr) (n2 cap2 : Nat) (l2 : List Bool) (hl2 : l2.length = n2) (hc2 : n2 ≤ cap2) (hm2 : cap2 ≤ maxLen) (W : World) (hr : IntsRd W ao l) (hr2 : BoolsRd W bo l2) :
    Calls Try.prog 7 #[.agg #[.int .i64 x0, .int .i64 x1, .slice ao n cap, .slice bo n2 cap2]] W (LawOk W) := by
  have hx0 := i64_hi wx0; have hx1 := i64_hi wx1
  have hni : (n : Int) ≤ 9223372036854775807 := by unfold maxLen at hm; omega
  have hni2 : (n2 : Int) ≤ 9223372036854775807 := by unfold maxLen at hm2; omega
  have HL := Lib.hid hl; have HL2 := Lib.hid hl2
  have s0 := Lib.hid (fun w => share_any x0 hx0 201 (by omega) w)
  have s1 := Lib.hid (fun w => share_any x1 hx1 201 (by omega) w)
  have l0 := shr_lt x0 (n := 201) (by omega)
  have l1 := shr_lt x1 (n := 201) (by omega)
  have bb := below_alloc (Below.refl W.heap.size W) (.cells #[.int .i64 x0, .int .i64 x1, .slice ao n cap, .slice bo n2 cap2] 56)
  have hrow := heap_alloc_new W (.cells #[.int .i64 x0, .int .i64 x1, .slice ao n cap, .slice bo n2 cap2] 56)
  have q0 := cell_of_row _ _ 0 _ _ (0, 0) hrow
  have q1 := cell_of_row _ _ 1 _ _ (0, 0) hrow
  have q2 := cell_of_row _ _ 2 _ _ (0, 0) hrow
  have q3 := cell_of_row _ _ 3 _ _ (0, 0) hrow
  simp only [List.getElem?_toArray, List.getElem?_cons_zero, List.getElem?_cons_succ] at q0 q1 q2 q3
  have HR := Lib.hid (hr.below bb); have HR2 := Lib.hid (hr2.below bb)
  have hsz : W.heap.size < (W.alloc (.cells #[.int .i64 x0, .int .i64 x1, .slice ao n cap, .slice bo n2 cap2] 56)).heap.size := by simp
  have BB := Lib.hid bb
  clear wx0 wx1 hr hr2 hl hl2 bb hrow
  go_enter Try.func7, Try.ntmps7
  go_upto_region 1 with (fail)
  generalize hw1 : W.alloc (.cells #[.int .i64 x0, .int .i64 x1, .slice ao n cap, .slice bo n2 cap2] 56) = w1 at *
  clear hw1
  obtain ⟨bx, hbx⟩ : ∃ bx, W.heap.size = bx := ⟨_, rfl⟩
  rw [hbx] at q0 q1 q2 q3 hsz ⊢
  have HBX := Lib.hid hbx
  clear hbx
  have i201 : ((201 : Nat) : Int) = 201 := rfl
  rw [i201] at s0 s1
  clear i201
  generalize shr x0 201 = a0 at *
  generalize shr x1 201 = a1 at *
  obtain ⟨r1, hr1⟩ : ∃ r1, 900 + a0 = r1 := ⟨_, rfl⟩
  obtain ⟨r2, hr2⟩ : ∃ r2, 900 + a1 = r2 := ⟨_, rfl⟩
  have e1 : (900 : Int) + (a0 : Int) = (r1 : Int) := by omega
  have e2 : (900 : Int) + (a1 : Int) = (r2 : Int) := by omega
  have hr1b : 900 ≤ r1 ∧ r1 ≤ 1100 := by omega
  have hr2b : 900 ≤ r2 ∧ r2 ≤ 1100 := by omega
  have b0 : (a0 : Int) < 201 := by omega
  have b1 : (a1 : Int) < 201 := by omega
  clear hr1 hr2 l0 l1
  go_wp2_with fail
  refine (s0.out _).mono ?_; rintro e w2 ⟨rfl, rfl⟩
  go_wp2_with fail
  refine (newC_any r1 hr1b w2).mono ?_; rintro e w3 ⟨hm', rfl, ck1, hm1, b3⟩
  have C3 := Lib.hid ck1; have HM1 := Lib.hid hm1; have B3 := Lib.hid b3
  have q1' := (b3.cell hsz).trans q1
  have hs3 : w2.heap.size ≤ w3.heap.size := b3.size
  clear ck1 hm1 b3
  go_wp2_with fail
  refine (s1.out _).mono ?_; rintro e w4 ⟨rfl, rfl⟩
  go_wp2_with fail
  refine (newC_any r2 hr2b w4).mono ?_; rintro e w5 ⟨ht', rfl, ck2, hm2', b5⟩
  have C5 := Lib.hid ck2; have HM2 := Lib.hid hm2'; have B5 := Lib.hid (B3.out.trans (b5.mono hs3)); have b5' := Lib.hid b5
  clear ck2 hm2' b5
  go_wp2_with fail
  refine (new_yes 1 (by omega) w5).mono ?_; rintro e w6 ⟨hn, rfl, hd6, b6⟩
  have W7 := Lib.hid (watch_yes 3 (by omega) (now := 0) (by omega) w6 hd6 rfl (by simp))
  have C3' := Lib.hid ((C3.out.below b5'.out).below b6)
  have C5' := Lib.hid (C5.out.below b6)
  have B6 := Lib.hid (B5.out.trans (b6.mono B5.out.size))
  have HN := Lib.hid (hd6.blocks hn (by simp)).1
  have l3 := C3.out.lt; have l5 := C5.out.lt
  have hs5 := b5'.out.size
  clear hd6 b6
  go_wp2_with fail
  refine W7.out.mono ?_; rintro e w7 ⟨Bs, rfl, hd7, t7⟩
  have hd7 : Det w7 w5.heap.size hn Bs [newN 1 3 0] 1 := hd7
  have hBs : ∀ q ∈ Bs, w5.heap.size ≤ q := fun q hq => (hd7.blocks q hq).1
  have T7 := Lib.hid (show Tb w7 w5.heap.size hn hm' ht' Bs (newN 1 3 0) r1 r2 0 0 from
    ⟨hd7, by rw [Nat.zero_mul]; exact C3'.out.keep t7.keep (by have := HN.out; simp; omega), by rw [Nat.zero_mul]; exact C5'.out.keep t7.keep (by have := HN.out; simp; omega),
      (fun h => by have := hBs _ h; omega), (fun h => by have := hBs _ h; omega), (by have := HM2.out; omega)⟩)
  have B7 := Lib.hid (turned_below B6.out t7 B6.out.size (fun q hq => by have := HN.out; have := B5.out.size; simp at hq; omega))
  have hbs2 : w2.heap.size ≤ w5.heap.size := B5.out.size
  have HMG := Lib.hid (show w2.heap.size ≤ hm' ∧ w2.heap.size ≤ ht' by have := HM1.out; have := HM2.out; omega)
  clear hd7 t7 W7 C3 C5 C3' C5' B3 B5 b5' B6 HN l3 l5 hs5 hs3 q1' s0 s1 e1 e2 b0 b1 q0 q1 HM1 HM2
  go_wp2_with fail
  go_loopw [9, 10, 11, 12, 13, 14, 15, 16] (fun v9 v10 v11 v12 v13 v14 v15 v16 wr => ∃ (i wrong world heard : Nat) (b : Bool) (nd : Nd), v9 = .int .i64 (wrong : Int) ∧ v10 = .bool b ∧ v11 = .int .i64 (world : Int) ∧ v12 = .int .i64 (heard : Int) ∧ v13 = .int .i64 (i : Int) ∧ i ≤ n ∧ i ≤ 300 ∧ world ≤ 1211 * i ∧ heard ≤ world + 399 ∧ world ≤ heard + (if b then 1211 else 0) ∧
    nd.id = 3 ∧ nd.last = heard * r1 / 1000 ∧ Lrn nd wrong ∧ Tb wr w5.heap.size hn hm' ht' Bs nd r1 r2 heard world ∧ Below w2.heap.size w2 wr) (fun _ _ _ _ v13 _ _ _ _ => n - (intOf v13).toNat)
  case atStart => exact ⟨0, 0, 0, 0, false, newN 1 3 0, rfl, rfl, rfl, rfl, rfl, by omega, by omega, by omega, by omega, by omega, rfl, by simp, ⟨by omega, .inl (by decide)⟩, T7.out, B7.out⟩
  case round =>
    clear T7 B7
    obtain ⟨i, wrong, world, heard, b, nd, rfl, rfl, rfl, rfl, rfl, hi, hi3, hwo, hhe, hwh, hid, hla, hlr, htb, hbl⟩ := hrel
    have q2' := (hbl.cell (p := ⟨bx, 2, none⟩) hsz).trans q2
    have q3' := (hbl.cell (p := ⟨bx, 3, none⟩) hsz).trans q3
    have T0 := Lib.hid htb; have B0 := Lib.hid hbl; have LR := Lib.hid hlr; have LA := Lib.hid hla; have ID := Lib.hid hid
    have hwr0 : w2.heap.size ≤ wr.heap.size := hbl.size
    clear htb hlr hla hid
    by_cases hlt : i < n ∧ i < 300
    · obtain ⟨hlt, hlt3⟩ := hlt
      have hii : (0 : Int) ≤ (i : Int) := by omega
      have hii2 : (i : Int) < (n : Int) := by omega
      have hii3 : (i : Int) < 300 := by omega
      have hwob : world * r2 ≤ 1000000000 := Nat.le_trans (mul_bd (k := 363300) (by omega) hr2b.2) (by omega)
      clear hbl
      go_wp2_with fail
      refine (nowC_any (by omega) wr T0.out.ct).mono ?_; rintro e w8 ⟨rfl, rfl⟩
      obtain ⟨t0, ht0⟩ : ∃ t0, world * r2 / 1000 = t0 := ⟨_, rfl⟩
      rw [ht0]
      have HT0 := Lib.hid ht0
      have ht0b : (t0 : Int) ≤ 1000000 := by omega
      obtain ⟨due, hdue⟩ : ∃ due, t0 + 1000 = due := ⟨_, rfl⟩
      have hdi : (t0 : Int) + 1000 = (due : Int) := by omega
      have hdb : (due : Int) ≤ 1001000 := by omega
      have hwoi : (world : Int) ≤ 363300 := by omega
      clear ht0
      go_wp2_with fail
      go_loopw [11, 15] (fun v11 v15 wq => ∃ d : Nat, v11 = .int .i64 ((world + d : Nat) : Int) ∧ d ≤ 1211 ∧ Tb wq w5.heap.size hn hm' ht' Bs nd r1 r2 heard (world + d) ∧ Below w2.heap.size w2 wq) (fun v11 _ _ => due * 1000 - (intOf v11).toNat * r2)
      case atStart => exact ⟨0, by go_num, by omega, T0.out, B0.out⟩
      case round =>
        obtain ⟨d, rfl, hd, htb, hbl⟩ := hrel
        have T1 := Lib.hid htb; have B1 := Lib.hid hbl
        have hdr : (world + d) * r2 ≤ 1000000000 := Nat.le_trans (mul_bd (k := 364511) (by omega) hr2b.2) (by omega)
        clear htb
        obtain ⟨q, hq⟩ : ∃ q, (world + d) * r2 / 1000 = q := ⟨_, rfl⟩
        have HQ := Lib.hid hq
        have hqb : (q : Int) ≤ 1000000 := by omega
        have N1 := nowC_any (th := (world + d) * r2) (by omega) wr T1.out.ct
        rw [hq] at N1
        have N1 := Lib.hid N1
        obtain ⟨wd, hwd⟩ : ∃ wd, world + d = wd := ⟨_, rfl⟩
        have HWD := Lib.hid hwd
        have hwdi : (wd : Int) ≤ 364511 := by omega
        rw [hwd] at T1 hdr ⊢
        have HDR := Lib.hid hdr
        clear hq hwd hdr hbl
        by_cases hlow : q < due
        · obtain ⟨R, hR⟩ : ∃ R, due = q + R := ⟨due - q, by omega⟩
          have hRi : (due : Int) - (q : Int) = (R : Int) := by omega
          have hlowi : (q : Int) < (due : Int) := by omega
          have hRb : (R : Int) ≤ 1001000 := by omega
          obtain ⟨st, hst⟩ : ∃ st, min 100 (max 1 R) = st := ⟨_, rfl⟩
          have hstb : 1 ≤ st ∧ st ≤ 100 := by omega
          have hmm : min 100 (max 1 (R : Int)) = (st : Int) := by omega
          have hR1 : 1 ≤ R := by omega
          have hg := due_gap (w0 := world) (d := d) hr2b.1 (by rw [HQ.out, HT0.out]; omega)
          have HG := Lib.hid hg
          have P1 := Lib.hid (passC_any (rate := r2) (th := wd * r2) st (by omega) hr2b (by have := HDR.out; omega) wr T1.out.ct)
          clear hg hst hR
          go_wp2_with fail
          refine N1.out.mono ?_; rintro e w8 ⟨rfl, rfl⟩
          go_wp2_with fail
          refine N1.out.mono ?_; rintro e w8 ⟨rfl, rfl⟩
          go_wp2_with fail
          refine P1.out.mono ?_; rintro e w9 ⟨rfl, c9, k9⟩
          have hst2 : (st : Int) ≤ 100 := by omega
          rw [← Nat.add_mul] at c9
          have T9 := Lib.hid (T1.out.passT c9 k9)
          have B9 := Lib.hid (B1.out.trans (k9.below (B := w2.heap.size) B1.out.size (by have := HMG.out.2; simpa using this)))
          clear c9 k9 P1 N1
          go_wp2_with fail
          go_roundw
          case rel =>
            have he := HWD.out
            refine ⟨d + st, by go_num, by have := HG.out.1; omega, ?_, B9.out⟩
            rw [show world + (d + st) = wd + st by omega]
            exact T9.out
          case measure =>
            have he := HWD.out
            have := step_lt (w0 := world) (d := d) (s := st) (due := due) hr2b.1 hstb.1 (by have := HG.out.2; rw [HT0.out, hdue] at this; exact this)
            rw [show world + (d + st) = wd + st by omega, he] at this
            simp only [intOf, Int.toNat_natCast]
            rw [show ((wd : Int) + (st : Int)).toNat = wd + st by omega]
            exact this
        · have hlowi : ¬ (q : Int) < (due : Int) := by omega
          have hwd2 : wd ≤ world + 1211 := by have := HWD.out; omega
          have hwd3 : world ≤ wd := by have := HWD.out; omega
          have q2i := (B1.out.cell (p := ⟨bx, 2, none⟩) hsz).trans q2
          have q3i := (B1.out.cell (p := ⟨bx, 3, none⟩) hsz).trans q3
          have BR := Lib.hid ((HR2.out.below B1.out))
          have IR := Lib.hid ((HR.out.below B1.out))
          clear HWD HQ q2' q3'
          go_wp2_with fail
          refine N1.out.mono ?_; rintro e w8 ⟨rfl, rfl⟩
          go_upto_region 19 with (fail)
          go_cut [10] from 65 to 111 (fun s wx => ∃ b2 : Bool, s = .bool b2 ∧ (b2 = true → b = false) ∧ w8 = wx)
          case first =>
            as_aux_lemma =>
              by_cases hil : i < n2
              · obtain ⟨z, hz⟩ : ∃ z, l2[i]? = some z := ⟨_, List.getElem?_eq_getElem (by rw [HL2.out]; exact hil)⟩
                obtain ⟨g2, o2, rfl, hg2, hc2⟩ := BR.out i z hz
                have hil2 : (i : Int) < (n2 : Int) := by omega
                cases z <;> cases b
                all_goals
                  go_wp2_with fail
                  go_meet
                  case rel => exact ⟨_, rfl, by simp, rfl⟩
              · have hil2 : ¬ (i : Int) < (n2 : Int) := by omega
                go_wp2_with fail
                go_meet
                case rel => exact ⟨_, rfl, (fun h => by cases h), rfl⟩
          case rest =>
            obtain ⟨b2, rfl, hb2, rfl⟩ := hcut
            cases b2
            · obtain ⟨z, hz⟩ : ∃ z, l[i]? = some z := ⟨_, List.getElem?_eq_getElem (by rw [HL.out]; exact hlt)⟩
              obtain ⟨gz, oz, rfl, hgz, hcz⟩ := IR.out.2 i z hz
              have hzr := IR.out.1 z (List.mem_of_getElem? hz)
              have S4 := Lib.hid (fun w => share_any z hzr 400 (by omega) w)
              have hlt4 := shr_lt z (n := 400) (by omega)
              have i400 : ((400 : Nat) : Int) = 400 := rfl
              rw [i400] at S4
              clear i400 hz hzr
              generalize shr z 400 = late at *
              obtain ⟨wl, hwl⟩ : ∃ wl, wd + late = wl := ⟨_, rfl⟩
              obtain ⟨at', hat⟩ : ∃ a, max heard wl = a := ⟨_, rfl⟩
              obtain ⟨dl, hdl⟩ : ∃ dl, at' - heard = dl := ⟨_, rfl⟩
              have e1 : (wd : Int) + (late : Int) = (wl : Int) := by omega
              have e2 : max (heard : Int) (wl : Int) = (at' : Int) := by omega
              have e3 : (at' : Int) - (heard : Int) = (dl : Int) := by omega
              have hb1 : heard ≤ at' ∧ at' ≤ heard + 2822 ∧ wd ≤ at' ∧ at' ≤ wd + 399 := by
                have : (if b then 1211 else 0) ≤ 1211 := by cases b <;> simp
                omega
              have hlatei : (late : Int) < 400 := by omega
              have hati : (at' : Int) ≤ 400000 := by omega
              have hheardi : (heard : Int) ≤ 400000 := by omega
              have hdli : (dl : Int) ≤ 2822 := by omega
              have hwli : (wl : Int) ≤ 400000 := by omega
              have hhb : heard * r1 ≤ 1000000000 := Nat.le_trans (mul_bd (k := 363699) (by omega) hr1b.2) (by omega)
              have hab : at' * r1 ≤ 1000000000 := Nat.le_trans (mul_bd (k := 364910) (by omega) hr1b.2) (by omega)
              have P2 := Lib.hid (passC_any (rate := r1) (th := heard * r1) dl (by omega) hr1b (by omega) w8 T1.out.cm)
              have hadd : heard * r1 + dl * r1 = at' * r1 := by rw [← Nat.add_mul, show heard + dl = at' by omega]
              have HG := Lib.hid (tick_gap hb1.1 hb1.2.1 hr1b.2)
              obtain ⟨tn, htn⟩ : ∃ tn, at' * r1 / 1000 = tn := ⟨_, rfl⟩
              have HTN := Lib.hid htn
              have htb : (tn : Int) ≤ 1000000 := by omega
              have hsil : nd.sil tn ≤ 4096 := by have h1 := LA.out; have h2 := HG.out; unfold Nd.sil; omega
              have hle : nd.last ≤ tn := by have h1 := LA.out; have h2 := HG.out; omega
              have hlook : look [nd] 3 = some nd := by simp [look, ID.out]
              have BT := Lib.hid (fun w (h : Det w w5.heap.size hn Bs [nd] 1) => beat_yes (B := w5.heap.size) 3 (by decide) (now := tn) (by omega) w h (n := nd) hlook)
              rw [putN_one (show nd.id = (nd.heard tn).id from rfl)] at BT
              have HNX : ∀ b, nd.susp tn = b → Lrn (nd.heard tn) (if b then wrong + 1 else wrong) := fun b hb => by
                cases b
                · exact LR.out.no hb
                · exact LR.out.yes hb hsil
              have HNX := Lib.hid HNX
              have HL2' := Lib.hid (heard_last hle)
              have hid2 := Lib.hid (show (nd.heard tn).id = 3 from ID.out)
              have s0 := susp_off (nd.heard tn) (x := 0) (by omega)
              rw [HL2'.out, Nat.add_zero] at s0
              generalize nd.heard tn = n9 at *
              have Q0 := Lib.hid (fun w (h : Det w w5.heap.size hn Bs [n9] 1) => suspects_off (B := w5.heap.size) (now := tn) (by omega) w h s0)
              have hwi : (wrong : Int) ≤ 12 := by have := LR.out.1; omega
              have HHE := Lib.hid (show at' ≤ wd + 399 ∧ wd ≤ at' from ⟨hb1.2.2.2, hb1.2.2.1⟩)
              clear hwl hat hdl hb1 hhb htn hsil hle hlook s0 hlt4 IR BR HG hwh hhe
              go_wp2_with fail
              refine (S4.out _).mono ?_; rintro e w10 ⟨rfl, rfl⟩
              go_wp2_with fail
              refine P2.out.mono ?_; rintro e w11 ⟨rfl, c11, k11⟩
              rw [hadd] at c11
              have T11 := Lib.hid (T1.out.passM c11 k11)
              have B11 := Lib.hid (B1.out.trans (k11.below (B := w2.heap.size) B1.out.size (by have := HMG.out.1; simpa using this)))
              have NW := fun (w : World) (h : Ck w hm' r1 (at' * r1)) => nowC_any (th := at' * r1) (by omega) w h
              rw [HTN.out] at NW
              have NW := Lib.hid NW
              clear c11 k11 P2 hadd hab
              go_wp2_with fail
              refine (NW.out w11 T11.out.cm).mono ?_; rintro e w12 ⟨rfl, rfl⟩
              go_wp2_with fail
              cases hsb : nd.susp tn
              all_goals
                first
                  | have S1 := suspects_off (now := tn) (by omega) w12 T11.out.det hsb
                  | have S1 := suspects_on (now := tn) (by omega) w12 T11.out.det hsb
                have HX := HNX.out _ hsb
                simp only [Bool.false_eq_true, if_false, if_true] at HX
                have HX := Lib.hid HX
                clear hsb HNX
                refine S1.mono ?_; rintro e w13 ⟨a13, c13, rfl, b13⟩
                have T13 := Lib.hid (T11.out.below b13)
                have B13 := Lib.hid (below_next B11.out b13)
                clear b13 S1
                go_wp2_with fail
                refine (NW.out w13 T13.out.cm).mono ?_; rintro e w14 ⟨rfl, rfl⟩
                go_wp2_with fail
                refine (BT.out w14 T13.out.det).mono ?_; rintro e w15 ⟨rfl, h15, t15⟩
                have T15 := Lib.hid (T13.out.turned h15 t15)
                have B15 := Lib.hid (turned_below B13.out t15 B13.out.size (fun q hq => Nat.le_trans hbs2 (T13.out.det.blocks q hq).1))
                clear h15 t15 BT
                go_wp2_with fail
                refine (NW.out w15 T15.out.cm).mono ?_; rintro e w16 ⟨rfl, rfl⟩
                go_wp2_with fail
                refine (Q0.out w16 T15.out.det).mono ?_; rintro e w17 ⟨a17, c17, rfl, b17⟩
                have T17 := Lib.hid (T15.out.below b17)
                have B17 := Lib.hid (below_next B15.out b17)
                clear b17 Q0
                go_wp2_with fail
                go_roundw
                case rel =>
                  have hh := HHE.out
                  exact ⟨i + 1, _, wd, at', false, n9, by go_num, rfl, rfl, rfl, by go_num, by omega, by omega, by omega, by omega, by simp; omega, hid2.out, by rw [HTN.out]; exact HL2'.out, HX.out, T17.out, B17.out⟩
                case measure => simp [intOf]; omega
            · have hb0 : b = false := hb2 rfl
              subst hb0
              simp only [Bool.false_eq_true, if_false, Nat.add_zero] at hwh
              go_wp2_with fail
              go_roundw
              case rel =>
                exact ⟨i + 1, wrong, wd, heard, true, nd, rfl, rfl, rfl, rfl, by go_num, by omega, by omega, by omega, by omega, by simp; omega, ID.out, LA.out, LR.out, T1.out, B1.out⟩
              case measure => simp [intOf]; omega
    · have hwi : (wrong : Int) ≤ 12 := by have := LR.out.1; omega
      have hw13 : decide ((wrong : Int) ≤ 13) = true := by simp; omega
      have hcond : Hid ((i < n → i = 300)) := Lib.hid (fun h => by omega)
      have hhb : heard * r1 ≤ 1000000000 := Nat.le_trans (mul_bd (k := 363699) (by omega) hr1b.2) (by omega)
      have h5b : (heard + 5000) * r1 ≤ 1000000000 := Nat.le_trans (mul_bd (k := 368699) (by omega) hr1b.2) (by omega)
      have P5 := passC_any (rate := r1) (th := heard * r1) 5000 (by omega) hr1b (by omega) wr T0.out.cm
      rw [← Nat.add_mul] at P5
      have P5 := Lib.hid P5
      have i5 : ((5000 : Nat) : Int) = 5000 := rfl
      rw [i5] at P5
      have EG := Lib.hid (end_gap (h := heard) hr1b.1)
      have NW := fun (w : World) (h : Ck w hm' r1 ((heard + 5000) * r1)) => nowC_any (th := (heard + 5000) * r1) (by omega) w h
      obtain ⟨tn, htn⟩ : ∃ tn, (heard + 5000) * r1 / 1000 = tn := ⟨_, rfl⟩
      rw [htn] at NW
      have hsus : nd.susp tn = true := susp_far (by have h1 := LA.out; have h2 := EG.out; omega)
      have htnb : tn ≤ 1000000 := by omega
      have hbad : bads [nd] tn = [3] := by unfold bads; simp [hsus, ID.out]
      have SU := fun (w : World) (h : Det w w5.heap.size hn Bs [nd] 1) => suspects_yes (B := w5.heap.size) (now := tn) (by omega) w h
      rw [hbad] at SU
      have NW := Lib.hid NW; have SU := Lib.hid SU
      clear hbad hsus htn hhb h5b EG i5 hbl
      rcases Nat.lt_or_ge i n with hkn | hkn
      · have hk30 : i = 300 := hcond.out hkn
        subst hk30
        have hki2 : (300 : Int) < (n : Int) := by omega
        rw [show ((300 : Nat) : Int) = 300 from rfl]
        clear hi hi3 hlt hwo hhe hwh hkn
        go_wp2_with fail
        refine P5.out.mono ?_; rintro e w8 ⟨rfl, c8, k8⟩
        have T8 := Lib.hid (T0.out.passM c8 k8)
        have B8 := Lib.hid (B0.out.trans (k8.below (B := w2.heap.size) B0.out.size (by have := HMG.out.1; simpa using this)))
        clear c8 k8 P5
        go_wp2_with fail
        refine (NW.out w8 T8.out.cm).mono ?_; rintro e w9 ⟨rfl, rfl⟩
        go_wp2_with fail
        refine (SU.out w9 T8.out.det).mono ?_; rintro e w10 ⟨v10, rfl, o10, b10⟩
        obtain ⟨a10, c10, rfl, _, _⟩ := owns_shape o10
        obtain ⟨g, v, rfl, hg1, hg2, hv1, hv2⟩ := owns_at o10 0 (by simp)
        cases hv1
        have B10 := Lib.hid (below_next B8.out b10)
        clear o10 b10 hg1 hg2
        go_wp2_with fail
        go_ret
        exact ⟨rfl, BB.out.trans (B10.out.mono (by have := BB.out.size; omega))⟩
      · obtain rfl : i = n := by omega
        clear hi hi3 hlt hwo hhe hwh hkn
        go_wp2_with fail
        refine P5.out.mono ?_; rintro e w8 ⟨rfl, c8, k8⟩
        have T8 := Lib.hid (T0.out.passM c8 k8)
        have B8 := Lib.hid (B0.out.trans (k8.below (B := w2.heap.size) B0.out.size (by have := HMG.out.1; simpa using this)))
        clear c8 k8 P5
        go_wp2_with fail
        refine (NW.out w8 T8.out.cm).mono ?_; rintro e w9 ⟨rfl, rfl⟩
        go_wp2_with fail
        refine (SU.out w9 T8.out.det).mono ?_; rintro e w10 ⟨v10, rfl, o10, b10⟩
        obtain ⟨a10, c10, rfl, _, _⟩ := owns_shape o10
        obtain ⟨g, v, rfl, hg1, hg2, hv1, hv2⟩ := owns_at o10 0 (by simp)
        cases hv1
        have B10 := Lib.hid (below_next B8.out b10)
        clear o10 b10 hg1 hg2
        go_wp2_with fail
        go_ret
        exact ⟨rfl, BB.out.trans (B10.out.mono (by have := BB.out.size; omega))⟩
end Go.Proofs.Ytlfnkplgjlpaaaa
