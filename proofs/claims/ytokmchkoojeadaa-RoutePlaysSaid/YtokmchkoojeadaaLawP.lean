/- RoutePlays. -/
import Derived.Test.YtokmchkoojeadaaArp
import Derived.Test.YtokmchkoojeadaaSp1
import Derived.Test.YtokmchkoojeadaaSp2
import Derived.Test.YtokmchkoojeadaaSp3
namespace Go.Proofs.Ytokmchkoojeadaa
open Go.RowKit Go.Sort
set_option linter.unusedVariables false
set_option linter.unusedSimpArgs false
set_option maxRecDepth 100000
theorem step_all {w : World} {B b d : Nat} {s p c : Pe} {F : List Pe} {oc : List Value} {kind i : Int} {lo : Option Addr} {ln lc : Nat} {L : List Pe} {ph pl mk mf mt mid mph mpl mhops : Int} (ho : OpIs w B oc kind i lo ln lc L ph pl mk mf mt mid mph mpl mhops) (h2 : Two w B b d s p c F) :
    Calls Try.prog 10 #[.pointer (some ⟨b, 0, none⟩), .pointer (some ⟨d, 0, none⟩), .agg oc.toArray] w (Stepped B b d s p c w) := by
  by_cases n1 : kind = 1
  · subst n1; exact step_learn ho h2
  by_cases n2 : kind = 2
  · subst n2; exact step_step ho h2
  by_cases n3 : kind = 3
  · subst n3; exact step_handle ho h2
  by_cases n4 : kind = 4
  · subst n4; exact step_walk ho h2
  exact step_other ho n1 n2 n3 n4 h2
theorem OpIs.below {w w' : World} {B : Nat} {oc : List Value} {kind i : Int} {lo : Option Addr} {ln lc : Nat} {L : List Pe} {ph pl mk mf mt mid mph mpl mhops : Int} (h : OpIs w B oc kind i lo ln lc L ph pl mk mf mt mid mph mpl mhops) (k : Below w.heap.size w w') : OpIs w' B oc kind i lo ln lc L ph pl mk mf mt mid mph mpl mhops :=
  ⟨h.ol, h.ok, h.oi, h.osl, h.oph, h.opl, h.om, h.oid, h.ord.below k, h.oln, h.ole, h.ocp, h.olow⟩
/-- both New's: both refuse alike, or both make a table -/
theorem new_both (s p c : Pe) : (∃ er : Int, er ≠ 0 ∧ (∀ w, Calls Try.prog 8 #[s.v, p.v, c.v] w fun e w' => e = .returned (.tuple #[.pointer none, .int .i64 er]) ∧ Below w.heap.size w w') ∧ (∀ w, Calls Try.prog 9 #[s.v, p.v, c.v] w fun e w' => e = .returned (.tuple #[.pointer none, .int .i64 er]) ∧ Below w.heap.size w w')) ∨
    (isN s.n = true ∧ isN p.n = true ∧ isN c.n = true ∧ (p.n == s.n) = (c.n == s.n)) := by
  cases h0 : isN s.n with
  | false => exact .inl ⟨1, by decide, fun w => new_a0 s p c w h0, fun w => dnew_bad s p c w (by rw [h0]; rfl)⟩
  | true =>
    cases h1 : isN p.n with
    | false => exact .inl ⟨1, by decide, fun w => new_a1 s p c w h0 h1, fun w => dnew_bad s p c w (by rw [h0, h1]; rfl)⟩
    | true =>
      cases h2 : isN c.n with
      | false => exact .inl ⟨1, by decide, fun w => new_a2 s p c w h0 h1 h2, fun w => dnew_bad s p c w (by rw [h0, h1, h2]; rfl)⟩
      | true =>
        cases hp : (p.n == s.n) with
        | true =>
          cases hc : (c.n == s.n) with
          | true => exact .inr ⟨rfl, rfl, rfl, rfl⟩
          | false => exact .inl ⟨133, by decide, fun w => new_f1 s p c w h0 h1 h2 hp hc, fun w => dnew_f1 s p c w h0 h1 h2 hp hc⟩
        | false =>
          cases hc : (c.n == s.n) with
          | false => exact .inr ⟨rfl, rfl, rfl, rfl⟩
          | true => exact .inl ⟨133, by decide, fun w => new_f2 s p c w h0 h1 h2 hp hc, fun w => dnew_f2 s p c w h0 h1 h2 hp hc⟩
set_option maxHeartbeats 25600000 in
theorem routePlays_law (s_n : Int) (ws_n : (Lit.int .i64 s_n).wf = true) (s_h : Int) (ws_h : (Lit.int .u64 s_h).wf = true) (s_l : Int) (ws_l : (Lit.int .u64 s_l).wf = true) (p_n : Int) (wp_n : (Lit.int .i64 p_n).wf = true) (p_h : Int) (wp_h : (Lit.int .u64 p_h).wf = true) (p_l : Int) (wp_l : (Lit.int .u64 p_l).wf = true) (c_n : Int) (wc_n : (Lit.int .i64 c_n).wf = true) (c_h : Int) (wc_h : (Lit.int .u64 c_h).wf = true) (c_l : Int) (wc_l : (Lit.int .u64 c_l).wf = true) (xo : Option Addr) (xn xc : Nat) (hxc : xn ≤ xc) (hxm : xn ≤ 140737488355328) (w : World) (hr : routePlays.OpsRd w xo xn) : Calls Try.prog 3 #[.agg #[.int .i64 s_n, .int .u64 s_h, .int .u64 s_l, .int .i64 p_n, .int .u64 p_h, .int .u64 p_l, .int .i64 c_n, .int .u64 c_h, .int .u64 c_l], .slice xo xn xc] w fun e w' => e = .returned (.bool true) ∧ Below w.heap.size w w' := by
  have HR := Lib.hid hr
  have AW := Lib.hid awake_any
  obtain ⟨s, hs⟩ : ∃ s : Pe, s = ⟨s_n, s_h, s_l⟩ := ⟨_, rfl⟩
  obtain ⟨p, hp⟩ : ∃ s : Pe, s = ⟨p_n, p_h, p_l⟩ := ⟨_, rfl⟩
  obtain ⟨c, hc⟩ : ∃ s : Pe, s = ⟨c_n, c_h, c_l⟩ := ⟨_, rfl⟩
  have NB := new_both s p c
  have HSV := Lib.hid (show s.v = .agg #[.int .i64 s_n, .int .u64 s_h, .int .u64 s_l] from by rw [hs]); have HPV := Lib.hid (show p.v = .agg #[.int .i64 p_n, .int .u64 p_h, .int .u64 p_l] from by rw [hp]); have HCV := Lib.hid (show c.v = .agg #[.int .i64 c_n, .int .u64 c_h, .int .u64 c_l] from by rw [hc])
  have B0 := Lib.hid (below_alloc (Below.refl w.heap.size w) (.cells #[.int .i64 s_n, .int .u64 s_h, .int .u64 s_l, .int .i64 p_n, .int .u64 p_h, .int .u64 p_l, .int .i64 c_n, .int .u64 c_h, .int .u64 c_l] 28))
  have R0 := Lib.hid (heap_alloc_new w (.cells #[.int .i64 s_n, .int .u64 s_h, .int .u64 s_l, .int .i64 p_n, .int .u64 p_h, .int .u64 p_l, .int .i64 c_n, .int .u64 c_h, .int .u64 c_l] 28))
  clear hr hs hp hc hxc ws_n ws_h ws_l wp_n wp_h wp_l wc_n wc_h wc_l
  have hxi : (xn : Int) ≤ 140737488355328 := by omega
  rcases NB with ⟨er, her, NA, ND⟩ | ⟨h0, h1, h2, hpc⟩
  · have herb : (er != 0) = true := bne_iff_ne.2 her
    have herb2 : (er == 0) = false := beq_eq_false_iff_ne.2 her
    rw [HSV.out, HPV.out, HCV.out] at NA ND
    have NA := Lib.hid NA; have ND := Lib.hid ND
    go_enter Try.func3, Try.ntmps3
    go_upto_region 1 with (fail)
    generalize w.alloc (.cells #[.int .i64 s_n, .int .u64 s_h, .int .u64 s_l, .int .i64 p_n, .int .u64 p_h, .int .u64 p_l, .int .i64 c_n, .int .u64 c_h, .int .u64 c_l] 28) = w1 at *
    obtain ⟨x0, hx0⟩ : ∃ x, x = w.heap.size := ⟨_, rfl⟩
    rw [← hx0] at R0 ⊢
    clear hx0
    go_wp2_with fail
    refine (AW.out w1).mono ?_; rintro e w2 ⟨rfl, b2⟩
    have R2 := Lib.hid (row_keep R0.out (Keep.of_below b2 []) (by simp))
    have B2 := Lib.hid (below_next B0.out b2)
    clear b2
    have e0 := cell_of_row w2 x0 0 _ _ (0, 0) R2.out; have e1 := cell_of_row w2 x0 1 _ _ (0, 0) R2.out; have e2 := cell_of_row w2 x0 2 _ _ (0, 0) R2.out; have e3 := cell_of_row w2 x0 3 _ _ (0, 0) R2.out; have e4 := cell_of_row w2 x0 4 _ _ (0, 0) R2.out; have e5 := cell_of_row w2 x0 5 _ _ (0, 0) R2.out; have e6 := cell_of_row w2 x0 6 _ _ (0, 0) R2.out; have e7 := cell_of_row w2 x0 7 _ _ (0, 0) R2.out; have e8 := cell_of_row w2 x0 8 _ _ (0, 0) R2.out
    simp only [List.getElem?_toArray, List.getElem?_cons_succ, List.getElem?_cons_zero] at e0 e1 e2 e3 e4 e5 e6 e7 e8
    go_wp2_with fail
    refine (NA.out w2).mono ?_; rintro e w3 ⟨rfl, b3⟩
    have R3 := Lib.hid (row_keep R2.out (Keep.of_below b3 []) (by simp))
    have B3 := Lib.hid (below_next B2.out b3)
    clear b3 e0 e1 e2 e3 e4 e5 e6 e7 e8
    have e0 := cell_of_row w3 x0 0 _ _ (0, 0) R3.out; have e1 := cell_of_row w3 x0 1 _ _ (0, 0) R3.out; have e2 := cell_of_row w3 x0 2 _ _ (0, 0) R3.out; have e3 := cell_of_row w3 x0 3 _ _ (0, 0) R3.out; have e4 := cell_of_row w3 x0 4 _ _ (0, 0) R3.out; have e5 := cell_of_row w3 x0 5 _ _ (0, 0) R3.out; have e6 := cell_of_row w3 x0 6 _ _ (0, 0) R3.out; have e7 := cell_of_row w3 x0 7 _ _ (0, 0) R3.out; have e8 := cell_of_row w3 x0 8 _ _ (0, 0) R3.out
    simp only [List.getElem?_toArray, List.getElem?_cons_succ, List.getElem?_cons_zero] at e0 e1 e2 e3 e4 e5 e6 e7 e8
    go_wp2_with fail
    refine (ND.out w3).mono ?_; rintro e w4 ⟨rfl, b4⟩
    have B4 := Lib.hid (below_next B3.out b4)
    clear b4 e0 e1 e2 e3 e4 e5 e6 e7 e8
    go_wp2_with fail
    go_ret
    exact ⟨by simp, B4.out⟩
  · have NA := fun w => new_all s p c w h0 h1 h2 hpc
    have ND := fun w => dnew_yes s p c w h0 h1 h2 hpc
    rw [HSV.out, HPV.out, HCV.out] at NA ND
    have NA := Lib.hid NA; have ND := Lib.hid ND
    go_enter Try.func3, Try.ntmps3
    go_upto_region 1 with (fail)
    generalize w.alloc (.cells #[.int .i64 s_n, .int .u64 s_h, .int .u64 s_l, .int .i64 p_n, .int .u64 p_h, .int .u64 p_l, .int .i64 c_n, .int .u64 c_h, .int .u64 c_l] 28) = w1 at *
    obtain ⟨x0, hx0⟩ : ∃ x, x = w.heap.size := ⟨_, rfl⟩
    rw [← hx0] at R0 ⊢
    clear hx0
    go_wp2_with fail
    refine (AW.out w1).mono ?_; rintro e w2 ⟨rfl, b2⟩
    have R2 := Lib.hid (row_keep R0.out (Keep.of_below b2 []) (by simp))
    have B2 := Lib.hid (below_next B0.out b2)
    clear b2
    have e0 := cell_of_row w2 x0 0 _ _ (0, 0) R2.out; have e1 := cell_of_row w2 x0 1 _ _ (0, 0) R2.out; have e2 := cell_of_row w2 x0 2 _ _ (0, 0) R2.out; have e3 := cell_of_row w2 x0 3 _ _ (0, 0) R2.out; have e4 := cell_of_row w2 x0 4 _ _ (0, 0) R2.out; have e5 := cell_of_row w2 x0 5 _ _ (0, 0) R2.out; have e6 := cell_of_row w2 x0 6 _ _ (0, 0) R2.out; have e7 := cell_of_row w2 x0 7 _ _ (0, 0) R2.out; have e8 := cell_of_row w2 x0 8 _ _ (0, 0) R2.out
    simp only [List.getElem?_toArray, List.getElem?_cons_succ, List.getElem?_cons_zero] at e0 e1 e2 e3 e4 e5 e6 e7 e8
    go_wp2_with fail
    refine (NA.out w2).mono ?_; rintro e w3 ⟨b, ao, cap, rfl, hta, b3, hne⟩
    have R3 := Lib.hid (row_keep R2.out (Keep.of_below b3 []) (by simp))
    have B3 := Lib.hid (below_next B2.out b3)
    have TA := Lib.hid hta; have HNE := Lib.hid hne
    clear b3 hta hne e0 e1 e2 e3 e4 e5 e6 e7 e8
    have e0 := cell_of_row w3 x0 0 _ _ (0, 0) R3.out; have e1 := cell_of_row w3 x0 1 _ _ (0, 0) R3.out; have e2 := cell_of_row w3 x0 2 _ _ (0, 0) R3.out; have e3 := cell_of_row w3 x0 3 _ _ (0, 0) R3.out; have e4 := cell_of_row w3 x0 4 _ _ (0, 0) R3.out; have e5 := cell_of_row w3 x0 5 _ _ (0, 0) R3.out; have e6 := cell_of_row w3 x0 6 _ _ (0, 0) R3.out; have e7 := cell_of_row w3 x0 7 _ _ (0, 0) R3.out; have e8 := cell_of_row w3 x0 8 _ _ (0, 0) R3.out
    simp only [List.getElem?_toArray, List.getElem?_cons_succ, List.getElem?_cons_zero] at e0 e1 e2 e3 e4 e5 e6 e7 e8
    go_wp2_with fail
    refine (ND.out w3).mono ?_; rintro e w4 ⟨d, ad, cad, rfl, hda, b4⟩
    have B4 := Lib.hid (below_next B3.out b4)
    have TW := Lib.hid (show Two w4 w.heap.size b d s p c (fing0 s (nbC s c)) from by
      refine ⟨ao, cap, ad, cad, (TA.out.base_le B2.out.size).below b4, ⟨hda.row, Nat.le_trans B3.out.size hda.base, owns_base hda.own B3.out.size, hda.ne⟩, fun q hq hm => ?_, HNE.out, ?_, fun e => ?_⟩
      · have e1 := (TA.out.blocks q hq).2; have e2 := (hda.blocks q hm).1; omega
      · unfold fing0; split <;> simp
      · cases hcn : (c.n == s.n) with
        | true => rfl
        | false =>
          rw [(nb_two (p := p) hcn).2] at e
          unfold fing0 aln at e
          rw [hcn] at e
          simp at e)
    clear b4 hda e0 e1 e2 e3 e4 e5 e6 e7 e8 NA ND TA HNE R0 R2 R3 AW
    go_wp2_with fail
    go_loopw [10] (fun v10 wr => ∃ (i : Nat) (F : List Pe), v10 = .int .i64 (i : Int) ∧ i ≤ xn ∧ i ≤ 200 ∧ Hid (Two wr w.heap.size b d s p c F) ∧ Hid (Below w.heap.size w wr)) (fun v10 _ => 200 - (intOf v10).toNat)
    case atStart => exact ⟨0, _, rfl, Nat.zero_le _, by omega, TW, B4⟩
    case round =>
      clear TW B4
      obtain ⟨i, F, rfl, hi, hi2, TW, BW⟩ := hrel
      have hi0 : (0 : Int) ≤ (i : Int) := by omega
      by_cases hin : i < xn
      · have g1 : decide ((i : Int) < (xn : Int)) = true := decide_eq_true (by omega)
        have g1b : decide (i < xn) = true := decide_eq_true hin
        have g1c : (i : Int) < (xn : Int) := by omega
        by_cases hi3 : i < 200
        · have g2 : decide ((i : Int) < 200) = true := decide_eq_true (by omega)
          have g2c : (i : Int) < 200 := by omega
          obtain ⟨g, of, oc, kind, ii, lo, ln, lc, L, ph, pl, mk, mf, mt, mid, mph, mpl, mhops, rfl, hgl, hrange, hop⟩ := HR.out i hin
          have HOP := Lib.hid (hop.below BW.out)
          have HRA := Lib.hid (show wr.rangeAt g (of + i * 54) oc from fun j v hv => (BW.out.cell (p := ⟨g, of + i * 54 + j, none⟩) hgl).trans (hrange j v hv))
          have HSZ := Lib.hid (show (Try.prog.info? 68).map (·.size) = some oc.length from by rw [hop.ol]; kernel_rfl)
          clear hgl hrange hop
          have SA := Lib.hid (step_all HOP.out TW.out)
          go_wp2_with (first
            | (refine wpList_load_mid rfl 68 (.tmp 66) rfl g (of + i * 54) rfl oc _ HRA.out Try.underlying68 rfl HSZ.out ?_))
          refine SA.out.mono ?_; rintro e w5 ⟨rfl, F', h2, b5⟩
          have TW5 := Lib.hid h2
          have BW5 := Lib.hid (BW.out.trans b5)
          clear h2 b5 SA HRA HSZ HOP g1 g1b g1c g2 g2c
          obtain ⟨ao5, cap5, ad5, cad5, hta, hda, hap, hne, hlen, hal⟩ := TW5.out
          have FG := Lib.hid (fingers_any w5 hta hne (by omega))
          have HDA := Lib.hid hda
          have HL := Lib.hid hlen
          clear hta hda hap hne hlen hal
          go_wp2_with fail
          refine FG.out.mono ?_; rintro e w6 ⟨lo6, lc6, rfl, o6, b6⟩
          have O6 := Lib.hid o6; have B6 := Lib.hid b6
          have HD6 := Lib.hid (HDA.out.below b6)
          clear o6 b6 FG
          obtain ⟨m, hm⟩ : ∃ m, F'.length = m := ⟨_, rfl⟩
          have HM := Lib.hid hm
          have hm4 : m ≤ 4 := by rw [← hm]; exact HL.out
          have t9 := HD6.out.row.at_ 9
          simp only [rowT, List.getElem?_toArray, List.getElem?_cons_succ, List.getElem?_cons_zero] at t9
          have hdl := HD6.out.row.lt
          have SP := Lib.hid (samepeers_any (pc := lc6) (qc := cad5) w6 (psrd_own O6.out) (psrd_own HD6.out.own) hm (by omega))
          have O6m := Lib.hid (show w6.ownsRow w5.heap.size 26 3 (.slice lo6 m lc6) m (fl Pe.list F') from by have h := O6.out; rw [hm] at h; exact h)
          rw [hm] at t9 ⊢
          clear hm
          go_wp2_with fail
          refine SP.out.mono ?_; rintro e w7 ⟨rfl, b7⟩
          have O7 := Lib.hid (owns_keep O6m.out (Keep.of_below b7 []) (by simp))
          have B7 := Lib.hid (below_next B6.out b7)
          clear b7 SP t9 hdl O6m O6
          go_wp2_with fail
          go_loopw [14] (fun v14 w8 => ∃ j : Nat, v14 = .int .i64 (j : Int) ∧ j ≤ m ∧ Hid (∃ xs, w8.ownsRow w5.heap.size 26 3 (.slice lo6 m lc6) m xs) ∧ Hid (Below w5.heap.size w5 w8)) (fun v14 _ => m - (intOf v14).toNat)
          case atStart => exact ⟨0, rfl, Nat.zero_le _, Lib.hid ⟨_, O7.out⟩, B7⟩
          case round =>
            obtain ⟨j, rfl, hj, HXS, HBB⟩ := hrel
            have hj0 : (0 : Int) ≤ (j : Int) := by omega
            rename World => w8
            by_cases hjm : j < m
            · have hji : (j : Int) < (m : Int) := by omega
              obtain ⟨xs, hxs⟩ := HXS.out
              obtain ⟨gl, hgl, _⟩ := owns_none hxs (by omega)
              subst hgl
              obtain ⟨v, hv, hfr, hgl, hgB⟩ := owns_pc hxs (j * 3) (by omega)
              have hput := Lib.hid (owns_putq hxs (j * 3) (by omega) (.int .i64 (-1)))
              have hbb := Lib.hid (HBB.out.trans ((Keep.setCell w8 ⟨gl, j * 3, none⟩ (.int .i64 (-1))).below HBB.out.size (fun q hq => by simp only [List.mem_singleton] at hq; omega)))
              clear hxs
              go_wp2_with fail
              go_roundw
              case rel => exact ⟨j + 1, by go_num, by omega, Lib.hid ⟨_, hput.out⟩, hbb⟩
              case measure => simp [intOf]; omega
            · have hji : ¬ (j : Int) < (m : Int) := by omega
              obtain rfl : m = j := by omega
              obtain ⟨xs, hxs⟩ := HXS.out
              obtain ⟨i0, hi0', hz0, hz1, hz2⟩ := info_parts peer_info
              have HI0 := Lib.hid hi0'; have HZ0 := Lib.hid hz0; have HZ1 := Lib.hid hz1; have HZ2 := Lib.hid hz2
              have OA := Lib.hid (show (w8.alloc (.cells #[.int .i64 (-1), .int .u64 0, .int .u64 0, .int .i64 (-1), .int .u64 0, .int .u64 0] 26)).ownsRow w5.heap.size 26 3 (.slice lo6 m lc6) m xs from hxs.alloc _)
              have HXB := Lib.hid (owns_blk hxs)
              have hw8 := HBB.out.size
              clear hxs hi0' hz0 hz1 hz2
              go_upto_region 19 with (at_builtin; refine wpList_append_lies _ rfl (.tmp 87) (.tmp 90) 39 rfl w5.heap.size 26 i0 _ 3 24 Try.underlying39 HI0.out HZ0.out HZ1.out HZ2.out rfl (by decide) (.slice lo6 m lc6) m xs rfl OA.out ⟨w8.heap.size, 0, none⟩ 2 2 [.int .i64 (-1), .int .u64 0, .int .u64 0, .int .i64 (-1), .int .u64 0, .int .u64 0] rfl rfl (World.news_of_block (cs := #[.int .i64 (-1), .int .u64 0, .int .u64 0, .int .i64 (-1), .int .u64 0, .int .u64 0]) (t := 26) (fr := (0, 0)) (heap_alloc_new w8 _)) (by simp [Value.oneCell']) (by decide) (by unfold maxLen; omega) (by omega) (by simp; omega) _ rfl ?_; intro gb cb w9 own9 gr9 at9 lt9)
              have ba := below_alloc (Below.refl w8.heap.size w8) (.cells #[.int .i64 (-1), .int .u64 0, .int .u64 0, .int .i64 (-1), .int .u64 0, .int .u64 0] 26)
              have kg : Keep (blk lo6) (w8.alloc (.cells #[.int .i64 (-1), .int .u64 0, .int .u64 0, .int .i64 (-1), .int .u64 0, .int .u64 0] 26)) w9 := keep_grown gr9
              have BZ := Lib.hid ((HBB.out.trans (ba.mono hw8)).trans (kg.below (by simp; omega) (fun q hq => (HXB.out q hq).1)))
              have TWz := Lib.hid (TW5.out.below BZ.out)
              have BWz := Lib.hid (below_next BW5.out BZ.out)
              clear own9 gr9 at9 lt9 kg ba
              go_wp2_with fail
              go_roundw
              case rel => exact ⟨i + 1, F', by go_num, by omega, by omega, TWz, BWz⟩
              case measure => simp [intOf]; omega
        · have g2 : decide ((i : Int) < 200) = false := decide_eq_false (by omega)
          have g2c : ¬ (i : Int) < 200 := by omega
          go_wp2_with fail
          go_ret
          exact ⟨rfl, BW.out⟩
      · have g1 : decide ((i : Int) < (xn : Int)) = false := decide_eq_false (by omega)
        have g1b : decide (i < xn) = false := decide_eq_false hin
        have g1c : ¬ (i : Int) < (xn : Int) := by omega
        go_wp2_with fail
        go_ret
        exact ⟨rfl, BW.out⟩
end Go.Proofs.Ytokmchkoojeadaa
