/- StoreNewest. -/
import Derived.Test.YtbjcmomicjdepaaSe
import Derived.StillTailTactics
namespace Go.Proofs.Ytbjcmomicjdepaa
open Go.RowKit Go.Sort
set_option linter.unusedVariables false
set_option linter.unusedSimpArgs false
set_option maxRecDepth 100000
/-- a lock on the bucket 0 -/
abbrev Lk.at0 (l : Lk) : Lk := ⟨l.tx, l.m0, l.m1, l.m2, ⟨0, l.it.ver, l.it.write, l.it.es, l.it.i0, l.it.i1, l.it.i2, l.it.i3⟩⟩
theorem op_lock {w W : World} {g o : Nat} {oc : List Value} {kind bk rp of inc : Int} {is : Bool} {l : Lk} {s : Sd} {rest : List Value} (h : w.rangeAt g o oc) (ho : OpIs W oc kind bk rp of inc is l s rest) : w.rangeAt g (o + 6) (Lk.list l s) := fun j v hv => by
  rw [Nat.add_assoc]
  refine h (6 + j) v ?_
  rw [ho.eq, Nat.add_comm 6 j]
  simp only [List.getElem?_cons_succ]
  rw [List.getElem?_append_left (List.getElem?_eq_some_iff.1 hv).1]
  exact hv
theorem range_below {w w' : World} {g o : Nat} {cs : List Value} (h : w.rangeAt g o cs) (hg : g < w.heap.size) (k : Below w.heap.size w w') : w'.rangeAt g o cs := fun j v hv => (k.cell (p := ⟨g, o + j, none⟩) hg).trans (h j v hv)
theorem decide_ver (c : Cp) (l : Lk) (is : Bool) (h : lockB l = true) : ∃ c1, decideR c l is = (0, c1) ∧ c1.state = c.state ∧ c1.ver = (newD c l is).ver ∧ c1.es = (newD c l is).es := by
  refine ⟨endD l (delD l (newD c l is)), by unfold decideR; rw [if_neg (by rw [h]; decide)], ?_, ?_, ?_⟩
  all_goals
    unfold endD delD newD
    split <;> split <;> rfl
set_option maxHeartbeats 16000000 in
theorem storeNewest_law (ao : Option Addr) (n cap : Nat) (hc : n ≤ cap) (hm : n ≤ 140737488355328) (W0 : World) (hr : OpsRd W0 ao n) : Calls Try.prog 9 #[.slice ao n cap] W0 (LawOk W0) := by
  have HR := Lib.hid hr
  have hni : (n : Int) ≤ 140737488355328 := by omega
  clear hr hc hm
  have N := Lib.hid (new_any W0)
  have AL := Lib.hid alive_any
  go_enter Try.func9, Try.ntmps9
  go_wp2_with fail
  refine N.out.mono ?_; rintro e w1 ⟨sb, rfl, n1, hsb, b1⟩
  have HSB := Lib.hid hsb
  have N1 := Lib.hid n1; have B1 := Lib.hid b1
  clear hsb b1 n1 N
  go_wp2_with fail
  refine (AL.out _).mono ?_; rintro e w2 ⟨rfl, b2⟩
  have N2 := Lib.hid (N1.out.below b2)
  have B2 := Lib.hid (below_next B1.out b2)
  clear b2 N1 B1
  have O := Lib.hid (opened w2 N2.out)
  go_wp2_with fail
  refine O.out.mono ?_; rintro e w3 ⟨rfl, gm, b, h3, k3⟩
  have H3 := Lib.hid (h3.rebase HSB.out)
  have B3 := Lib.hid (B2.out.trans (k3.below B2.out.size (by have := HSB.out; simpa using this)))
  clear h3 k3 O B2 N2 AL
  go_wp2_with fail
  have HB0 : Hid (∃ c s, StR w3 W0.heap.size sb gm b nm0 c s ∧ c.state = 2 ∧ c.ver = 0 ∧ c.es = []) := Lib.hid ⟨_, _, H3.out, rfl, rfl, rfl⟩
  clear H3
  go_loopw [4, 5, 6] (fun v4 v5 v6 wr => ∃ (k : Nat) (ver : Int) (d : Sd) (es : List En), v6 = .int .i64 (k : Int) ∧ k ≤ n ∧ v4 = .int .u32 ver ∧ v5 = .slice d.ao es.length d.cap ∧ Hid (∃ c s, StR wr W0.heap.size sb gm b nm0 c s ∧ c.state = 2 ∧ c.ver = ver ∧ c.es = es) ∧ Hid (EsR W0 d es) ∧ Hid (Below W0.heap.size W0 wr)) (fun _ _ v6 _ => n - (intOf v6).toNat)
  case atStart => exact ⟨0, 0, ⟨none, 0⟩, [], rfl, Nat.zero_le _, rfl, rfl, HB0, Lib.hid (EsR.nil _), B3⟩
  case round =>
    obtain ⟨k, ver, d, es, rfl, hk, rfl, rfl, HS, HD, BR⟩ := hrel
    clear HB0 B3
    by_cases hkn : k < n
    · have hki : (k : Int) < (n : Int) := by omega
      have hk0 : (0 : Int) ≤ (k : Int) := by omega
      by_cases hk2 : k < 200
      · have hk2i : (k : Int) < 200 := by omega
        obtain ⟨g, o, oc, kind, bk, rp, of, inc, is, l, s, rest, rfl, hg, hrg, hop⟩ := HR.out k hkn
        have hrg2 := range_below hrg hg BR.out
        have RL := Lib.hid (op_lock hrg2 hop)
        have hic := hrg2 5 (.bool is) (by rw [hop.eq]; rfl)
        have HOP := Lib.hid hop
        have HG := Lib.hid hg
        have hes := hop.es
        have hver := hop.ver
        clear hrg hrg2 hop
        go_upto_region 11 with (refine wpList_load_mid rfl 38 (.tmp 36) rfl g (o + k * 58 + 6) rfl (Lk.list l s) _ RL.out Try.underlying38 rfl (lk_size _ _) ?_)
        obtain ⟨c, s0, hst, hcs, hcv, hce⟩ := HS.out
        have b4 := below_alloc (Below.refl wr.heap.size wr) (.cells #[.int .u64 l.tx, .int .i64 l.m0, .int .i64 l.m1, .int .i64 l.m2, .int .i64 0, .int .u32 l.it.ver, .bool l.it.write, .slice s.ao l.it.es.length s.cap, .int .u32 l.it.i0, .int .u32 l.it.i1, .int .u32 l.it.i2, .int .u32 l.it.i3] 38)
        have k4 : LkB (wr.alloc (.cells #[.int .u64 l.tx, .int .i64 l.m0, .int .i64 l.m1, .int .i64 l.m2, .int .i64 0, .int .u32 l.it.ver, .bool l.it.write, .slice s.ao l.it.es.length s.cap, .int .u32 l.it.i0, .int .u32 l.it.i1, .int .u32 l.it.i2, .int .u32 l.it.i3] 38)) wr.heap.size l.at0 s := heap_alloc_new wr _
        have hnm : wr.heap.size ∉ s0.mut b := fun hm => by have := hst.row.mlt _ hm; omega
        have HNM := Lib.hid hnm
        have HS4 := Lib.hid (hst.below b4)
        have K4 := Lib.hid k4
        have B4 := Lib.hid (below_next BR.out b4)
        have HCS := Lib.hid hcs; have HCV := Lib.hid hcv; have HCE := Lib.hid hce
        replace hic := (b4.cell (p := ⟨g, o + k * 58 + 5, none⟩) (Nat.lt_of_lt_of_le hg BR.out.size)).trans hic
        have hgl : g < (wr.alloc (.cells #[.int .u64 l.tx, .int .i64 l.m0, .int .i64 l.m1, .int .i64 l.m2, .int .i64 0, .int .u32 l.it.ver, .bool l.it.write, .slice s.ao l.it.es.length s.cap, .int .u32 l.it.i0, .int .u32 l.it.i1, .int .u32 l.it.i2, .int .u32 l.it.i3] 38)).heap.size := Nat.lt_of_lt_of_le (Nat.lt_of_lt_of_le hg BR.out.size) b4.size
        clear b4 k4 hst hcs hcv hce hnm hg
        generalize wr.alloc (.cells #[.int .u64 l.tx, .int .i64 l.m0, .int .i64 l.m1, .int .i64 l.m2, .int .i64 0, .int .u32 l.it.ver, .bool l.it.write, .slice s.ao l.it.es.length s.cap, .int .u32 l.it.i0, .int .u32 l.it.i1, .int .u32 l.it.i2, .int .u32 l.it.i3] 38) = w4 at *
        generalize wr.heap.size = lb at *
        have HIC := Lib.hid hic
        have HGL := Lib.hid hgl
        have x0 := K4.out.c 0 _ rfl; have x1 := K4.out.c 1 _ rfl; have x2 := K4.out.c 2 _ rfl; have x3 := K4.out.c 3 _ rfl; have x4 := K4.out.c 4 _ rfl; have x5 := K4.out.c 5 _ rfl; have x6 := K4.out.c 6 _ rfl; have x7 := K4.out.c 7 _ rfl; have x8 := K4.out.c 8 _ rfl; have x9 := K4.out.c 9 _ rfl; have x10 := K4.out.c 10 _ rfl; have x11 := K4.out.c 11 _ rfl
        simp only [Lk.at0] at x0 x1 x2 x3 x4 x5 x6 x7 x8 x9 x10 x11
        clear hgl
        go_still_tail 7, (by kernel_rfl)
        change wpList _ _ _ _ _ w4.drew
        have bd := (Below.refl w4.heap.size w4).drew
        have HS5 := Lib.hid (HS4.out.below bd)
        have K5 := Lib.hid (K4.out.below bd)
        have B5 := Lib.hid (below_next B4.out bd)
        have HIC5 := Lib.hid ((bd.cell (p := ⟨g, o + k * 58 + 5, none⟩) HGL.out).trans HIC.out)
        have HGL5 := Lib.hid (Nat.lt_of_lt_of_le HGL.out bd.size)
        clear bd x0 x1 x2 x3 x4 x5 x6 x7 x8 x9 x10 x11 hic HS4 K4 B4 HIC HGL
        generalize w4.drew = w5 at *
        obtain ⟨ed, c1, hdec⟩ : ∃ ed c1, decideR c l.at0 is = (ed, c1) := ⟨_, _, rfl⟩
        have D := Lib.hid (decide0 w5 HS5.out HCS.out (l := l.at0) (t := s) (hes.below B5.out) rfl hver is hdec)
        have HDEC := Lib.hid hdec
        simp only [Lk.ag, Lk.at0] at D
        clear hdec
        go_wp2_with fail
        refine D.out.mono ?_; rintro e w6 ⟨rfl, s6, h6, t6⟩
        have HS6 := Lib.hid h6
        have B6 := Lib.hid (B5.out.trans (HS5.out.blw t6))
        have K6 := Lib.hid (K5.out.keep t6.keep HNM.out)
        have hic6 := (t6.keep.cell (a := ⟨g, o + k * 58 + 5, none⟩) HGL5.out (fun hm => by have h1 := HS5.out.row.bs _ (List.mem_append.2 (.inl hm)); have h2 := HG.out; simp only at h1; omega)).trans HIC5.out
        clear h6 t6 D K5 HIC5 HGL5 B5
        cases hlb : lockB l.at0 with
        | false =>
          have e1 : ed = 155 ∧ c1 = c := by
            have := HDEC.out
            unfold decideR at this
            rw [if_pos hlb] at this
            cases this; exact ⟨rfl, rfl⟩
          obtain ⟨rfl, rfl⟩ := e1
          go_wp2_with fail
          go_roundw
          case rel => exact ⟨k + 1, ver, d, es, by go_num, by omega, rfl, rfl, Lib.hid ⟨c1, s6, HS6.out, HCS.out, HCV.out, HCE.out⟩, HD, B6⟩
          case measure => simp [intOf]; omega
        | true =>
          have hlv : l.it.ver < 2147483647 := by
            have := hlb
            unfold lockB at this
            simp only [Bool.and_eq_true] at this
            exact (right_fit this.2).2.2
          obtain ⟨c2, hd2, q1, q2, q3⟩ := decide_ver c l.at0 is hlb
          have e1 : ed = 0 ∧ c1 = c2 := by
            have := HDEC.out.symm.trans hd2
            cases this; exact ⟨rfl, rfl⟩
          obtain ⟨rfl, rfl⟩ := e1
          have Q1 := Lib.hid (q1.trans HCS.out)
          have y5 := K6.out.c 5 _ rfl
          have y6 := K6.out.c 6 _ rfl
          have y7 := K6.out.c 7 _ rfl
          simp only [Lk.at0] at y5 y6 y7
          have wv : IntKind.u32.wrap (l.it.ver + 1) = l.it.ver + 1 := by rw [IntKind.wrap_u32]; omega
          have hv1 : l.it.ver + 1 ≤ 4294967295 := by omega
          clear hlb hd2 q1 hlv
          cases is with
          | false =>
            have hd2 := HD.out
            have hcv2 : c1.ver = ver := by rw [q2]; exact HCV.out
            have hce2 : c1.es = es := by rw [q3]; exact HCE.out
            have HD2 := Lib.hid hd2; have HCV2 := Lib.hid hcv2; have HCE2 := Lib.hid hce2
            have R := Lib.hid (read_any w6 HS6.out Q1.out)
            rw [hcv2, hce2] at R
            clear hcv2 hce2 q2 q3
            go_upto_region 15 with (fail)
            clear y5 y6 y7 wv hv1 hic6
            go_wp2_with fail
            refine R.out.mono ?_; rintro e w9 ⟨t, rfl, o9, b9⟩
            have HS9 := Lib.hid (HS6.out.below b9)
            have B9 := Lib.hid (below_next B6.out b9)
            have hfit : Fit es := by have := HS6.out.row.fd; rw [HCE2.out] at this; exact this
            have ER := Lib.hid (EsO.rd (s := t) o9 hfit)
            have b10 := below_alloc (Below.refl w9.heap.size w9) (.cells ⟨anL c1.inc ver es.length t⟩ 64)
            have k10 : AnB (w9.alloc (.cells ⟨anL c1.inc ver es.length t⟩ 64)) w9.heap.size c1.inc ver es.length t := heap_alloc_new w9 _
            have S := Lib.hid (fun (w' : World) (kk : Below w9.heap.size w9 w') (k0 : Below W0.heap.size W0 w') => same_ents w' t d es (ER.out.below kk) (HD2.out.below k0))
            have HS10 := Lib.hid (HS9.out.below b10)
            have B10 := Lib.hid (below_next B9.out b10)
            have HB10 := Lib.hid b10
            have K10 := Lib.hid k10
            clear o9 b9 R HS6 B6 hfit b10 k10
            go_upto_region 16 with (fail)
            simp only [anL] at HS10 B10 K10 HB10
            have HL9 := Lib.hid (show w9.heap.size < _ from (Array.getElem?_eq_some_iff.1 K10.out).1)
            have S10 := Lib.hid (S.out _ HB10.out B10.out)
            clear S HB10
            generalize w9.alloc (.cells ⟨[.int .u32 0, .int .u32 c1.inc, .int .u32 ver, .slice t.ao es.length t.cap]⟩ 64) = w10 at *
            generalize w9.heap.size = ab at *
            have y3 := cell_of_row w10 ab 3 _ _ (0, 0) K10.out
            simp only [List.getElem?_toArray, List.getElem?_cons_zero, List.getElem?_cons_succ] at y3
            go_wp2_with fail
            refine S10.out.mono ?_; rintro e w11 ⟨rfl, b11⟩
            have k11 := row_keep K10.out (Keep.of_below b11 []) (by simp)
            have y2 := cell_of_row w11 ab 2 _ _ (0, 0) k11
            simp only [List.getElem?_toArray, List.getElem?_cons_zero, List.getElem?_cons_succ] at y2
            have HS11 := Lib.hid (HS10.out.below b11)
            have B11 := Lib.hid (below_next B10.out b11)
            clear y3 b11 k11 S10
            go_wp2_with fail
            go_roundw
            case rel => exact ⟨k + 1, ver, d, es, by go_num, by omega, rfl, rfl, Lib.hid ⟨c1, s6, HS11.out, Q1.out, HCV2.out, HCE2.out⟩, HD2, B11⟩
            case measure => simp [intOf]; omega
          | true =>
            obtain ⟨wt, hwt⟩ : ∃ wt, l.it.write = wt := ⟨_, rfl⟩
            rw [hwt] at y6
            cases wt with
            | false =>
              have hn : newD c l.at0 true = c := by unfold newD; rw [if_neg (by simp [hwt])]
              rw [hn] at q2 q3
              have hd2 := HD.out
              have hcv2 : c1.ver = ver := by rw [q2]; exact HCV.out
              have hce2 : c1.es = es := by rw [q3]; exact HCE.out
              have HD2 := Lib.hid hd2; have HCV2 := Lib.hid hcv2; have HCE2 := Lib.hid hce2
              have R := Lib.hid (read_any w6 HS6.out Q1.out)
              rw [hcv2, hce2] at R
              clear hcv2 hce2 q2 q3
              go_upto_region 15 with (fail)
              clear y5 y6 y7 wv hv1 hic6
              go_wp2_with fail
              refine R.out.mono ?_; rintro e w9 ⟨t, rfl, o9, b9⟩
              have HS9 := Lib.hid (HS6.out.below b9)
              have B9 := Lib.hid (below_next B6.out b9)
              have hfit : Fit es := by have := HS6.out.row.fd; rw [HCE2.out] at this; exact this
              have ER := Lib.hid (EsO.rd (s := t) o9 hfit)
              have b10 := below_alloc (Below.refl w9.heap.size w9) (.cells ⟨anL c1.inc ver es.length t⟩ 64)
              have k10 : AnB (w9.alloc (.cells ⟨anL c1.inc ver es.length t⟩ 64)) w9.heap.size c1.inc ver es.length t := heap_alloc_new w9 _
              have S := Lib.hid (fun (w' : World) (kk : Below w9.heap.size w9 w') (k0 : Below W0.heap.size W0 w') => same_ents w' t d es (ER.out.below kk) (HD2.out.below k0))
              have HS10 := Lib.hid (HS9.out.below b10)
              have B10 := Lib.hid (below_next B9.out b10)
              have HB10 := Lib.hid b10
              have K10 := Lib.hid k10
              clear o9 b9 R HS6 B6 hfit b10 k10
              go_upto_region 16 with (fail)
              simp only [anL] at HS10 B10 K10 HB10
              have HL9 := Lib.hid (show w9.heap.size < _ from (Array.getElem?_eq_some_iff.1 K10.out).1)
              have S10 := Lib.hid (S.out _ HB10.out B10.out)
              clear S HB10
              generalize w9.alloc (.cells ⟨[.int .u32 0, .int .u32 c1.inc, .int .u32 ver, .slice t.ao es.length t.cap]⟩ 64) = w10 at *
              generalize w9.heap.size = ab at *
              have y3 := cell_of_row w10 ab 3 _ _ (0, 0) K10.out
              simp only [List.getElem?_toArray, List.getElem?_cons_zero, List.getElem?_cons_succ] at y3
              go_wp2_with fail
              refine S10.out.mono ?_; rintro e w11 ⟨rfl, b11⟩
              have k11 := row_keep K10.out (Keep.of_below b11 []) (by simp)
              have y2 := cell_of_row w11 ab 2 _ _ (0, 0) k11
              simp only [List.getElem?_toArray, List.getElem?_cons_zero, List.getElem?_cons_succ] at y2
              have HS11 := Lib.hid (HS10.out.below b11)
              have B11 := Lib.hid (below_next B10.out b11)
              clear y3 b11 k11 S10
              go_wp2_with fail
              go_roundw
              case rel => exact ⟨k + 1, ver, d, es, by go_num, by omega, rfl, rfl, Lib.hid ⟨c1, s6, HS11.out, Q1.out, HCV2.out, HCE2.out⟩, HD2, B11⟩
              case measure => simp [intOf]; omega
            | true =>
              by_cases hnew : ver < l.it.ver + 1
              · have hn : newD c l.at0 true = {c with ver := l.it.ver + 1, es := l.it.es} := by unfold newD; rw [if_pos (by simpa [hwt, HCV.out] using hnew)]
                rw [hn] at q2 q3
                have hd2 := hes
                have hcv2 : c1.ver = l.it.ver + 1 := q2
                have hce2 : c1.es = l.it.es := q3
                have HD2 := Lib.hid hd2; have HCV2 := Lib.hid hcv2; have HCE2 := Lib.hid hce2
                have R := Lib.hid (read_any w6 HS6.out Q1.out)
                rw [hcv2, hce2] at R
                clear hcv2 hce2 q2 q3
                go_upto_region 15 with (fail)
                clear y5 y6 y7 wv hv1 hic6
                go_wp2_with fail
                refine R.out.mono ?_; rintro e w9 ⟨t, rfl, o9, b9⟩
                have HS9 := Lib.hid (HS6.out.below b9)
                have B9 := Lib.hid (below_next B6.out b9)
                have hfit : Fit l.it.es := by have := HS6.out.row.fd; rw [HCE2.out] at this; exact this
                have ER := Lib.hid (EsO.rd (s := t) o9 hfit)
                have b10 := below_alloc (Below.refl w9.heap.size w9) (.cells ⟨anL c1.inc (l.it.ver + 1) l.it.es.length t⟩ 64)
                have k10 : AnB (w9.alloc (.cells ⟨anL c1.inc (l.it.ver + 1) l.it.es.length t⟩ 64)) w9.heap.size c1.inc (l.it.ver + 1) l.it.es.length t := heap_alloc_new w9 _
                have S := Lib.hid (fun (w' : World) (kk : Below w9.heap.size w9 w') (k0 : Below W0.heap.size W0 w') => same_ents w' t s l.it.es (ER.out.below kk) (HD2.out.below k0))
                have HS10 := Lib.hid (HS9.out.below b10)
                have B10 := Lib.hid (below_next B9.out b10)
                have HB10 := Lib.hid b10
                have K10 := Lib.hid k10
                clear o9 b9 R HS6 B6 hfit b10 k10
                go_upto_region 16 with (fail)
                simp only [anL] at HS10 B10 K10 HB10
                have HL9 := Lib.hid (show w9.heap.size < _ from (Array.getElem?_eq_some_iff.1 K10.out).1)
                have S10 := Lib.hid (S.out _ HB10.out B10.out)
                clear S HB10
                generalize w9.alloc (.cells ⟨[.int .u32 0, .int .u32 c1.inc, .int .u32 (l.it.ver + 1), .slice t.ao l.it.es.length t.cap]⟩ 64) = w10 at *
                generalize w9.heap.size = ab at *
                have y3 := cell_of_row w10 ab 3 _ _ (0, 0) K10.out
                simp only [List.getElem?_toArray, List.getElem?_cons_zero, List.getElem?_cons_succ] at y3
                go_wp2_with fail
                refine S10.out.mono ?_; rintro e w11 ⟨rfl, b11⟩
                have k11 := row_keep K10.out (Keep.of_below b11 []) (by simp)
                have y2 := cell_of_row w11 ab 2 _ _ (0, 0) k11
                simp only [List.getElem?_toArray, List.getElem?_cons_zero, List.getElem?_cons_succ] at y2
                have HS11 := Lib.hid (HS10.out.below b11)
                have B11 := Lib.hid (below_next B10.out b11)
                clear y3 b11 k11 S10
                go_wp2_with fail
                go_roundw
                case rel => exact ⟨k + 1, (l.it.ver + 1), s, l.it.es, by go_num, by omega, rfl, rfl, Lib.hid ⟨c1, s6, HS11.out, Q1.out, HCV2.out, HCE2.out⟩, HD2, B11⟩
                case measure => simp [intOf]; omega
              · have hn : newD c l.at0 true = c := by unfold newD; rw [if_neg (by simpa [hwt, HCV.out] using hnew)]
                rw [hn] at q2 q3
                have hd2 := HD.out
                have hcv2 : c1.ver = ver := by rw [q2]; exact HCV.out
                have hce2 : c1.es = es := by rw [q3]; exact HCE.out
                have HD2 := Lib.hid hd2; have HCV2 := Lib.hid hcv2; have HCE2 := Lib.hid hce2
                have R := Lib.hid (read_any w6 HS6.out Q1.out)
                rw [hcv2, hce2] at R
                clear hcv2 hce2 q2 q3
                go_upto_region 15 with (fail)
                clear y5 y6 y7 wv hv1 hic6
                go_wp2_with fail
                refine R.out.mono ?_; rintro e w9 ⟨t, rfl, o9, b9⟩
                have HS9 := Lib.hid (HS6.out.below b9)
                have B9 := Lib.hid (below_next B6.out b9)
                have hfit : Fit es := by have := HS6.out.row.fd; rw [HCE2.out] at this; exact this
                have ER := Lib.hid (EsO.rd (s := t) o9 hfit)
                have b10 := below_alloc (Below.refl w9.heap.size w9) (.cells ⟨anL c1.inc ver es.length t⟩ 64)
                have k10 : AnB (w9.alloc (.cells ⟨anL c1.inc ver es.length t⟩ 64)) w9.heap.size c1.inc ver es.length t := heap_alloc_new w9 _
                have S := Lib.hid (fun (w' : World) (kk : Below w9.heap.size w9 w') (k0 : Below W0.heap.size W0 w') => same_ents w' t d es (ER.out.below kk) (HD2.out.below k0))
                have HS10 := Lib.hid (HS9.out.below b10)
                have B10 := Lib.hid (below_next B9.out b10)
                have HB10 := Lib.hid b10
                have K10 := Lib.hid k10
                clear o9 b9 R HS6 B6 hfit b10 k10
                go_upto_region 16 with (fail)
                simp only [anL] at HS10 B10 K10 HB10
                have HL9 := Lib.hid (show w9.heap.size < _ from (Array.getElem?_eq_some_iff.1 K10.out).1)
                have S10 := Lib.hid (S.out _ HB10.out B10.out)
                clear S HB10
                generalize w9.alloc (.cells ⟨[.int .u32 0, .int .u32 c1.inc, .int .u32 ver, .slice t.ao es.length t.cap]⟩ 64) = w10 at *
                generalize w9.heap.size = ab at *
                have y3 := cell_of_row w10 ab 3 _ _ (0, 0) K10.out
                simp only [List.getElem?_toArray, List.getElem?_cons_zero, List.getElem?_cons_succ] at y3
                go_wp2_with fail
                refine S10.out.mono ?_; rintro e w11 ⟨rfl, b11⟩
                have k11 := row_keep K10.out (Keep.of_below b11 []) (by simp)
                have y2 := cell_of_row w11 ab 2 _ _ (0, 0) k11
                simp only [List.getElem?_toArray, List.getElem?_cons_zero, List.getElem?_cons_succ] at y2
                have HS11 := Lib.hid (HS10.out.below b11)
                have B11 := Lib.hid (below_next B10.out b11)
                clear y3 b11 k11 S10
                go_wp2_with fail
                go_roundw
                case rel => exact ⟨k + 1, ver, d, es, by go_num, by omega, rfl, rfl, Lib.hid ⟨c1, s6, HS11.out, Q1.out, HCV2.out, HCE2.out⟩, HD2, B11⟩
                case measure => simp [intOf]; omega
      · have hk2i : ¬ (k : Int) < 200 := by omega
        go_wp2_with fail
        go_ret
        exact ⟨rfl, BR.out⟩
    · obtain rfl : n = k := by omega
      go_wp2_with fail
      go_ret
      exact ⟨rfl, BR.out⟩
end Go.Proofs.Ytbjcmomicjdepaa
