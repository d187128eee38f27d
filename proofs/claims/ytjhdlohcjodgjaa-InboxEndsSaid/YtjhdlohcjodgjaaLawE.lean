/- InboxEnds: the walk. -/
import Derived.Test.YtjhdlohcjodgjaaEnd4
import Derived.Test.YtjhdlohcjodgjaaInts
import Derived.Deep.CutRange
namespace Go.Proofs.Ytjhdlohcjodgjaa
open Go.RowKit
set_option linter.unusedVariables false

set_option maxRecDepth 100000 in
set_option maxHeartbeats 8000000 in
theorem inboxEnds_law (aO : Option Addr) (nO cO : Nat) (lO : List Int) (hlO : lO.length = nO) (hcO : nO ≤ cO) (hmO : cO ≤ maxLen) (hzO : nO ≤ 17592186043904)
    (aP : Option Addr) (nP cP : Nat) (lP : List Int) (hlP : lP.length = nP) (hcP : nP ≤ cP) (hmP : cP ≤ maxLen) (hzP : nP ≤ 17592186043904)
    (aC : Option Addr) (nC cC : Nat) (lC : List Int) (hlC : lC.length = nC) (hcC : nC ≤ cC) (hmC : cC ≤ maxLen) (hzC : nC ≤ 17592186043904)
    (W : World) (rO : IntsRd W aO lO) (rP : IntsRd W aP lP) (rC : IntsRd W aC lC) :
    Calls Try.prog 6 #[.slice aO nO cO, .slice aP nP cP, .slice aC nC cC] W (LawOk W) := by
  have RO := Lib.hid rO; have RP := Lib.hid rP; have RC := Lib.hid rC
  have LO := Lib.hid hlO; have LP := Lib.hid hlP; have LC := Lib.hid hlC
  clear rO rP rC hlO hlP hlC hcO hcP hcC hmO hmP hmC hzO hzP hzC
  have N1 := Lib.hid (newcalls_yes C4 (by unfold Cfg.ok; simp))
  go_enter Try.func6, Try.ntmps6
  go_wp2_with fail
  refine (awake_any _).mono ?_; rintro e w1 ⟨rfl, b1⟩
  have B1 := Lib.hid b1; clear b1
  go_wp2_with fail
  refine (N1.out w1).mono ?_; rintro e w2 ⟨hn, gm, rfl, h2, b2⟩
  have HE0 := Lib.hid (EndW.start B1.out b2 h2)
  clear h2 b2 B1 N1
  obtain ⟨B, hB⟩ : ∃ B, w1.heap.size = B := ⟨_, rfl⟩
  rw [hB] at HE0
  clear hB
  obtain ⟨B2, hB2⟩ : ∃ B, w2.heap.size = B := ⟨_, rfl⟩
  rw [hB2] at HE0
  clear hB2
  go_wp2_with fail
  go_loopw [10, 11, 12, 13] (fun v10 v11 v12 v13 wr => ∃ (k now : Nat) (T : List Cal) (aL : Option Addr) (cL : Nat) (aR : Option Addr) (cR M : Nat) (L R : List Int), k ≤ nP ∧ k ≤ 400 ∧ v13 = .int .i64 (k : Int) ∧ v10 = .int .i64 (now : Int) ∧ now ≤ 49 * k ∧ v11 = .slice aL M cL ∧ v12 = .slice aR M cR ∧ M ≤ k ∧ EndW W wr B hn gm B2 T aL cL aR cR M M L R ∧ EndsR T L R now) (fun v10 v11 v12 v13 _ => nP - (intOf v13).toNat)
  case atStart => exact ⟨0, 0, [], none, 0, none, 0, 0, [], [], by omega, by omega, rfl, rfl, by omega, rfl, rfl, by omega, HE0.out, EndsR.none⟩
  case round =>
    clear HE0
    obtain ⟨k, now, T, aL, cL, aR, cR, M, L, R, hkn, hk4, rfl, rfl, hnow, rfl, rfl, hMk, he, hr⟩ := hrel
    have HE := Lib.hid he; have HR := Lib.hid hr
    clear he hr
    by_cases hlt : k < nP
    · by_cases h400 : k < 400
      · obtain ⟨z, hz⟩ : ∃ z, lP[k]? = some z := ⟨_, List.getElem?_eq_getElem (by rw [LP.out]; exact hlt)⟩
        obtain ⟨g, o, rfl, hg, hc⟩ := (RP.out.below HE.out.bel).2 k z hz
        have hzb := RP.out.1 z (List.mem_of_getElem? hz)
        go_upto_if 59 with (fail)
        have hq : -49 ≤ z.tmod 50 ∧ z.tmod 50 ≤ 49 := by have h9 : (z.tmod 50).natAbs = z.natAbs % 50 := Int.natAbs_tmod z 50; omega
        obtain ⟨q1, q2⟩ := hq
        generalize z.tmod 50 = q at *
        clear hc hg hz hzb
        go_cut [14] from 43 to 61 (fun s wx => ∃ p : Nat, s = .int .i64 (p : Int) ∧ p ≤ 49 ∧ wr = wx)
        case first =>
          as_aux_lemma =>
            by_cases hneg : q < 0
            · obtain ⟨p, hp⟩ : ∃ p : Nat, (p : Int) = -q := ⟨(-q).toNat, by omega⟩
              go_wp2_with fail
              go_meet
              case rel => exact ⟨p, by rw [hp], by omega, rfl⟩
            · obtain ⟨p, hp⟩ : ∃ p : Nat, (p : Int) = q := ⟨q.toNat, by omega⟩
              have hneg2 : decide (q < 0) = false := by simp; omega
              go_wp2_with fail
              go_meet
              case rel => exact ⟨p, by rw [hp], by omega, rfl⟩
        case rest =>
          obtain ⟨p, rfl, hp, rfl⟩ := hcut
          clear q1 q2
          go_upto_region 15 with (fail)
          obtain ⟨now2, hn2⟩ : ∃ m : Nat, now + p = m := ⟨_, rfl⟩
          have HR2 := Lib.hid (HR.out.mono (show now ≤ now2 by omega))
          have hnow2 : now2 ≤ 49 * (k + 1) := by omega
          rw [show (now : Int) + (p : Int) = (now2 : Int) by omega]
          clear hn2 HR hnow hp
          go_cut [76] from 43 to 75 (fun s wx => ∃ b : Bool, s = .bool b ∧ (b = true → k < nO) ∧ wr = wx)
          case first =>
            as_aux_lemma =>
              by_cases hlO : k < nO
              · obtain ⟨z, hz⟩ : ∃ z, lO[k]? = some z := ⟨_, List.getElem?_eq_getElem (by rw [LO.out]; exact hlO)⟩
                obtain ⟨g2, o2, rfl, hg2, hc2⟩ := (RO.out.below HE.out.bel).2 k z hz
                go_wp2_with fail
                go_meet
                case rel => exact ⟨_, rfl, fun _ => hlO, rfl⟩
              · go_wp2_with fail
                go_meet
                case rel => exact ⟨_, rfl, (fun h => by cases h), rfl⟩
          case rest =>
            obtain ⟨b, rfl, hb, rfl⟩ := hcut
            go_upto_if 76 with (fail)
            go_cut [11, 12, 15, 16] from 43 to 95 (fun v11 v12 v15 v16 wx => ∃ (T : List Cal) (aL : Option Addr) (cL : Nat) (aR : Option Addr) (cR M : Nat) (L R : List Int), v11 = .slice aL M cL ∧ v12 = .slice aR M cR ∧ M ≤ k + 1 ∧ EndW W wx B hn gm B2 T aL cL aR cR M M L R ∧ EndsR T L R now2)
            case first =>
              as_aux_lemma =>
                have hTM : T.length = M := by have h1 := HR2.out.lenL; have h2 := HE.out.oL.1; simp at h2; omega
                have HTM := Lib.hid hTM
                clear hTM
                cases b with
                | false =>
                  go_wp2_with fail
                  go_meet
                  case rel => exact ⟨T, aL, cL, aR, cR, M, L, R, rfl, rfl, by omega, HE.out, HR2.out⟩
                | true =>
                  have hlO := hb rfl
                  obtain ⟨z, hz⟩ : ∃ z, lO[k]? = some z := ⟨_, List.getElem?_eq_getElem (by rw [LO.out]; exact hlO)⟩
                  obtain ⟨g2, o2, rfl, hg2, hc2⟩ := (RO.out.below HE.out.bel).2 k z hz
                  have HH := Lib.hid (show timeB (now2 : Int) = true from timeB_iff.2 ⟨by omega, by omega⟩)
                  have HO := Lib.hid (aopen_any z (now2 : Int) wr HE.out.A (by rw [HTM.out]; omega))
                  unfold openI openE openT at HO
                  clear hz hb
                  by_cases hroom : (live T).length ≠ 256
                  · rw [if_pos ⟨HH.out, hroom⟩, if_pos HH.out, if_pos hroom, if_pos ⟨HH.out, hroom⟩] at HO
                    rw [show ((now2 : Int)).toNat = now2 by omega] at HO
                    obtain ⟨iL, hiL, hzL0, hzL1, hzL2⟩ := info_parts i64_info
                    obtain ⟨iR, hiR, hzR0, hzR1, hzR2⟩ := info_parts int_info
                    have HiL0 := Lib.hid hiL; have HiL1 := Lib.hid hzL0; have HiL2 := Lib.hid hzL1; have HiL3 := Lib.hid hzL2
                    have HiR0 := Lib.hid hiR; have HiR1 := Lib.hid hzR0; have HiR2 := Lib.hid hzR1; have HiR3 := Lib.hid hzR2
                    clear hiL hzL0 hzL1 hzL2 hiR hzR0 hzR1 hzR2
                    go_wp2_with fail
                    refine HO.out.mono ?_; rintro e w3 ⟨rfl, h3, k3⟩
                    have HE3 := Lib.hid (HE.out.call h3 k3 (ids_open HE.out.ids z now2))
                    have hle3 := HE3.out.lo.2.2
                    clear h3 k3 HO HE
                    go_wp2_with (first | (at_builtin; refine wpList_append_own_at _ rfl (.tmp 89) (.tmp 91) 66 rfl B2 2 iL (.int .i64 0) 1 8 Try.underlying66 HiL0.out HiL1.out HiL2.out HiL3.out rfl (by omega) _ M (iv L) rfl (HE3.out.oL.alloc _) ⟨w3.heap.size, 0, none⟩ 1 1 [.int .i64 (now2 : Int)] rfl rfl (World.news_of_block (cs := #[.int .i64 (now2 : Int)]) (t := 2) (fr := (0, 0)) (heap_alloc_new w3 _)) (by simp [Value.oneCell']) (by unfold maxLen; omega) (by omega) (by simp; omega) ?_; intro v8 w4 hown hg8 hv8 hob8; obtain ⟨a8, c8, rfl, he4⟩ := HE3.out.appL (L' := L ++ [(now2 : Int)]) (below_alloc (Below.refl _ _) _) hown (by simp) hg8 hob8; have HE4 := Lib.hid he4; have hle4 := HE4.out.lo.2.2; clear he4 hown hg8 hv8 hob8) | (at_builtin; refine wpList_append_own_at _ rfl (.tmp 93) (.tmp 94) 65 rfl B2 3 iR (.int .i64 0) 1 8 Try.underlying65 HiR0.out HiR1.out HiR2.out HiR3.out rfl (by omega) _ M (iv R) rfl (HE4.out.oR.alloc _) ⟨w4.heap.size, 0, none⟩ 1 1 [.int .i64 1] rfl rfl (World.news_of_block (cs := #[.int .i64 1]) (t := 3) (fr := (0, 0)) (heap_alloc_new w4 _)) (by simp [Value.oneCell']) (by unfold maxLen; omega) (by omega) (by simp; omega) ?_; intro v9 w5 hown hg8 hv8 hob8; obtain ⟨a9, c9, rfl, he5⟩ := HE4.out.appR (R' := R ++ [1]) (below_alloc (Below.refl _ _) _) hown (by simp) hg8 hob8; have HE5 := Lib.hid he5; clear he5 hown hg8 hv8 hob8))
                    go_meet
                    case rel => exact ⟨_, a8, c8, a9, c9, M + 1, _, _, rfl, rfl, by omega, HE5.out, HR2.out.opened z⟩
                  · rw [if_neg (fun h => hroom h.2), if_pos HH.out, if_neg hroom, if_neg (fun h => hroom h.2)] at HO
                    go_wp2_with fail
                    refine HO.out.mono ?_; rintro e w3 ⟨rfl, h3, k3⟩
                    have HE3 := Lib.hid (HE.out.call h3 k3 HE.out.ids)
                    clear h3 k3 HO HE hroom
                    as_aux_lemma =>
                      have HEF := HE3
                      have HRF := HR2
                      obtain ⟨c0, hc0⟩ : ∃ c0, (live T).length = c0 := ⟨_, rfl⟩
                      have HLS := Lib.hid (list_any w3 HEF.out.A)
                      rw [hc0] at HLS
                      have HC0 := Lib.hid hc0
                      have hTM : T.length = M := by have h1 := HRF.out.lenL; have h2 := HEF.out.oL.1; simp at h2; omega
                      have HTM := Lib.hid hTM
                      clear hc0 hTM
                      go_wp2_with fail
                      go_loopw [26, 27] (fun v26 v27 wq => ∃ j c : Nat, j ≤ M ∧ v27 = .int .i64 (j : Int) ∧ v26 = .int .i64 (c : Int) ∧ c ≤ j ∧ Hid (c = (live (T.take j)).length) ∧ wq = w3) (fun v26 v27 _ => M - (intOf v27).toNat)
                      case atStart => exact ⟨0, 0, by omega, rfl, rfl, by omega, Lib.hid (by simp), rfl⟩
                      case round =>
                        obtain ⟨j, c, hj, rfl, rfl, hcj, hcc, rfl⟩ := hrel
                        by_cases hjl : j < M
                        · obtain ⟨x, hx⟩ : ∃ x, T[j]? = some x := ⟨_, List.getElem?_eq_getElem (by rw [HTM.out]; exact hjl)⟩
                          obtain ⟨lv, rv, hlv, hrv, hent⟩ := HRF.out.ent j x hx
                          obtain ⟨gq, rfl, hcq, hfq, _, _⟩ := HEF.out.atL hlv
                          have HSX := Lib.hid (live_take_succ hx)
                          by_cases h0 : 0 < x.tries
                          · obtain ⟨gg, rfl, _⟩ := hent.1 h0
                            clear hent hlv hrv hx
                            have hge : decide ((gg : Int) ≥ 0) = true := by simp
                            go_wp2_with fail
                            go_roundw
                            case rel => exact ⟨j + 1, c + 1, by omega, by go_num, by go_num, by omega, Lib.hid (by rw [HSX.out, List.length_append, if_pos h0, ← hcc.out]; rfl), trivial⟩
                            case measure => simp [intOf]; omega
                          · obtain rfl := hent.2 (by omega)
                            clear hent hlv hrv hx
                            go_wp2_with fail
                            go_roundw
                            case rel => exact ⟨j + 1, c, by omega, by go_num, by go_num, by omega, Lib.hid (by rw [HSX.out, List.length_append, if_neg h0, ← hcc.out]; rfl), trivial⟩
                            case measure => simp [intOf]; omega
                        · obtain rfl : j = M := by omega
                          obtain rfl : c = c0 := by rw [hcc.out, ← HTM.out, List.take_length]; exact HC0.out
                          go_wp2_with fail
                          refine HLS.out.mono ?_; rintro e w9 ⟨v9, rfl, b9, o9⟩
                          obtain ⟨a9, c9, rfl, _, _⟩ := owns_shape o9
                          have B9 := Lib.hid (below_next HEF.out.bel b9)
                          clear o9 b9
                          go_wp2_with fail
                          go_ret
                          exact ⟨rfl, B9.out⟩
            case rest =>
              clear HE HR2 hb hMk
              obtain ⟨T, aL, cL, aR, cR, M, L, R, rfl, rfl, hMk, he, hr⟩ := hcut
              generalize wc = wr at *
              have HE := Lib.hid he; have HR2 := Lib.hid hr
              clear he hr
              go_upto_region 20 with (fail)
              go_cut [115] from 43 to 114 (fun s wx => ∃ b : Bool, s = .bool b ∧ (b = true → ∃ i : Nat, i < M ∧ lC[k]? = some ((i : Int) + 1)) ∧ wr = wx)
              case first =>
                as_aux_lemma =>
                  by_cases hlC : k < nC
                  · obtain ⟨z, hz⟩ : ∃ z, lC[k]? = some z := ⟨_, List.getElem?_eq_getElem (by rw [LC.out]; exact hlC)⟩
                    obtain ⟨g2, o2, rfl, hg2, hc2⟩ := (RC.out.below HE.out.bel).2 k z hz
                    by_cases hz0 : 0 < z
                    · by_cases hzM : z ≤ (M : Int)
                      · go_wp2_with fail
                        go_meet
                        case rel => exact ⟨true, rfl, fun _ => ⟨(z - 1).toNat, by omega, by rw [hz]; congr 1; omega⟩, rfl⟩
                      · have hd : decide (z ≤ (M : Int)) = false := by simp; omega
                        go_wp2_with fail
                        go_meet
                        case rel => exact ⟨false, rfl, (fun h => by cases h), rfl⟩
                    · have hd : decide (z > 0) = false := by simp; omega
                      go_wp2_with fail
                      go_meet
                      case rel => exact ⟨false, rfl, (fun h => by cases h), rfl⟩
                  · go_wp2_with fail
                    go_meet
                    case rel => exact ⟨false, rfl, (fun h => by cases h), rfl⟩
              case rest =>
                obtain ⟨b, rfl, hb, rfl⟩ := hcut
                go_upto_if 115 with (fail)
                go_cut [17, 18, 19] from 43 to 152 (fun v17 v18 v19 wx => ∃ (T : List Cal) (L : List Int), EndW W wx B hn gm B2 T aL cL aR cR M M L R ∧ EndsR T L R now2)
                case first =>
                  as_aux_lemma =>
                    cases b with
                    | false =>
                      go_wp2_with fail
                      go_meet
                      case rel => exact ⟨T, L, HE.out, HR2.out⟩
                    | true =>
                      obtain ⟨i, hiM, hz⟩ := hb rfl
                      have hTM : T.length = M := by have h1 := HR2.out.lenL; have h2 := HE.out.oL.1; simp at h2; omega
                      obtain ⟨g2, o2, rfl, hg2, hc2⟩ := (RC.out.below HE.out.bel).2 k _ hz
                      obtain ⟨x, hx⟩ : ∃ x, T[i]? = some x := ⟨_, List.getElem?_eq_getElem (by rw [hTM]; exact hiM)⟩
                      obtain ⟨lv, rv, hlv, hrv, hent⟩ := HR2.out.ent i x hx
                      have hkC : k < nC := by rw [← LC.out]; exact (List.getElem?_eq_some_iff.1 hz).1
                      have HCL := Lib.hid (HR2.out.closed i (by rw [hTM]; exact hiM))
                      clear hb hz hTM
                      by_cases h0 : 0 < x.tries
                      · obtain ⟨gg, rfl, _, rfl, _, _⟩ := hent.1 h0
                        have HO := Lib.hid (aclose_one i hx h0 (by omega) wr HE.out.A HE.out.ids)
                        clear hent hx
                        go_wp2_with fail
                        refine HO.out.mono ?_; rintro e w3 ⟨rfl, h3, k3⟩
                        have HE3 := Lib.hid (HE.out.call h3 k3 (ids_close HE.out.ids (i + 1)))
                        obtain ⟨xi, xt, xs, xtr, xd⟩ := x
                        obtain ⟨gL, haL, cq, fq, _, hgb⟩ := HE3.out.atL hlv
                        obtain ⟨gR, haR, cr, fr, _, hgc⟩ := HE3.out.atR hrv
                        have hgl := (owns_blk HE3.out.oL gL hgb).2
                        have hgr := (owns_blk HE3.out.oR gR hgc).2
                        subst haL haR
                        have HE4 := Lib.hid HE3.out
                        clear h3 k3 HO HE HE3 hlv hrv hgb hgc
                        have hge : decide ((gg : Int) ≥ 0) = true := by simp
                        have hne : ((xtr : Int) != (xtr : Int)) = false := by simp
                        have hnn := eql_nilnil
                        go_wp2_with fail
                        go_quiet (fail)
                        go_wp2_with fail
                        go_meet
                        case rel =>
                          refine ⟨closeT T (i + 1), L.set i (-1), ?_, HCL.out⟩
                          exact (HE4.out.below (below_drewN (below_alloc (Below.refl _ _) _) _)).setL i hiM (-1)
                      · obtain rfl := hent.2 (by omega)
                        have HO := Lib.hid (aclose_two i hx (by omega) (by omega) wr HE.out.A HE.out.ids)
                        clear hent hx
                        go_wp2_with fail
                        refine HO.out.mono ?_; rintro e w3 ⟨pb, rfl, h3, k3⟩
                        have HE3 := Lib.hid (HE.out.call h3 k3 (ids_close HE.out.ids (i + 1)))
                        obtain ⟨gL, haL, cq, fq, _, hgb⟩ := HE3.out.atL hlv
                        have hgl := (owns_blk HE3.out.oL gL hgb).2
                        subst haL
                        have HE4 := Lib.hid HE3.out
                        clear h3 k3 HO HE HE3 hlv hrv hgb
                        have hnn := eql_nil pb
                        go_wp2_with fail
                        go_quiet (fail)
                        go_wp2_with fail
                        go_meet
                        case rel =>
                          refine ⟨closeT T (i + 1), L.set i (-1), ?_, HCL.out⟩
                          exact (HE4.out.below (below_drewN (below_alloc (Below.refl _ _) _) _)).setL i hiM (-1)
                case rest =>
                  clear HE HR2 hb
                  obtain ⟨T, L, he, hr⟩ := hcut
                  generalize wc = w7 at *
                  have HE := Lib.hid he; have HR2 := Lib.hid hr
                  clear he hr
                  as_aux_lemma =>
                    have htb : now2 ≤ 1099511627776 := by omega
                    have hTM : T.length = M := by have h1 := HR2.out.lenL; have h2 := HE.out.oL.1; simp at h2; omega
                    have HDU := Lib.hid (adue_s (now2 : Int) w7 HE.out.A HE.out.ids)
                    go_wp2_with fail
                    refine HDU.out.mono ?_; rintro e w8 ⟨T', L1, L2, a1, n1, c1, a2, n2, c2, rfl, hd, hl1, hl2, hc8, hk8, o1, o2, hap⟩
                    have HS := Lib.hid (dueOf_S hd htb HE.out.ids)
                    have hfw := hd.few
                    have hn1 : n1 ≤ 401 := by omega
                    have hn2 : n2 ≤ 401 := by omega
                    have HE8 := Lib.hid (HE.out.call hc8 (hk8.mono (by simp)) (ids_due HS.out HE.out.ids))
                    have HM8 := Lib.hid (Mid.start (L1 := L1) (L2 := L2) HR2.out)
                    have HO1 := Lib.hid o1
                    have HO2 := Lib.hid o2
                    have HBL := Lib.hid (show (∀ g ∈ blk aL, g < w7.heap.size) ∧ (∀ g ∈ blk aR, g < w7.heap.size) from ⟨fun g hg => (owns_blk HE.out.oL g hg).2, fun g hg => (owns_blk HE.out.oR g hg).2⟩)
                    have HN1 := Lib.hid hl1
                    have HN2 := Lib.hid hl2
                    clear hd hl1 hl2 hc8 hk8 o1 o2 hap hfw HDU htb HE HR2
                    go_wp2_with fail
                    go_loopw [22] (fun i wq => ∃ (j : Nat) (L R : List Int), j ≤ n1 ∧ i = .int .i64 (j : Int) ∧ EndW W wq B hn gm B2 T' aL cL aR cR M M L R ∧ Mid T L1 L2 now2 j 0 L R ∧ wq.ownsRow w7.heap.size 70 5 (.slice a1 n1 c1) n1 (lc L1) ∧ wq.ownsRow w7.heap.size 70 5 (.slice a2 n2 c2) n2 (lc L2)) (fun i _ => n1 - (intOf i).toNat)
                    case atStart => exact ⟨0, L, R, by omega, rfl, HE8.out, HM8.out, HO1.out, HO2.out⟩
                    case round =>
                      as_aux_lemma =>
                        clear HE8 HM8 HO1 HO2
                        obtain ⟨j, L, R, hj, rfl, he, hm, o1, o2⟩ := hrel
                        by_cases hlt2 : j < n1
                        · obtain ⟨y, hy⟩ : ∃ y, L1[j]? = some y := ⟨_, List.getElem?_eq_getElem (by rw [HN1.out]; exact hlt2)⟩
                          obtain ⟨i, gg, t, hyi, hiT, hLi, hRi, hyt, ht1, ht4, hgn, hwt⟩ := hm.again_at HS.out hy
                          obtain ⟨g3, ha1, hg3, hc3, cy0, cy3⟩ := owns_five o1 hlt2 hy
                          rw [hyi] at cy0
                          rw [hyt] at cy3
                          obtain ⟨gL, haL, cq, fq, hiM, hgb⟩ := he.atL hLi
                          obtain ⟨gR, haR, cr, fr, _, hgc⟩ := he.atR hRi
                          have hne : gL ≠ gR := fun e => he.ap gL hgb (e ▸ hgc)
                          have hgl := HBL.out.1 gL hgb
                          have hgr := HBL.out.2 gR hgc
                          have HM10 := Lib.hid (hm.again_set HS.out hy hyi hyt)
                          have HO1b := Lib.hid (owns_keep (owns_keep o1 (Keep.setCell wr ⟨gL, i, none⟩ (.int .i64 (now2 : Int))) (blk_own _ _ _ fun g hg hm => by have := (owns_blk o1 g hg).1; simp at hm; omega)) (Keep.setCell _ ⟨gR, i, none⟩ (.int .i64 ((t : Int) + 1))) (blk_own _ _ _ fun g hg hm => by have := (owns_blk o1 g hg).1; simp at hm; omega))
                          have HO2b := Lib.hid (owns_keep (owns_keep o2 (Keep.setCell wr ⟨gL, i, none⟩ (.int .i64 (now2 : Int))) (blk_own _ _ _ fun g hg hm => by have := (owns_blk o2 g hg).1; simp at hm; omega)) (Keep.setCell _ ⟨gR, i, none⟩ (.int .i64 ((t : Int) + 1))) (blk_own _ _ _ fun g hg hm => by have := (owns_blk o2 g hg).1; simp at hm; omega))
                          subst haL haR ha1
                          have HE10 := Lib.hid ((he.setL i hiM (now2 : Int)).setR i hiM ((t : Int) + 1))
                          clear he hm o1 o2 hy hyi hyt hLi hRi hgb hgc
                          obtain ⟨t', rfl⟩ : ∃ t', t = t' + 1 := ⟨t - 1, by omega⟩
                          have HWT := Lib.hid (wait_yes 3 20 t' (by decide) (by omega))
                          rw [show t' + 1 - 1 = t' by omega] at hwt
                          rw [show ((t' + 1 : Nat) : Int) = (t' : Int) + 1 from rfl] at cr HE10 HM10 HO1b HO2b
                          rw [show ((t' + 1 + 1 : Nat) : Int) = (t' : Int) + 1 + 1 from rfl] at cy3
                          have e1 : IntKind.i64.wrap (t' : Int) = (t' : Int) := by rw [IntKind.wrap_i64]; omega
                          have e2 : IntKind.i64.wrap ((now2 : Int) - (gg : Int)) = (now2 : Int) - (gg : Int) := by rw [IntKind.wrap_i64]; omega
                          have e4 : IntKind.i64.wrap ((t' : Int) + 1 + 1) = (t' : Int) + 1 + 1 := by rw [IntKind.wrap_i64]; omega
                          have e3 : decide ((now2 : Int) - (gg : Int) < (waitN 3 20 t' : Int)) = false := by simp; omega
                          have e5 : ((t' : Int) + 1 + 1 != (t' : Int) + 1 + 1) = false := by simp
                          have e6 : decide ((t' : Int) + 1 ≥ 4) = false := by simp; omega
                          have e7 : decide ((i : Int) < 0) = false := by simp
                          have e8 : decide ((i : Int) ≥ (M : Int)) = false := by simp; omega
                          have e9 : decide ((gg : Int) < 0) = false := by simp
                          go_wp2_with fail
                          go_quiet (first | (go_at_call 22; exact Calls.quiet_of_same ((HWT.out _).mono fun e w' ⟨h1, h2⟩ => ⟨h1, h2.symm⟩)))
                          go_wp2_with fail
                          go_roundw
                          case rel => exact ⟨j + 1, _, _, by omega, by go_num, HE10.out.below (below_drewN (Below.refl _ _) _), HM10.out, owns_keep HO1b.out (Keep.of_below (below_drewN (Below.refl _ _) _) []) (by simp), owns_keep HO2b.out (Keep.of_below (below_drewN (Below.refl _ _) _) []) (by simp)⟩
                          case measure => simp [intOf]; omega
                        · obtain rfl : j = n1 := by omega
                          have HE8 := Lib.hid he
                          have HM8 := Lib.hid (show Mid T L1 L2 now2 L1.length 0 L R by rw [HN1.out]; exact hm)
                          have HO1 := Lib.hid o1
                          have HO2 := Lib.hid o2
                          clear he hm o1 o2
                          go_wp2_with fail
                          go_loopw [24] (fun i wq => ∃ (q : Nat) (L R : List Int), q ≤ n2 ∧ i = .int .i64 (q : Int) ∧ EndW W wq B hn gm B2 T' aL cL aR cR M M L R ∧ Mid T L1 L2 now2 L1.length q L R ∧ wq.ownsRow w7.heap.size 70 5 (.slice a2 n2 c2) n2 (lc L2)) (fun i _ => n2 - (intOf i).toNat)
                          case atStart => exact ⟨0, L, R, by omega, rfl, HE8.out, HM8.out, HO2.out⟩
                          case round =>
                            as_aux_lemma =>
                              clear HE8 HM8 HO1 HO2
                              obtain ⟨j, L, R, hj, rfl, he, hm, o2⟩ := hrel
                              by_cases hlt3 : j < n2
                              · obtain ⟨y, hy⟩ : ∃ y, L2[j]? = some y := ⟨_, List.getElem?_eq_getElem (by rw [HN2.out]; exact hlt3)⟩
                                obtain ⟨i, gg, hyi, hiT, hLi, hRi, hgn, hwt⟩ := hm.over_at HS.out hy
                                obtain ⟨g3, ha2, hg3, hc3, cy0, cy3⟩ := owns_five o2 hlt3 hy
                                rw [hyi] at cy0
                                obtain ⟨gL, haL, cq, fq, hiM, hgb⟩ := he.atL hLi
                                obtain ⟨gR, haR, cr, fr, _, hgc⟩ := he.atR hRi
                                have hgl := HBL.out.1 gL hgb
                                have HM10 := Lib.hid (hm.over_set HS.out hy hyi)
                                have HO2b := Lib.hid (owns_keep o2 (Keep.setCell wr ⟨gL, i, none⟩ (.int .i64 (-1))) (blk_own _ _ _ fun g hg hm => by have := (owns_blk o2 g hg).1; simp at hm; omega))
                                subst haL haR ha2
                                have HE10 := Lib.hid (he.setL i hiM (-1))
                                have HWT := Lib.hid (wait_yes 3 20 3 (by decide) (by omega))
                                clear he hm o2 hy cy3 hyi hLi hRi hgb hgc
                                have e2 : IntKind.i64.wrap ((now2 : Int) - (gg : Int)) = (now2 : Int) - (gg : Int) := by rw [IntKind.wrap_i64]; omega
                                have e3 : decide ((now2 : Int) - (gg : Int) < (waitN 3 20 3 : Int)) = false := by simp; omega
                                have e7 : decide ((i : Int) < 0) = false := by simp
                                have e8 : decide ((i : Int) ≥ (M : Int)) = false := by simp; omega
                                have e9 : decide ((gg : Int) < 0) = false := by simp
                                go_wp2_with fail
                                go_quiet (first | (go_at_call 22; exact Calls.quiet_of_same ((HWT.out _).mono fun e w' ⟨h1, h2⟩ => ⟨h1, h2.symm⟩)))
                                go_wp2_with fail
                                go_roundw
                                case rel => exact ⟨j + 1, _, _, by omega, by go_num, HE10.out.below (below_drewN (Below.refl _ _) _), HM10.out, owns_keep HO2b.out (Keep.of_below (below_drewN (Below.refl _ _) _) []) (by simp)⟩
                                case measure => simp [intOf]; omega
                              · obtain rfl : j = n2 := by omega
                                have HE11 := Lib.hid he
                                have HD := Lib.hid (Mid.done HS.out (by have h9 := hm; rw [← HN2.out] at h9; exact h9))
                                clear he hm o2
                                go_wp2_with fail
                                go_roundw
                                case rel => exact ⟨k + 1, now2, T', aL, cL, aR, cR, M, L, R, by omega, by omega, by go_num, rfl, by omega, rfl, rfl, by omega, HE11.out, HD.out⟩
                                case measure => simp [intOf]; omega
      · obtain rfl : k = 400 := by omega
        as_aux_lemma =>
          have HEF := HE
          have HRF := HR
          obtain ⟨c0, hc0⟩ : ∃ c0, (live T).length = c0 := ⟨_, rfl⟩
          have HLS := Lib.hid (list_any wr HEF.out.A)
          rw [hc0] at HLS
          have HC0 := Lib.hid hc0
          have hTM : T.length = M := by have h1 := HRF.out.lenL; have h2 := HEF.out.oL.1; simp at h2; omega
          have HTM := Lib.hid hTM
          clear hc0 hTM
          go_wp2_with fail
          go_loopw [26, 27] (fun v26 v27 wq => ∃ j c : Nat, j ≤ M ∧ v27 = .int .i64 (j : Int) ∧ v26 = .int .i64 (c : Int) ∧ c ≤ j ∧ Hid (c = (live (T.take j)).length) ∧ wq = wr) (fun v26 v27 _ => M - (intOf v27).toNat)
          case atStart => exact ⟨0, 0, by omega, rfl, rfl, by omega, Lib.hid (by simp), rfl⟩
          case round =>
            obtain ⟨j, c, hj, rfl, rfl, hcj, hcc, rfl⟩ := hrel
            by_cases hjl : j < M
            · obtain ⟨x, hx⟩ : ∃ x, T[j]? = some x := ⟨_, List.getElem?_eq_getElem (by rw [HTM.out]; exact hjl)⟩
              obtain ⟨lv, rv, hlv, hrv, hent⟩ := HRF.out.ent j x hx
              obtain ⟨gq, rfl, hcq, hfq, _, _⟩ := HEF.out.atL hlv
              have HSX := Lib.hid (live_take_succ hx)
              by_cases h0 : 0 < x.tries
              · obtain ⟨gg, rfl, _⟩ := hent.1 h0
                clear hent hlv hrv hx
                have hge : decide ((gg : Int) ≥ 0) = true := by simp
                go_wp2_with fail
                go_roundw
                case rel => exact ⟨j + 1, c + 1, by omega, by go_num, by go_num, by omega, Lib.hid (by rw [HSX.out, List.length_append, if_pos h0, ← hcc.out]; rfl), trivial⟩
                case measure => simp [intOf]; omega
              · obtain rfl := hent.2 (by omega)
                clear hent hlv hrv hx
                go_wp2_with fail
                go_roundw
                case rel => exact ⟨j + 1, c, by omega, by go_num, by go_num, by omega, Lib.hid (by rw [HSX.out, List.length_append, if_neg h0, ← hcc.out]; rfl), trivial⟩
                case measure => simp [intOf]; omega
            · obtain rfl : j = M := by omega
              obtain rfl : c = c0 := by rw [hcc.out, ← HTM.out, List.take_length]; exact HC0.out
              go_wp2_with fail
              refine HLS.out.mono ?_; rintro e w9 ⟨v9, rfl, b9, o9⟩
              obtain ⟨a9, c9, rfl, _, _⟩ := owns_shape o9
              have B9 := Lib.hid (below_next HEF.out.bel b9)
              clear o9 b9
              go_wp2_with fail
              go_ret
              exact ⟨rfl, B9.out⟩
    · obtain rfl : k = nP := by omega
      as_aux_lemma =>
        have HEF := HE
        have HRF := HR
        obtain ⟨c0, hc0⟩ : ∃ c0, (live T).length = c0 := ⟨_, rfl⟩
        have HLS := Lib.hid (list_any wr HEF.out.A)
        rw [hc0] at HLS
        have HC0 := Lib.hid hc0
        have hTM : T.length = M := by have h1 := HRF.out.lenL; have h2 := HEF.out.oL.1; simp at h2; omega
        have HTM := Lib.hid hTM
        clear hc0 hTM
        go_wp2_with fail
        go_loopw [26, 27] (fun v26 v27 wq => ∃ j c : Nat, j ≤ M ∧ v27 = .int .i64 (j : Int) ∧ v26 = .int .i64 (c : Int) ∧ c ≤ j ∧ Hid (c = (live (T.take j)).length) ∧ wq = wr) (fun v26 v27 _ => M - (intOf v27).toNat)
        case atStart => exact ⟨0, 0, by omega, rfl, rfl, by omega, Lib.hid (by simp), rfl⟩
        case round =>
          obtain ⟨j, c, hj, rfl, rfl, hcj, hcc, rfl⟩ := hrel
          by_cases hjl : j < M
          · obtain ⟨x, hx⟩ : ∃ x, T[j]? = some x := ⟨_, List.getElem?_eq_getElem (by rw [HTM.out]; exact hjl)⟩
            obtain ⟨lv, rv, hlv, hrv, hent⟩ := HRF.out.ent j x hx
            obtain ⟨gq, rfl, hcq, hfq, _, _⟩ := HEF.out.atL hlv
            have HSX := Lib.hid (live_take_succ hx)
            by_cases h0 : 0 < x.tries
            · obtain ⟨gg, rfl, _⟩ := hent.1 h0
              clear hent hlv hrv hx
              have hge : decide ((gg : Int) ≥ 0) = true := by simp
              go_wp2_with fail
              go_roundw
              case rel => exact ⟨j + 1, c + 1, by omega, by go_num, by go_num, by omega, Lib.hid (by rw [HSX.out, List.length_append, if_pos h0, ← hcc.out]; rfl), trivial⟩
              case measure => simp [intOf]; omega
            · obtain rfl := hent.2 (by omega)
              clear hent hlv hrv hx
              go_wp2_with fail
              go_roundw
              case rel => exact ⟨j + 1, c, by omega, by go_num, by go_num, by omega, Lib.hid (by rw [HSX.out, List.length_append, if_neg h0, ← hcc.out]; rfl), trivial⟩
              case measure => simp [intOf]; omega
          · obtain rfl : j = M := by omega
            obtain rfl : c = c0 := by rw [hcc.out, ← HTM.out, List.take_length]; exact HC0.out
            go_wp2_with fail
            refine HLS.out.mono ?_; rintro e w9 ⟨v9, rfl, b9, o9⟩
            obtain ⟨a9, c9, rfl, _, _⟩ := owns_shape o9
            have B9 := Lib.hid (below_next HEF.out.bel b9)
            clear o9 b9
            go_wp2_with fail
            go_ret
            exact ⟨rfl, B9.out⟩
end Go.Proofs.Ytjhdlohcjodgjaa
