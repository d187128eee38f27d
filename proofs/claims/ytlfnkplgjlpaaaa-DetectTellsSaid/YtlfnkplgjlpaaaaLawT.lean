/- DetectTells: the walk. -/
import Derived.Test.YtlfnkplgjlpaaaaTellW
import Derived.Deep.CutRange
namespace Go.Proofs.Ytlfnkplgjlpaaaa
open Go.RowKit Go.Sort
set_option linter.unusedVariables false

set_option maxRecDepth 100000 in
set_option maxHeartbeats 16000000 in
theorem detectTells_law (ao : Option Addr) (n cap : Nat) (hc : n ≤ cap) (hm : cap ≤ maxLen) (W : World) (hr : OpsRd W ao n) :
    Calls Try.prog 5 #[.slice ao n cap] W (LawOk W) := by
  have HR := Lib.hid hr
  clear hr
  have hni : (n : Int) ≤ 9223372036854775807 := by unfold maxLen at hm; omega
  go_enter Try.func5, Try.ntmps5
  go_wp2_with fail
  refine (awake_any W).mono ?_; rintro e w0 ⟨rfl, b0⟩
  have HB0 := Lib.hid b0; clear b0
  go_wp2_with fail
  refine (new_yes 8 (by omega) w0).mono ?_; rintro e w1 ⟨hn, rfl, h1, b1⟩
  have HB1 := Lib.hid (below_next HB0.out b1)
  have hb1 := HB0.out.size
  have hge := (h1.blocks hn (by simp)).2
  have ha := Arr.new w1
  have b2 := below_alloc (Below.refl w1.heap.size w1) (.cells #[.bool false, .bool false, .bool false, .bool false, .bool false, .bool false, .bool false, .bool false, .bool false, .bool false, .bool false, .bool false] 45)
  have HT := Lib.hid (show Tst _ w0.heap.size hn w1.heap.size [hn] [] (fun _ => false) from ⟨h1.below b2, ha, by simp; omega, fun p _ => rfl, (fun x hx => absurd hx (by simp)), List.Pairwise.nil⟩)
  have HB2 := Lib.hid (below_next HB1.out b2)
  have hga : W.heap.size ≤ w1.heap.size := HB1.out.size
  clear h1 b1 HB0 ha b2 HB1 hge
  go_wp2_with fail
  generalize hwa : w1.alloc (.cells #[.bool false, .bool false, .bool false, .bool false, .bool false, .bool false, .bool false, .bool false, .bool false, .bool false, .bool false, .bool false] 45) = wa at *
  clear hwa
  generalize w1.heap.size = ga at *
  go_loopw [7, 8, 9, 10, 11, 12, 13, 14, 15, 16] (fun v7 v8 v9 v10 v11 v12 v13 v14 v15 v16 wr => ∃ (k now : Nat) (Bs : List Nat) (S : List Nd) (f : Nat → Bool), v7 = .int .i64 (now : Int) ∧ v8 = .int .i64 (k : Int) ∧ k ≤ n ∧ k ≤ 500 ∧ now ≤ k * 99 ∧ Tst wr w0.heap.size hn ga Bs S f ∧ Below W.heap.size W wr) (fun _ v8 _ _ _ _ _ _ _ _ _ => n - (intOf v8).toNat)
  case atStart => exact ⟨0, 0, _, _, _, rfl, rfl, by omega, by omega, by omega, HT.out, HB2.out⟩
  case round =>
    clear HT HB2
    obtain ⟨k, now, Bs, S, f, rfl, rfl, hk, hk5, hnow, hst, hbl⟩ := hrel
    have HT := Lib.hid hst; have HB := Lib.hid hbl
    clear hst
    by_cases hlt : k < n ∧ k < 500
    · obtain ⟨hlt, hlt5⟩ := hlt
      obtain ⟨go, oo, kind, num, x, raw, rfl, wn, wx, hg, q0, q1, q2, q3⟩ := (HR.out.below hbl) k hlt
      have hki : (0 : Int) ≤ (k : Int) := by omega
      have hki2 : (k : Int) < (n : Int) := by omega
      have hki3 : (k : Int) < 500 := by omega
      have b3 := below_alloc (Below.refl wr.heap.size wr) (.cells #[.int .i64 kind, .int .i64 num, .int .i64 x, .bool raw] 37)
      have HT3 := Lib.hid (HT.out.below b3)
      have HB3 := Lib.hid (below_next HB.out b3)
      have r0 := cell_of_row _ _ 0 _ _ (0, 0) (heap_alloc_new wr (.cells #[.int .i64 kind, .int .i64 num, .int .i64 x, .bool raw] 37))
      have r1 := cell_of_row _ _ 1 _ _ (0, 0) (heap_alloc_new wr (.cells #[.int .i64 kind, .int .i64 num, .int .i64 x, .bool raw] 37))
      have r2 := cell_of_row _ _ 2 _ _ (0, 0) (heap_alloc_new wr (.cells #[.int .i64 kind, .int .i64 num, .int .i64 x, .bool raw] 37))
      simp only [List.getElem?_toArray, List.getElem?_cons_zero, List.getElem?_cons_succ] at r0 r1 r2
      have hnb := i64_hi wn; have hxb := i64_hi wx
      have hnn : (now : Int) ≤ 49500 := by omega
      clear b3 wn wx hbl HT HB
      go_upto_if 50 with (fail)
      have h9 : (num.tmod 12).natAbs = num.natAbs % 12 := Int.natAbs_tmod num 12
      have hq : -11 ≤ num.tmod 12 ∧ num.tmod 12 ≤ 11 := by omega
      clear h9
      generalize num.tmod 12 = q at *
      generalize hw3 : wr.alloc (.cells #[.int .i64 kind, .int .i64 num, .int .i64 x, .bool raw] 37) = w3 at *
      clear hw3 q0 q1 q2 q3 hg r1 hnb
      generalize wr.heap.size = g9 at *
      go_cut [10] from 32 to 52 (fun s wx => ∃ p : Nat, s = .int .i64 (p : Int) ∧ p < 12 ∧ w3 = wx)
      case first =>
        as_aux_lemma =>
          by_cases hneg : q < 0
          · obtain ⟨p, hp⟩ : ∃ p : Nat, (p : Int) = -q := ⟨(-q).toNat, by omega⟩
            go_wp2_with fail
            go_meet
            case rel => exact ⟨p, by rw [hp], by omega, rfl⟩
          · obtain ⟨p, hp⟩ : ∃ p : Nat, (p : Int) = q := ⟨q.toNat, by omega⟩
            have hneg2 : decide (q < 0) = false := by simp; omega
            go_wp2_with fail
            go_meet
            case rel => exact ⟨p, by rw [hp], by omega, rfl⟩
      case rest =>
        obtain ⟨p, rfl, hp, rfl⟩ := hcut
        clear hq
        go_upto_if 57 with (fail)
        have h9 : (x.tmod 100).natAbs = x.natAbs % 100 := Int.natAbs_tmod x 100
        have hq : -99 ≤ x.tmod 100 ∧ x.tmod 100 ≤ 99 := by omega
        clear h9
        generalize x.tmod 100 = y at *
        clear r2 hxb
        go_cut [11] from 32 to 59 (fun s wx => ∃ z : Nat, s = .int .i64 (z : Int) ∧ z ≤ 99 ∧ w3 = wx)
        case first =>
          as_aux_lemma =>
            by_cases hneg : y < 0
            · obtain ⟨p, hp⟩ : ∃ p : Nat, (p : Int) = -y := ⟨(-y).toNat, by omega⟩
              go_wp2_with fail
              go_meet
              case rel => exact ⟨p, by rw [hp], by omega, rfl⟩
            · obtain ⟨p, hp⟩ : ∃ p : Nat, (p : Int) = y := ⟨y.toNat, by omega⟩
              have hneg2 : decide (y < 0) = false := by simp; omega
              go_wp2_with fail
              go_meet
              case rel => exact ⟨p, by rw [hp], by omega, rfl⟩
        case rest =>
          obtain ⟨z, rfl, hz, rfl⟩ := hcut
          clear hq
          obtain ⟨now2, hn2⟩ : ∃ m : Nat, now + z = m := ⟨_, rfl⟩
          have hn2b : now2 ≤ (k + 1) * 99 := by omega
          have hn2c : now2 ≤ 49599 := by omega
          have hzi : (z : Int) ≤ 99 := by omega
          have hpi : (p : Int) < 12 := by omega
          have hpi0 : (0 : Int) ≤ (p : Int) := by omega
          have hsum : (now : Int) + (z : Int) = (now2 : Int) := by omega
          clear hn2 hnow
          by_cases hk1 : kind = 1
          · subst hk1
            as_aux_lemma =>
              go_wp2_with fail
              refine (watch_any hp (now := now2) (by omega) w3 HT3.out).mono ?_; rintro e w4 ⟨x4, Bs4, S4, rfl, h4, t4⟩
              have HB4 := Lib.hid (turned_below HB3.out t4 HB3.out.size (fun q hq => Nat.le_trans hb1 (HT3.out.det.blocks q hq).1))
              have H4 := Lib.hid h4
              clear h4 t4
              go_wp2_with fail
              go_roundw
              case rel => exact ⟨k + 1, now2, Bs4, S4, f, rfl, by go_num, by omega, by omega, hn2b, H4.out, HB4.out⟩
              case measure => simp [intOf]; omega
          · by_cases hk2 : kind = 2
            · subst hk2
              as_aux_lemma =>
                go_wp2_with fail
                refine (leave_any hp w3 HT3.out).mono ?_; rintro e w4 ⟨x4, rfl, h4, t4⟩
                have HB4 := Lib.hid (turned_below HB3.out t4 HB3.out.size (fun q hq => Nat.le_trans hb1 (HT3.out.det.blocks q hq).1))
                have ha4 := HT3.out.arr.keep t4.keep HT3.out.apart
                have H5 := Lib.hid (Tst.store h4 ha4 HT3.out.apart HT3.out.tell HT3.out.low)
                have d0 := ha4.at_ hp
                have d1 := ha4.fr p
                have KB := Lib.hid ((Keep.setCell w4 ⟨ga, p, none⟩ (.bool false)).below (B := W.heap.size) HB4.out.size (by simpa using hga))
                clear h4 t4 ha4
                go_wp2_with fail
                go_roundw
                case rel => exact ⟨k + 1, now2, Bs, _, _, rfl, by go_num, by omega, by omega, hn2b, H5.out, HB4.out.trans KB.out⟩
                case measure => simp [intOf]; omega
            · by_cases hk3 : kind = 3
              · subst hk3
                as_aux_lemma =>
                  go_wp2_with fail
                  refine (beat_any hp (now := now2) (by omega) w3 HT3.out).mono ?_; rintro e w4 ⟨x4, S4, rfl, h4, t4⟩
                  have HB4 := Lib.hid (turned_below HB3.out t4 HB3.out.size (fun q hq => Nat.le_trans hb1 (HT3.out.det.blocks q hq).1))
                  have H4 := Lib.hid h4
                  clear h4 t4
                  go_wp2_with fail
                  go_roundw
                  case rel => exact ⟨k + 1, now2, Bs, S4, f, rfl, by go_num, by omega, by omega, hn2b, H4.out, HB4.out⟩
                  case measure => simp [intOf]; omega
              · have e1 : (kind == 1) = false := by simpa using hk1
                have e2 : (kind == 2) = false := by simpa using hk2
                have e3 : (kind == 3) = false := by simpa using hk3
                clear hk1 hk2 hk3
                as_aux_lemma =>
                  go_wp2_with fail
                  refine (changes_yes (now := now2) (by omega) w3 HT3.out.det).mono ?_; rintro e w4 ⟨v4, rfl, o4, h4, t4⟩
                  obtain ⟨a4, c4, rfl, _, _⟩ := owns_shape o4
                  have HB4 := Lib.hid (turned_below HB3.out t4 HB3.out.size (fun q hq => Nat.le_trans hb1 (HT3.out.det.blocks q hq).1))
                  have A4 := Lib.hid (HT3.out.arr.keep t4.keep HT3.out.apart)
                  have O4 := Lib.hid o4; have H4 := Lib.hid h4
                  have hgl : ga < w3.heap.size := HT3.out.arr.lt
                  obtain ⟨M, hM⟩ : ∃ M, (chs S now2).length = M := ⟨_, rfl⟩
                  have hM12 : M ≤ 12 := by
                    obtain ⟨_, _, hd⟩ := HT3.out.det
                    have := chs_len S now2
                    have := hd.few
                    omega
                  have HMM := Lib.hid hM
                  rw [hM] at O4 ⊢
                  have hMi : (M : Int) ≤ 12 := by omega
                  clear o4 h4 t4 hM
                  go_wp2_with fail
                  go_loopw [13] (fun v13 wq => ∃ j : Nat, v13 = .int .i64 (j : Int) ∧ j ≤ M ∧ Arr wq ga (foldB f ((chs S now2).take j)) ∧ Keep [ga] w4 wq) (fun v13 _ => M - (intOf v13).toNat)
                  case atStart => exact ⟨0, rfl, by omega, A4.out, Keep.refl _ _⟩
                  case round =>
                    obtain ⟨j, rfl, hj, hA, hK⟩ := hrel
                    by_cases hjl : j < M
                    · obtain ⟨c, hc0⟩ : ∃ c, (chs S now2)[j]? = some c := ⟨_, List.getElem?_eq_getElem (by rw [HMM.out]; exact hjl)⟩
                      obtain ⟨pc, hpc, hpc12, hne⟩ := HT3.out.tell.next HT3.out.inc HT3.out.low hc0
                      have hown := owns_keep O4.out hK (fun g hg hm => by have := (O4.out.lt g hg).1; simp at hm; omega)
                      obtain ⟨gC, vC, rfl, _, _, hv0, hcell0⟩ := owns_at hown (j * 2) (by omega)
                      obtain ⟨gC', vC', hgC', _, _, hv1, hcell1⟩ := owns_at hown (j * 2 + 1) (by omega)
                      obtain ⟨hq0, hq1⟩ := chc_at hc0
                      rw [hq0] at hv0; rw [hq1] at hv1
                      cases hv0; cases hv1
                      cases hgC'
                      obtain ⟨c1, cb⟩ := c
                      simp only at hpc hne hcell0 hcell1
                      subst hpc
                      have hbit := hA.at_ hpc12
                      have hfz := hA.fr pc
                      have hnx := take_next hc0
                      have hset := hA.set pc cb
                      generalize hfj : foldB f ((chs S now2).take j) pc = fb at *
                      have HSET := Lib.hid hset; have HNX := Lib.hid hnx; have HK := Lib.hid hK
                      have hji : (0 : Int) ≤ (j : Int) := by omega
                      have hji2 : (j : Int) < (M : Int) := by omega
                      have hpi1 : decide ((pc : Int) < 0) = false := by simp
                      have hpi2 : decide ((11 : Int) < (pc : Int)) = false := by simp; omega
                      have hpi3 : (pc : Int) < 12 := by omega
                      have hpi4 : (0 : Int) ≤ (pc : Int) := by omega
                      have kc0 := cell_regrown hcell0; have kc1 := cell_regrown hcell1; have kb := cell_regrown hbit
                      clear hset hnx hK hown hq0 hq1 hc0 hfj hcell0 hcell1
                      go_wp2_with fail
                      refine wp_region_quiet_below (by kernel_rfl) (by kernel_rfl) ?_
                      repeat (go_big_quiet_step (fail))
                      refine wpQuiet_nil ?_
                      intro _ hw'
                      obtain ⟨⟨dq, osq⟩, hw''⟩ := hw'
                      subst hw''
                      have lk := below_regrown wr dq osq
                      have HA5 := Lib.hid (hA.below lk)
                      have K5 := Lib.hid (HK.out.trans (Keep.of_below lk _))
                      have d0 := kc0 dq osq
                      have d1 := kc1 dq osq
                      clear kc0 kc1 kb lk hA hbit hfz HSET HK
                      generalize grow (redrawn wr dq) osq = w5 at *
                      have kc0 := cell_regrown d0; have kc1 := cell_regrown d1
                      clear d0 d1
                      go_wp2_with fail
                      refine region_tail 11 (by kernel_rfl) (by kernel_rfl) ?_
                      simp only [List.take_succ_cons, List.take_zero, List.drop_succ_cons, List.drop_zero]
                      repeat (go_big_quiet_step (fail))
                      refine wpQuiet_nil ?_
                      intro _ hw'
                      obtain ⟨⟨dq, osq⟩, hw''⟩ := hw'
                      subst hw''
                      have lk := below_regrown w5 dq osq
                      have hA6 := HA5.out.below lk
                      have K6 := Lib.hid (K5.out.trans (Keep.of_below lk _))
                      clear kc0 kc1 lk HA5 K5
                      generalize grow (redrawn w5 dq) osq = w6 at *
                      have d0 := hA6.at_ hpc12
                      have f0 := hA6.fr pc
                      have HA7 := Lib.hid (hA6.set pc cb)
                      have K7 := Lib.hid (K6.out.trans (Keep.setCell w6 ⟨ga, pc, none⟩ (.bool cb)))
                      clear hA6 K6
                      go_wp2_with fail
                      go_roundw
                      case rel => exact ⟨j + 1, by go_num, by omega, by rw [HNX.out, foldB_app]; exact HA7.out, K7.out⟩
                      case measure => simp [intOf]; omega
                    · obtain rfl : j = M := by omega
                      have htk : (chs S now2).take j = chs S now2 := by rw [← HMM.out, List.take_length]
                      rw [htk] at hA
                      have HA := Lib.hid hA
                      have H5 := Lib.hid (H4.out.keep hK (fun q hq hm => HT3.out.apart (by simp at hm; exact hm ▸ hq)))
                      have HB5 := Lib.hid (HB4.out.trans (hK.below (B := W.heap.size) HB4.out.size (by simpa using hga)))
                      have TA := Lib.hid (HT3.out.tell.all HT3.out.inc HT3.out.low now2)
                      clear hA hK
                      go_wp2_with fail
                      have hinc5 := inc_judged HT3.out.inc now2
                      have hlow5 := HT3.out.low.judged now2
                      refine (suspects_yes (now := now2) (by omega) wr H5.out).mono ?_; rintro e w6 ⟨v6, rfl, o6, b6⟩
                      obtain ⟨a6, c6, rfl, _, _⟩ := owns_shape o6
                      have HA6 := Lib.hid (HA.out.below b6)
                      have H6 := Lib.hid (H5.out.below b6)
                      have HB6 := Lib.hid (below_next HB5.out b6)
                      have HIN := Lib.hid (fun q (hq : q < 12) => bads_in (p := q) HT3.out.inc now2 TA.out hq)
                      have HSO := Lib.hid (bads_sorted hinc5 now2)
                      have HLO := Lib.hid (bads_low hlow5 now2)
                      have HCN := Lib.hid (chs_none (S := S) now2)
                      have HJT := Lib.hid (judged_twice (S := S) now2)
                      have C6 := Lib.hid (changes_yes (now := now2) (by omega) w6 H6.out)
                      rw [HCN.out, HJT.out] at C6
                      have HTA := Lib.hid (fun (w : World) (Bs' : List Nat) (hd : Det w w0.heap.size hn Bs' (S.map fun n => n.judged now2) 8) (ha : Arr w ga (foldB f (chs S now2))) (hap : ga ∉ Bs') => (show Tst w w0.heap.size hn ga Bs' _ _ from ⟨hd, ha, hap, TA.out, hlow5, hinc5⟩))
                      generalize bads (S.map fun n => n.judged now2) now2 = s at *
                      generalize hS2 : (S.map fun n => n.judged now2) = S2 at *
                      generalize foldB f (chs S now2) = f2 at *
                      obtain ⟨L, hL⟩ : ∃ L, s.length = L := ⟨_, rfl⟩
                      rw [hL] at o6 ⊢
                      have HL := Lib.hid hL
                      have hL12 : L ≤ 12 := by
                        have h1 := cnt_end (s := s) (fun x hx => (HLO.out x hx).2)
                        have h2 : ∀ q : Nat, q ≤ 12 → cnt s q ≤ q := by
                          intro q
                          induction q with
                          | zero => intro _; rw [cnt_zero (fun x hx => (HLO.out x hx).1)]; omega
                          | succ q ih =>
                            intro hq
                            have := ih (by omega)
                            by_cases hm : (q : Int) ∈ s
                            · rw [(cnt_yes HSO.out hm).2]; omega
                            · rw [cnt_no hm]; omega
                        have := h2 12 (by omega)
                        omega
                      have hLi : (L : Int) ≤ 12 := by omega
                      have O6 := Lib.hid o6
                      clear o6 b6 hL hS2 hinc5 hlow5 TA HA H5 HB5 hlt
                      go_wp2_with fail
                      go_loopw [15, 16] (fun v15 v16 wq => ∃ q : Nat, v16 = .int .i64 (q : Int) ∧ q ≤ 12 ∧ v15 = .int .i64 (cnt s q : Int) ∧ wq = w6) (fun _ v16 _ => 12 - (intOf v16).toNat)
                      case atStart => exact ⟨0, rfl, by omega, by rw [cnt_zero (fun x hx => (HLO.out x hx).1)]; rfl, rfl⟩
                      case round =>
                        obtain ⟨q, rfl, hq, rfl, rfl⟩ := hrel
                        have hcl := cnt_le s q
                        by_cases hql : q < 12
                        · have hbit := HA6.out.at_ hql
                          have hin := HIN.out q hql
                          have hqi : (0 : Int) ≤ (q : Int) := by omega
                          have hqi2 : (q : Int) < 12 := by omega
                          cases hfq : f2 q
                          · rw [hfq] at hbit hin
                            have hno : (q : Int) ∉ s := fun h => by have := hin.2 h; cases this
                            have hcn := cnt_no hno
                            clear hin hno
                            go_wp2_with fail
                            go_roundw
                            case rel => exact ⟨q + 1, by go_num, by omega, by rw [hcn], trivial⟩
                            case measure => simp [intOf]; omega
                          · rw [hfq] at hbit hin
                            obtain ⟨hat, hcn⟩ := cnt_yes HSO.out (hin.1 rfl)
                            have hcL : cnt s q < L := by
                              have := (List.getElem?_eq_some_iff.1 hat).1
                              rw [← HL.out]; exact this
                            obtain ⟨g6, v6, rfl, _, _, hv6, hcell6⟩ := owns_at O6.out (cnt s q) (by omega)
                            rw [List.getElem?_map, hat] at hv6
                            cases hv6
                            have HCN2 := Lib.hid hcn
                            generalize cnt s q = cq at *
                            have hci : (0 : Int) ≤ (cq : Int) := by omega
                            have hci2 : (cq : Int) < (L : Int) := by omega
                            have hge : decide ((L : Int) ≤ (cq : Int)) = false := by simp; omega
                            have hqq : ((q : Int) != (q : Int)) = false := by simp
                            clear hin hcn hat
                            go_wp2_with fail
                            go_roundw
                            case rel => exact ⟨q + 1, by go_num, by omega, by rw [HCN2.out]; go_num, trivial⟩
                            case measure => simp [intOf]; omega
                        · obtain rfl : q = 12 := by omega
                          rw [cnt_end (fun x hx => (HLO.out x hx).2), HL.out]
                          have hne : ((L : Int) != (L : Int)) = false := by simp
                          go_wp2_with fail
                          refine C6.out.mono ?_; rintro e w7 ⟨v7, rfl, o7, h7, t7⟩
                          obtain ⟨a7, c7, rfl, _, _⟩ := owns_shape o7
                          have H7 := Lib.hid (HTA.out w7 Bs h7 (HA6.out.keep t7.keep HT3.out.apart) HT3.out.apart)
                          have HB7 := Lib.hid (turned_below HB6.out t7 HB6.out.size (fun q hq => Nat.le_trans hb1 (H6.out.blocks q hq).1))
                          clear o7 h7 t7
                          go_wp2_with fail
                          go_roundw
                          case rel => exact ⟨k + 1, now2, Bs, _, _, rfl, by go_num, by omega, by omega, hn2b, H7.out, HB7.out⟩
                          case measure => simp [intOf]; omega
    · have HB := Lib.hid hbl
      clear hbl
      rcases Nat.lt_or_ge k n with hkn | hkn
      · have hk30 : k = 500 := by omega
        subst hk30
        have hki2 : (500 : Int) < (n : Int) := by omega
        rw [show ((500 : Nat) : Int) = 500 from rfl]
        clear hk hk5 hlt hnow hkn
        go_wp2_with fail
        go_ret
        exact ⟨rfl, HB.out⟩
      · obtain rfl : k = n := by omega
        clear hk hk5 hlt hnow hkn
        go_wp2_with fail
        go_ret
        exact ⟨rfl, HB.out⟩
end Go.Proofs.Ytlfnkplgjlpaaaa
