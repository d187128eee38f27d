/- pdqsort. -/
import Derived.Test.YthanjfnpohhebaaBrk
import Derived.Sort.Walk13a
import Derived.Sort.AssemblyPlain
import Derived.Sort.LotB
namespace Go.Proofs.Ythanjfnpohhebaa
open Go.RowKit Go.Sort
set_option linter.unusedVariables false

theorem swo_ltN : SWO ltN where
  irrefl x := by simp [ltN]
  trans x y z h1 h2 := by simp only [ltN, decide_eq_true_eq] at *; omega
  ntrans x y z h1 h2 := by simp only [ltN, decide_eq_false_iff_not] at *; omega
theorem hint_two {h : Hint} (e : hintN h = 2) : h = .decreasing := by cases h <;> simp [hintN] at e ⊢
/-- an eighth, by Go's whole numbers -/
theorem an_eighth {x y p q : Nat} (h1 : q ≤ p) (h2 : y ≤ x) : decide (((x : Int) - (y : Int)) / 8 ≤ (p : Int) - (q : Int)) = decide (p - q ≥ (x - y) / 8) :=
  decide_eq_decide.2 ⟨fun h => by omega, fun h => by omega⟩

/-- what is known where a round begins -/
structure PdqAt (w0 w : World) (blk off n A B LIM : Nat) (D : Array Nat) (a b lim : Nat) (wb wp : Bool) (d : Array Nat) : Prop where
  ab : a ≤ b
  bn : b ≤ n
  len : b - a ≤ B - A
  lm : lim ≤ LIM
  size : d.size = n
  bel : Go.Sort.Below ltN a b d
  row : Rw w0 w blk off d
  eq : pdq ltN d a b lim wb wp = D

set_option maxRecDepth 1000000 in
set_option maxHeartbeats 16000000 in
theorem pdq_any : ∀ (N : Nat) (w0 w : World) (blk off cap n a b limit : Nat) (d : Array Nat), b - a < N → d.size = n → Rw w0 w blk off d → a ≤ b → b ≤ n → n < 4611686018427387904 → limit < 4611686018427387904 → Go.Sort.Below ltN a b d →
    Calls Try.prog 42 #[.slice (some ⟨blk, off, none⟩) n cap, .int .i64 (a : Int), .int .i64 (b : Int), .int .i64 (limit : Int)] w (RwEnd w0 blk off (pdq ltN d a b limit true true)) := by
  intro N
  induction N with
  | zero => intro _ _ _ _ _ _ _ _ _ _ h; exact absurd h (Nat.not_lt_zero _)
  | succ N ih =>
    intro w0 w blk off cap n a b limit d hN hd h hab hb hn hlimit hBel0
    have IH := Lib.hid ih
    obtain ⟨D, hD⟩ : ∃ D, D = pdq ltN d a b limit true true := ⟨_, rfl⟩
    rw [← hD]
    have ST := Lib.hid (show PdqAt w0 w blk off n a b limit D a b limit true true d from ⟨hab, hb, Nat.le_refl _, Nat.le_refl _, hd, hBel0, h, hD.symm⟩)
    clear ih hd h hBel0 hD
    go_enter Try.func42, Try.ntmps42
    go_wp2_with fail
    go_loopw [1, 2, 3, 8, 9] (fun s1 s2 s3 s8 s9 wr => ∃ (a' b' lim : Nat) (wb wp : Bool) (dk : Array Nat), s1 = .int .i64 (a' : Int) ∧ s2 = .int .i64 (b' : Int) ∧ s3 = .int .i64 (lim : Int) ∧ s8 = .bool wb ∧ s9 = .bool wp ∧ PdqAt w0 wr blk off n a b limit D a' b' lim wb wp dk)
      (fun s1 s2 s3 s8 s9 _ => (intOf s2 - intOf s1).toNat)
    case atStart => exact ⟨a, b, limit, true, true, d, rfl, rfl, rfl, rfl, rfl, ST.out⟩
    case round =>
      clear ST
      obtain ⟨a', b', lim, wb, wp, dk, rfl, rfl, rfl, rfl, rfl, P⟩ := hrel
      have hab' := P.ab; have hb' := P.bn; have hlen := P.len; have hlim := P.lm
      have P := Lib.hid P
      by_cases h12 : b' - a' ≤ 12
      · have h12z : (b' : Int) - (a' : Int) ≤ 12 := by omega
        go_wp2_with fail
        refine (ins_any w0 wr blk off cap n a' b' dk P.out.size P.out.row hab' hb' hn).mono ?_
        rintro e w1 ⟨rfl, r1⟩
        have R1 := Lib.hid r1; clear r1
        go_wp2_with fail
        refine bodyPost_ret (results_none rfl _ _ _) rfl ⟨rfl, ?_⟩
        rw [← P.out.eq, pdq_small h12]
        exact R1.out
      · have h12z : ¬ ((b' : Int) - (a' : Int) ≤ 12) := by omega
        by_cases hl0 : lim = 0
        · subst hl0
          go_wp2_with fail
          refine (heap_any w0 wr blk off cap n a' b' dk P.out.size P.out.row hab' hb' hn).mono ?_
          rintro e w1 ⟨rfl, r1⟩
          have R1 := Lib.hid r1; clear r1
          go_wp2_with fail
          refine bodyPost_ret (results_none rfl _ _ _) rfl ⟨rfl, ?_⟩
          rw [← P.out.eq, pdq_heap h12 rfl]
          exact R1.out
        · have hl0z : ¬ ((lim : Int) = 0) := by omega
          have F := rd_facts (lt := ltN) (d := dk) (a := a') (b := b') (limit := lim) (wb := wb) (wp := wp) swo_ltN partialInsertionSort_holds reverseRange_holds (show a' < b' by omega) (show b' ≤ dk.size by rw [P.out.size]; exact hb') P.out.bel
          rw [P.out.size] at F
          obtain ⟨s1, B1, hc1, s2, B2, hpv, s3, B3⟩ := F
          have S1 := Lib.hid s1; have S2 := Lib.hid s2; have S3 := Lib.hid s3; have BB := Lib.hid B3
          obtain ⟨hc11, hc12⟩ := hc1
          obtain ⟨hpv1, hpv2⟩ := hpv
          clear s1 B1 s2 B2 s3 B3
          go_upto_if 35 with fail
          go_cut [3] from 19 to 133 (fun s3 wx => s3 = .int .i64 ((rd ltN dk a' b' lim wb wp).lim : Int) ∧ Rw w0 wx blk off (rd ltN dk a' b' lim wb wp).d1)
          case first =>
            cases wb
            · go_wp2_with fail
              refine (break_any w0 wr blk off cap n a' b' dk P.out.size P.out.row (by omega) hb' hn).mono ?_
              rintro e w1 ⟨rfl, r1⟩
              have R1 := Lib.hid r1; clear r1
              go_wp2_with fail
              go_meet
              case rel => exact ⟨show Value.int .i64 ((lim : Int) - 1) = Value.int .i64 ((lim - 1 : Nat) : Int) by congr 1; omega, R1.out⟩
            · go_wp2_with fail
              go_meet
              case rel => exact ⟨rfl, P.out.row⟩
          case rest =>
            obtain ⟨rfl, hr1⟩ := hcut
            have R1 := Lib.hid hr1; clear hr1
            have hc3 : a' + 13 ≤ b' := by omega
            have CH := Lib.hid (choose_any w0 wc blk off cap n a' b' (rd ltN dk a' b' lim wb wp).d1 S1.out R1.out hc3 hb' hn)
            have rl := rd_lim_le (lt := ltN) (d := dk) (a := a') (b := b') (limit := lim) (wb := wb) (wp := wp)
            have HE := Lib.hid (show choosePivot ltN (rd ltN dk a' b' lim wb wp).d1 a' b' = (rd ltN dk a' b' lim wb wp).c from rfl)
            rw [HE.out] at CH
            clear HE
            go_upto_if 50 with (go_at_call 47; refine CH.out.mono ?_; rintro e w2 ⟨rfl, b2, r2⟩; replace r2 := Lib.hid r2; clear b2)
            clear CH R1
            go_cut [11, 12] from 19 to 133 (fun s11 s12 wx => s11 = .int .i64 ((rd ltN dk a' b' lim wb wp).pivot : Int) ∧ s12 = .int .i64 (hintN (rd ltN dk a' b' lim wb wp).hint) ∧ Rw w0 wx blk off (rd ltN dk a' b' lim wb wp).d2)
            case first =>
              by_cases hh : (rd ltN dk a' b' lim wb wp).c.2 = .decreasing
              · have hcode : hintN (rd ltN dk a' b' lim wb wp).c.2 = 2 := by rw [hh]; rfl
                obtain ⟨e2, epv, eht⟩ := rd_dec hh
                have RV := Lib.hid (rev_any w0 w2 blk off cap n a' b' (rd ltN dk a' b' lim wb wp).d1 S1.out r2.out hab' hb' hn)
                have EPV := Lib.hid epv; have EHT := Lib.hid eht; have E2 := Lib.hid e2
                clear e2 epv eht
                go_wp2_with fail
                refine RV.out.mono ?_
                rintro e w3 ⟨rfl, r3⟩
                have R3 := Lib.hid r3; clear r3
                go_wp2_with fail
                go_meet
                case rel => exact ⟨by rw [EPV.out]; congr 1; omega, by rw [EHT.out]; rfl, by rw [E2.out]; exact R3.out⟩
              · have hcode : ¬ (hintN (rd ltN dk a' b' lim wb wp).c.2 = 2) := fun h => hh (hint_two h)
                obtain ⟨e2, epv, eht⟩ := rd_not hh
                have EPV := Lib.hid epv; have EHT := Lib.hid eht; have E2 := Lib.hid e2
                clear e2 epv eht
                go_wp2_with fail
                go_meet
                case rel => exact ⟨by rw [EPV.out], by rw [EHT.out], by rw [E2.out]; exact r2.out⟩
            case rest =>
              obtain ⟨rfl, rfl, hr3⟩ := hcut
              have R3 := Lib.hid hr3; clear hr3 r2
              go_upto_region 15 with fail
              go_cut [12, 68] from 19 to 133 (fun s12 s68 wx => s12 = .int .i64 (hintN (rd ltN dk a' b' lim wb wp).hint) ∧ s68 = .bool (wb && wp && decide ((rd ltN dk a' b' lim wb wp).hint = .increasing)) ∧ wx = wc)
              case first =>
                cases wb <;> cases wp <;> cases hh3 : (rd ltN dk a' b' lim _ _).hint <;>
                  (have hcode3 := congrArg hintN hh3
                   simp only [hintN] at hcode3
                   go_wp2_with fail
                   go_meet
                   exact ⟨by simp [hh3, hintN], by simp [hh3, hintN], rfl⟩)
              case rest =>
                obtain ⟨rfl, rfl, rfl⟩ := hcut
                go_upto_if 68 with fail
                go_cut [] from 19 to 133 (fun wx => (rd ltN dk a' b' lim wb wp).pi.2 = false ∧ Rw w0 wx blk off (rd ltN dk a' b' lim wb wp).pi.1)
                case first =>
                  cases h68 : (wb && wp && decide ((rd ltN dk a' b' lim wb wp).hint = .increasing))
                  · have epi := Lib.hid (rd_pi_no h68)
                    go_wp2_with fail
                    go_meet
                    case rel => exact ⟨by rw [epi.out], by rw [epi.out]; exact R3.out⟩
                  · have epi := Lib.hid (rd_pi_yes h68)
                    have PN := pins_any w0 wc blk off cap n a' b' (rd ltN dk a' b' lim wb wp).d2 S2.out R3.out (by omega) hb' hn
                    rw [← epi.out] at PN
                    have DN := Lib.hid (fun h => pdq_done (lt := ltN) (d := dk) (a := a') (b := b') (limit := lim) (wb := wb) (wp := wp) h12 hl0 h)
                    cases hpp : (rd ltN dk a' b' lim wb wp).pi.2
                    · rw [hpp] at PN
                      have HPP := Lib.hid hpp
                      replace PN := Lib.hid PN
                      clear hpp
                      go_wp2_with fail
                      refine PN.out.mono ?_
                      rintro e w4 ⟨rfl, r4⟩
                      have R4 := Lib.hid r4; clear r4
                      go_wp2_with fail
                      go_meet
                      case rel => exact ⟨by first | exact HPP.out | rfl, R4.out⟩
                    · rw [hpp] at PN
                      have HPP := Lib.hid hpp
                      replace PN := Lib.hid PN
                      clear hpp
                      go_wp2_with fail
                      refine PN.out.mono ?_
                      rintro e w4 ⟨rfl, r4⟩
                      have R4 := Lib.hid r4; clear r4
                      go_wp2_with fail
                      refine bodyPost_ret (results_none rfl _ _ _) rfl ⟨rfl, ?_⟩
                      rw [← P.out.eq, DN.out HPP.out]
                      exact R4.out
                case rest =>
                  obtain ⟨hp2, hr5⟩ := hcut
                  have R5 := Lib.hid hr5
                  have HP2 := Lib.hid hp2
                  obtain ⟨G, hG, hcw, hfw⟩ := hr5.fam S3.out
                  have HG := Lib.hid hG
                  clear hr5 hp2 hG R3
                  go_upto_region 17 with fail
                  go_cut [87] from 19 to 133 (fun s87 wx => s87 = .bool (decide (a' > 0) && !ltN (rd ltN dk a' b' lim wb wp).pi.1[a' - 1]! (rd ltN dk a' b' lim wb wp).pi.1[(rd ltN dk a' b' lim wb wp).pivot]!) ∧ Rw w0 wx blk off (rd ltN dk a' b' lim wb wp).pi.1)
                  case first =>
                    rcases Nat.eq_zero_or_pos a' with ha0 | ha0
                    · have ha0z : decide ((a' : Int) > 0) = false := decide_eq_false (by omega)
                      go_big_quiet (first | (go_at_call 50; refine Calls.quiet_of_same (less_any _ _ _)))
                      go_wp2_with fail
                      go_meet
                      case rel => exact ⟨by rw [← HG.out, ← HG.out]; simp [ha0], R5.out.drewN nq⟩
                    · have ha0z : (a' : Int) > 0 := by omega
                      go_big_quiet (first | (go_at_call 50; refine Calls.quiet_of_same (less_any _ _ _)))
                      go_wp2_with fail
                      go_meet
                      case rel => exact ⟨by rw [← HG.out, ← HG.out]; simp [ha0], R5.out.drewN nq⟩
                  case rest =>
                    obtain ⟨rfl, hr6⟩ := hcut
                    have R6 := Lib.hid hr6
                    clear hr6 hcw hfw R5
                    cases h87 : (decide (a' > 0) && !ltN (rd ltN dk a' b' lim wb wp).pi.1[a' - 1]! (rd ltN dk a' b' lim wb wp).pi.1[(rd ltN dk a' b' lim wb wp).pivot]!)
                    · obtain ⟨mid, ap, d4, hx⟩ : ∃ mid ap d4, partition ltN (rd ltN dk a' b' lim wb wp).pi.1 a' b' (rd ltN dk a' b' lim wb wp).pivot = (mid, ap, d4) := ⟨(partition ltN (rd ltN dk a' b' lim wb wp).pi.1 a' b' (rd ltN dk a' b' lim wb wp).pivot).1, (partition ltN (rd ltN dk a' b' lim wb wp).pi.1 a' b' (rd ltN dk a' b' lim wb wp).pivot).2.1, (partition ltN (rd ltN dk a' b' lim wb wp).pi.1 a' b' (rd ltN dk a' b' lim wb wp).pivot).2.2, rfl⟩
                      obtain ⟨r1, r2, r3, r4, r5, r6, r7⟩ := round_part swo_ltN (partition_holds ltN) hpv1 hpv2 (show b' ≤ (rd ltN dk a' b' lim wb wp).pi.1.size by rw [S3.out]; exact hb') BB.out hx
                      have PT := part_any w0 wc blk off cap n a' b' (rd ltN dk a' b' lim wb wp).pivot (rd ltN dk a' b' lim wb wp).pi.1 S3.out R6.out hpv1 hpv2 hb' hn
                      rw [hx] at PT
                      replace PT := Lib.hid PT
                      have z4 : d4.size = n := r3.trans S3.out
                      have rl := rd_lim_le (lt := ltN) (d := dk) (a := a') (b := b') (limit := lim) (wb := wb) (wp := wp)
                      by_cases h4 : mid - a' < b' - mid
                      · have h4z : (mid : Int) - (a' : Int) < (b' : Int) - (mid : Int) := by omega
                        have CL := Lib.hid (fun wz (hz : Rw w0 wz blk off d4) => IH.out w0 wz blk off cap n a' mid (rd ltN dk a' b' lim wb wp).lim d4 (by omega) z4 hz r1 (by omega) hn (by omega) r4)
                        obtain ⟨pL, sL⟩ := pdq_sorts ltN swo_ltN d4 a' mid (rd ltN dk a' b' lim wb wp).lim true true r1 (by omega) r4
                        have NX := Lib.hid (fun wz (hz : Rw w0 wz blk off (pdq ltN d4 a' mid (rd ltN dk a' b' lim wb wp).lim true true)) => show PdqAt w0 wz blk off n a b limit D (mid + 1) b' (rd ltN dk a' b' lim wb wp).lim (decide (mid - a' ≥ (b' - a') / 8)) ap (pdq ltN d4 a' mid (rd ltN dk a' b' lim wb wp).lim true true) from
                          ⟨by omega, hb', by omega, Nat.le_trans rl hlim, pL.1.trans z4, (r6 _ pL sL).1, hz, by rw [← P.out.eq, pdq_left h12 hl0 HP2.out h87 (by rw [hx]; exact ⟨r1, r2⟩) (by rw [hx]; exact h4), hx]⟩)
                        have E8 := Lib.hid (congrArg Value.bool (an_eighth (x := b') (y := a') (p := mid) (q := a') (by omega) (by omega)))
                        have EM := Lib.hid (show (mid : Int) + 1 = ((mid + 1 : Nat) : Int) by omega)
                        clear hx h87 r3 r4 r5 r6 r7 pL sL z4
                        go_wp2_with fail
                        refine PT.out.mono ?_
                        rintro e w7 ⟨rfl, r8⟩
                        have R7 := Lib.hid r8; clear r8
                        go_wp2_with fail
                        refine (CL.out w7 R7.out).mono ?_
                        rintro e w8 ⟨rfl, r9⟩
                        have R8 := Lib.hid r9; clear r9
                        go_wp2_with fail
                        go_roundw
                        case rel => exact ⟨mid + 1, b', _, _, ap, _, by first | rfl | (congr 1; exact EM.out), rfl, rfl, E8.out, rfl, NX.out _ R8.out⟩
                        case measure => simp [intOf]; omega
                      · have h4z : ¬ ((mid : Int) - (a' : Int) < (b' : Int) - (mid : Int)) := by omega
                        have CL := Lib.hid (fun wz (hz : Rw w0 wz blk off d4) => IH.out w0 wz blk off cap n (mid + 1) b' (rd ltN dk a' b' lim wb wp).lim d4 (by omega) z4 hz (by omega) hb' hn (by omega) r5)
                        obtain ⟨pL, sL⟩ := pdq_sorts ltN swo_ltN d4 (mid + 1) b' (rd ltN dk a' b' lim wb wp).lim true true (by omega) (by omega) r5
                        have NX := Lib.hid (fun wz (hz : Rw w0 wz blk off (pdq ltN d4 (mid + 1) b' (rd ltN dk a' b' lim wb wp).lim true true)) => show PdqAt w0 wz blk off n a b limit D a' mid (rd ltN dk a' b' lim wb wp).lim (decide (b' - mid ≥ (b' - a') / 8)) ap (pdq ltN d4 (mid + 1) b' (rd ltN dk a' b' lim wb wp).lim true true) from
                          ⟨r1, by omega, by omega, Nat.le_trans rl hlim, pL.1.trans z4, (r7 _ pL sL).1, hz, by rw [← P.out.eq, pdq_right h12 hl0 HP2.out h87 (by rw [hx]; exact ⟨r1, r2⟩) (by rw [hx]; exact h4), hx]⟩)
                        have E8 := Lib.hid (congrArg Value.bool (an_eighth (x := b') (y := a') (p := b') (q := mid) (by omega) (by omega)))
                        have EM := Lib.hid (show (mid : Int) + 1 = ((mid + 1 : Nat) : Int) by omega)
                        clear hx h87 r3 r4 r5 r6 r7 pL sL z4
                        go_wp2_with fail
                        refine PT.out.mono ?_
                        rintro e w7 ⟨rfl, r8⟩
                        have R7 := Lib.hid r8; clear r8
                        go_wp2_with fail
                        rw [EM.out]
                        refine (CL.out w7 R7.out).mono ?_
                        rintro e w8 ⟨rfl, r9⟩
                        have R8 := Lib.hid r9; clear r9
                        go_wp2_with fail
                        go_roundw
                        case rel => exact ⟨a', mid, _, _, ap, _, rfl, rfl, rfl, E8.out, rfl, NX.out _ R8.out⟩
                        case measure => simp [intOf]; omega
                    · have h87' := h87
                      simp only [Bool.and_eq_true, decide_eq_true_eq, Bool.not_eq_true'] at h87'
                      obtain ⟨mid, d4, hx⟩ : ∃ mid d4, partitionEqual ltN (rd ltN dk a' b' lim wb wp).pi.1 a' b' (rd ltN dk a' b' lim wb wp).pivot = (mid, d4) := ⟨(partitionEqual ltN (rd ltN dk a' b' lim wb wp).pi.1 a' b' (rd ltN dk a' b' lim wb wp).pivot).1, (partitionEqual ltN (rd ltN dk a' b' lim wb wp).pi.1 a' b' (rd ltN dk a' b' lim wb wp).pivot).2, rfl⟩
                      obtain ⟨r1, r2, r3, r4, _⟩ := round_eq swo_ltN (partitionEqual_holds ltN) h87'.1 hpv1 hpv2 (show b' ≤ (rd ltN dk a' b' lim wb wp).pi.1.size by rw [S3.out]; exact hb') BB.out h87'.2 hx
                      have PQ := parteq_any w0 wc blk off cap n a' b' (rd ltN dk a' b' lim wb wp).pivot (rd ltN dk a' b' lim wb wp).pi.1 S3.out R6.out hpv1 hpv2 hb' hn
                      rw [hx] at PQ
                      replace PQ := Lib.hid PQ
                      have NX := Lib.hid (fun wz (hz : Rw w0 wz blk off d4) => show PdqAt w0 wz blk off n a b limit D mid b' (rd ltN dk a' b' lim wb wp).lim wb wp d4 from
                        ⟨r2, hb', by omega, Nat.le_trans rd_lim_le hlim, r3.trans S3.out, r4, hz, by rw [← P.out.eq, pdq_eq h12 hl0 HP2.out h87 (by rw [hx]; exact ⟨r1, r2⟩), hx]⟩)
                      clear hx h87 h87' r3 r4
                      go_wp2_with fail
                      refine PQ.out.mono ?_
                      rintro e w7 ⟨rfl, r7⟩
                      have R7 := Lib.hid r7; clear r7
                      go_wp2_with fail
                      go_roundw
                      case rel => exact ⟨mid, b', _, wb, wp, d4, rfl, rfl, rfl, rfl, rfl, NX.out _ R7.out⟩
                      case measure => simp [intOf]; omega
end Go.Proofs.Ythanjfnpohhebaa
