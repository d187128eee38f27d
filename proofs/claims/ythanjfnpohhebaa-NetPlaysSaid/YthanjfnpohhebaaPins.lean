/- partialInsertionSort. -/
import Derived.Test.YthanjfnpohhebaaPart
import Derived.Sort.WalkA6
import Derived.Deep.Cut
import Derived.Deep.CutRange
namespace Go.Proofs.Ythanjfnpohhebaa
open Go.RowKit Go.Sort
set_option linter.unusedVariables false

set_option maxRecDepth 100000 in
set_option maxHeartbeats 16000000 in
theorem pins_any (w0 w : World) (blk off cap n a b : Nat) (d : Array Nat) (hd : d.size = n) (h : Rw w0 w blk off d) (hab : a < b) (hbn : b ≤ n) (hn : n < 4611686018427387904) :
    Calls Try.prog 49 #[.slice (some ⟨blk, off, none⟩) n cap, .int .i64 (a : Int), .int .i64 (b : Int)] w
      (fun e w' => e = .returned (.bool (partialInsertionSort ltN d a b).2) ∧ Rw w0 w' blk off (partialInsertionSort ltN d a b).1) := by
  have H := Lib.hid h; have HD := Lib.hid hd
  clear h hd
  obtain ⟨PI, hPI⟩ : ∃ P, P = partialInsertionSort ltN d a b := ⟨_, rfl⟩
  rw [← hPI]
  replace hPI := Lib.hid (show partialIns ltN a b (5 - 0) (a + 1) d = PI from hPI.symm)
  go_enter Try.func49, Try.ntmps49
  go_wp2_with fail
  go_loopw [7, 8, 9, 10] (fun vi vs v9 v10 wr => ∃ (s i : Nat) (dk : Array Nat), vs = .int .i64 (s : Int) ∧ vi = .int .i64 (i : Int) ∧ s ≤ 5 ∧ a < i ∧ i ≤ b ∧ dk.size = n ∧ Rw w0 wr blk off dk ∧ partialIns ltN a b (5 - s) i dk = PI)
    (fun vi vs v9 v10 _ => 5 - (intOf vs).toNat)
  case atStart => exact ⟨0, a + 1, d, rfl, by go_num, by omega, by omega, by omega, HD.out, H.out, hPI.out⟩
  case round =>
    obtain ⟨s, i, dk, rfl, rfl, hs5, hai, hib, hsk, hrk, hO⟩ := hrel
    have HO := Lib.hid hO; have HR := Lib.hid hrk; have HSK := Lib.hid hsk
    obtain ⟨G, hG, _, _⟩ := hrk.fam hsk
    have HG := Lib.hid hG
    clear hO hrk hsk hG H HD hPI
    by_cases hs : s < 5
    · have hs' : decide ((s : Int) < 5) = true := decide_eq_true (by omega)
      go_wp2_with fail
      try rw [hs']
      clear hs'
      go_loopw [7] (fun vi w1 => ∃ (i' : Nat), vi = .int .i64 (i' : Int) ∧ i ≤ i' ∧ i' ≤ b ∧ Rw w0 w1 blk off dk ∧ Hid (scanSorted ltN dk b i' = scanSorted ltN dk b i))
        (fun vi _ => b - (intOf vi).toNat)
      case atStart => exact ⟨i, rfl, Nat.le_refl _, hib, HR.out, rfl⟩
      case round =>
        clear HR
        obtain ⟨i', rfl, hii, hij', hr1, hsc⟩ := hrel
        obtain ⟨hcw, hfw⟩ := hr1.at_ HSK.out HG.out
        have HR1 := Lib.hid hr1; clear hr1
        by_cases hle : i' < b
        · by_cases h50 : b - a < 50
          · have h50' : (b : Int) - (a : Int) < 50 := by omega
            go_wp2_with fail
            go_big_quiet (first | (go_at_call 50; refine Calls.quiet_of_same (less_any _ _ _)))
            go_wp2_with fail
            · have ht0 : (!ltN (G i') (G (i' - 1))) = true := by first | assumption | (simp [ltN]; omega)
              have ht : ltN (G i') (G (i' - 1)) = false := by simpa using ht0
              have HT := Lib.hid (scanSorted_go ltN dk b i' hle (by rw [← HG.out, ← HG.out]; exact ht))
              clear h50' h50 ht ht0
              go_roundw
              case rel => exact ⟨i' + 1, by go_num, by omega, by omega, HR1.out.drewN nq, HT.out.symm.trans hsc.out⟩
              case measure => simp [intOf]; omega
            · have ht0 : (!ltN (G i') (G (i' - 1))) = false := by first | assumption | (simp [ltN]; omega)
              have ht : ltN (G i') (G (i' - 1)) = true := by simpa using ht0
              have HK := Lib.hid (hsc.out.symm.trans (scanSorted_stop ltN dk b i' (Or.inr (by rw [← HG.out, ← HG.out]; exact ht))))
              have E := Lib.hid (HO.out.symm.trans (pi_short ltN a b s i dk hs (by rw [HK.out]; omega) h50))
              have HR2 := Lib.hid (HR1.out.drewN nq)
              go_ret
              exact ⟨by rw [E.out]; rfl, by rw [E.out]; exact HR2.out⟩
          · have h50' : ¬ (b : Int) - (a : Int) < 50 := by omega
            go_wp2_with fail
            go_big_quiet (first | (go_at_call 50; refine Calls.quiet_of_same (less_any _ _ _)))
            go_wp2_with fail
            · have ht0 : (!ltN (G i') (G (i' - 1))) = true := by first | assumption | (simp [ltN]; omega)
              have ht : ltN (G i') (G (i' - 1)) = false := by simpa using ht0
              have HT := Lib.hid (scanSorted_go ltN dk b i' hle (by rw [← HG.out, ← HG.out]; exact ht))
              clear h50' h50 ht ht0
              go_roundw
              case rel => exact ⟨i' + 1, by go_num, by omega, by omega, HR1.out.drewN nq, HT.out.symm.trans hsc.out⟩
              case measure => simp [intOf]; omega
            · have ht0 : (!ltN (G i') (G (i' - 1))) = false := by first | assumption | (simp [ltN]; omega)
              have ht : ltN (G i') (G (i' - 1)) = true := by simpa using ht0
              have HK := Lib.hid (hsc.out.symm.trans (scanSorted_stop ltN dk b i' (Or.inr (by rw [← HG.out, ← HG.out]; exact ht))))
              have hr2 := HR1.out.drewN nq
              clear ht ht0 hcw hfw hsc HR1
              generalize wr.drewN nq = W3 at hr2 ⊢
              have E := Lib.hid ((pi_go ltN a b s i i' dk hs HK.out (by omega) h50).symm.trans HO.out)
              obtain ⟨hc3, hf3⟩ := hr2.at_ HSK.out HG.out
              have SW := hr2.swap 1 i' (i' - 1) (by rw [HSK.out]; omega) (by rw [HSK.out]; omega)
              rw [← HG.out, ← HG.out] at SW
              have SWH := Lib.hid SW
              have SZ := Lib.hid (show (swp dk i' (i' - 1)).size = n by rw [size_swp]; exact HSK.out)
              clear SW hr2
              obtain ⟨dm, hdm⟩ : ∃ x, x = swp dk i' (i' - 1) := ⟨_, rfl⟩
              rw [← hdm] at SWH SZ
              have FD := Lib.hid (show fixUp ltN b i' (fixDown ltN a i' dm) = fixUp ltN b i' (fixDown ltN a i' (swp dk i' (i' - 1))) by rw [hdm])
              clear hdm
              go_region
              go_upto_if 61 with fail
              go_cut [9] from 13 to 132 (fun v9 wx => ∃ d3 : Array Nat, Hid (d3 = fixDown ltN a i' dm) ∧ d3.size = n ∧ Rw w0 wx blk off d3)
              case first =>
                by_cases h2 : 2 ≤ i' - a
                · have h2' : (2 : Int) ≤ (i' : Int) - (a : Int) := by omega
                  have ED := Lib.hid (show fixDown ltN a i' dm = shiftDown ltN (i' - 1) dm by unfold fixDown; rw [if_pos h2])
                  go_wp2_with fail
                  go_loopw [9] (fun vj wq => ∃ (j : Nat) (dj : Array Nat), vj = .int .i64 (j : Int) ∧ j < i' ∧ dj.size = n ∧ Rw w0 wq blk off dj ∧ Hid (shiftDown ltN j dj = fixDown ltN a i' dm)) (fun vj _ => (intOf vj).toNat)
                  case atStart => exact ⟨i' - 1, dm, by go_num, by omega, SZ.out, SWH.out, ED.out.symm⟩
                  case round =>
                    clear SWH SZ hc3 hf3
                    obtain ⟨j, dj, rfl, hji, hsj, hrj, hE⟩ := hrel
                    have HJ := Lib.hid hrj; have HSJ := Lib.hid hsj
                    obtain ⟨Gj, hGj, hcw, hfw⟩ := hrj.fam hsj
                    have HGj := Lib.hid hGj
                    clear hrj hsj hGj
                    rcases Nat.eq_zero_or_pos j with rfl | hjp
                    · go_wp2_with fail
                      go_meet
                      case rel => exact ⟨dj, hE.out.symm.trans (shiftDown_stop ltN 0 dj (Or.inl rfl)) |>.symm ▸ rfl, HSJ.out, HJ.out⟩
                    · have hjp' : (1 : Int) ≤ (j : Int) := by omega
                      go_wp2_with fail
                      go_big_quiet (first | (go_at_call 50; refine Calls.quiet_of_same (less_any _ _ _)))
                      go_wp2_with fail
                      · have ht : ltN (Gj j) (Gj (j - 1)) = false := by first | assumption | (simp [ltN]; omega) | (simpa using (by assumption : (!ltN (Gj j) (Gj (j - 1))) = true))
                        have EE := Lib.hid (hE.out.symm.trans (shiftDown_stop ltN j dj (Or.inr (by rw [← HGj.out, ← HGj.out]; exact ht))))
                        have HR2 := Lib.hid (HJ.out.drewN nq)
                        go_meet
                        case rel => exact ⟨dj, EE.out.symm, HSJ.out, HR2.out⟩
                      · have ht : ltN (Gj j) (Gj (j - 1)) = true := by first | assumption | (simp [ltN]; omega) | (simpa using (by assumption : (!ltN (Gj j) (Gj (j - 1))) = false))
                        have EE := Lib.hid ((shiftDown_go ltN j dj hjp (by rw [← HGj.out, ← HGj.out]; exact ht)).symm.trans hE.out)
                        have hr4 := HJ.out.drewN nq
                        clear ht hcw hfw hE HJ
                        generalize wr.drewN nq = W4 at hr4 ⊢
                        obtain ⟨hc4, hf4⟩ := hr4.at_ HSJ.out HGj.out
                        have SW := hr4.swap 1 j (j - 1) (by rw [HSJ.out]; omega) (by rw [HSJ.out]; omega)
                        rw [← HGj.out, ← HGj.out] at SW
                        have SWJ := Lib.hid SW
                        clear SW hr4
                        go_region
                        all_goals go_wp2_with fail
                        go_roundw
                        case rel => exact ⟨j - 1, swp dj j (j - 1), by go_num, by omega, by rw [size_swp]; exact HSJ.out, SWJ.out, EE.out⟩
                        case measure => simp [intOf]; omega
                · have h2' : ¬ (2 : Int) ≤ (i' : Int) - (a : Int) := by omega
                  have ED := Lib.hid (show fixDown ltN a i' dm = dm by unfold fixDown; rw [if_neg h2])
                  go_wp2_with fail
                  go_meet
                  case rel => exact ⟨dm, ED.out.symm, SZ.out, SWH.out⟩
              case rest =>
                obtain ⟨d3, hd3, hs3, hr3⟩ := hcut
                have H3 := Lib.hid hr3; have HS3 := Lib.hid hs3
                clear hr3 hs3 hc3 hf3 SWH SZ
                by_cases h2 : 2 ≤ b - i'
                · have h2' : (2 : Int) ≤ (b : Int) - (i' : Int) := by omega
                  have ED := Lib.hid (show fixUp ltN b i' d3 = shiftUp ltN b (i' + 1) d3 by unfold fixUp; rw [if_pos h2])
                  go_wp2_with fail
                  go_loopw [10] (fun vj wq => ∃ (j : Nat) (dj : Array Nat), vj = .int .i64 (j : Int) ∧ i' < j ∧ j ≤ b ∧ dj.size = n ∧ Rw w0 wq blk off dj ∧ Hid (shiftUp ltN b j dj = fixUp ltN b i' d3)) (fun vj _ => b - (intOf vj).toNat)
                  case atStart => exact ⟨i' + 1, d3, by go_num, by omega, by omega, HS3.out, H3.out, ED.out.symm⟩
                  case round =>
                    obtain ⟨j, dj, rfl, hji, hjb, hsj, hrj, hE⟩ := hrel
                    have HJ := Lib.hid hrj; have HSJ := Lib.hid hsj
                    obtain ⟨Gj, hGj, hcw, hfw⟩ := hrj.fam hsj
                    have HGj := Lib.hid hGj
                    clear hrj hsj hGj
                    by_cases hjp : j < b
                    · go_wp2_with fail
                      go_big_quiet (first | (go_at_call 50; refine Calls.quiet_of_same (less_any _ _ _)))
                      go_wp2_with fail
                      · have ht : ltN (Gj j) (Gj (j - 1)) = false := by first | assumption | (simp [ltN]; omega) | (simpa using (by assumption : (!ltN (Gj j) (Gj (j - 1))) = true))
                        have EE := Lib.hid (hE.out.symm.trans (shiftUp_stop ltN b j dj (Or.inr (by rw [← HGj.out, ← HGj.out]; exact ht))))
                        have HR2 := Lib.hid (HJ.out.drewN nq)
                        go_wp2_with fail
                        go_roundw
                        case rel => exact ⟨s + 1, i', dj, by go_num, rfl, by omega, by omega, by omega, HSJ.out, HR2.out, by rw [show dj = fixUp ltN b i' d3 from EE.out.symm, hd3.out, FD.out]; exact E.out⟩
                        case measure => simp [intOf]; omega
                      · have ht : ltN (Gj j) (Gj (j - 1)) = true := by first | assumption | (simp [ltN]; omega) | (simpa using (by assumption : (!ltN (Gj j) (Gj (j - 1))) = false))
                        have EE := Lib.hid ((shiftUp_go ltN b j dj hjp (by rw [← HGj.out, ← HGj.out]; exact ht)).symm.trans hE.out)
                        have hr4 := HJ.out.drewN nq
                        clear ht hcw hfw hE HJ
                        generalize wr.drewN nq = W4 at hr4 ⊢
                        obtain ⟨hc4, hf4⟩ := hr4.at_ HSJ.out HGj.out
                        have SW := hr4.swap 1 j (j - 1) (by rw [HSJ.out]; omega) (by rw [HSJ.out]; omega)
                        rw [← HGj.out, ← HGj.out] at SW
                        have SWJ := Lib.hid SW
                        clear SW hr4
                        go_region
                        all_goals go_wp2_with fail
                        go_roundw
                        case rel => exact ⟨j + 1, swp dj j (j - 1), by go_num, by omega, by omega, by rw [size_swp]; exact HSJ.out, SWJ.out, EE.out⟩
                        case measure => simp [intOf]; omega
                    · have EE := Lib.hid (hE.out.symm.trans (shiftUp_stop ltN b j dj (Or.inl hjp)))
                      go_wp2_with fail
                      go_roundw
                      case rel => exact ⟨s + 1, i', dj, by go_num, rfl, by omega, by omega, by omega, HSJ.out, HJ.out, by rw [show dj = fixUp ltN b i' d3 from EE.out.symm, hd3.out, FD.out]; exact E.out⟩
                      case measure => simp [intOf]; omega
                · have h2' : ¬ (2 : Int) ≤ (b : Int) - (i' : Int) := by omega
                  have ED := Lib.hid (show fixUp ltN b i' d3 = d3 by unfold fixUp; rw [if_neg h2])
                  go_wp2_with fail
                  go_roundw
                  case rel => exact ⟨s + 1, i', d3, by go_num, rfl, by omega, by omega, by omega, HS3.out, H3.out, by rw [show d3 = fixUp ltN b i' d3 from ED.out.symm, hd3.out, FD.out]; exact E.out⟩
                  case measure => simp [intOf]; omega
        · go_wp2_with fail
          go_big_quiet (first | (go_at_call 50; refine Calls.quiet_of_same (less_any _ _ _)))
          obtain rfl : i' = b := by omega
          have HK := Lib.hid (hsc.out.symm.trans (scanSorted_stop ltN dk i' i' (Or.inl hle)))
          have E := Lib.hid (HO.out.symm.trans (pi_true ltN a i' s i dk hs HK.out))
          have HR2 := Lib.hid (HR1.out.drewN nq)
          clear hcw hfw hsc HR1
          go_wp2_with fail
          go_ret
          exact ⟨by rw [E.out]; rfl, by rw [E.out]; exact HR2.out⟩
    · obtain rfl : s = 5 := by omega
      have E := Lib.hid (HO.out.symm.trans (pi_end ltN a b i dk))
      go_wp2_with fail
      go_ret
      exact ⟨by rw [E.out]; rfl, by rw [E.out]; exact HR.out⟩
end Go.Proofs.Ythanjfnpohhebaa
