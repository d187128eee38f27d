/- partition (gen_part.py). -/
import Derived.Test.YthanjfnpohhebaaPeq
import Derived.Sort.WalkC4
namespace Go.Proofs.Ythanjfnpohhebaa
open Go.RowKit Go.Sort
set_option linter.unusedVariables false

set_option maxRecDepth 100000 in
set_option maxHeartbeats 16000000 in
theorem part_any (w0 w : World) (blk off cap n a b p : Nat) (d : Array Nat) (hd : d.size = n) (h : Rw w0 w blk off d) (hap : a ≤ p) (hpb : p < b) (hbn : b ≤ n) (hn : n < 4611686018427387904) :
    Calls Try.prog 52 #[.slice (some ⟨blk, off, none⟩) n cap, .int .i64 (a : Int), .int .i64 (b : Int), .int .i64 (p : Int)] w
      (fun e w' => e = .returned (.tuple #[.int .i64 ((partition ltN d a b p).1 : Int), .bool (partition ltN d a b p).2.1]) ∧ Rw w0 w' blk off (partition ltN d a b p).2.2) := by
  obtain ⟨G0, hG0, hcw, hfw⟩ := h.fam hd
  have hla : a < n := by omega
  have hlp : p < n := by omega
  obtain ⟨v', hy'⟩ := cell?_setCell_some (w := w) (p := ⟨blk, off + a, none⟩) (x := .int .u64 (G0 p : Int)) (q := ⟨blk, off + p, none⟩) (hcw p hlp)
  have SW := h.swap 1 a p (by omega) (by omega)
  rw [← hG0, ← hG0] at SW
  obtain ⟨dk, hdk⟩ : ∃ x, x = swp d a p := ⟨_, rfl⟩
  rw [← hdk] at SW
  have HR := Lib.hid SW
  have HSK := Lib.hid (show dk.size = n by rw [hdk, size_swp]; exact hd)
  obtain ⟨i, hi⟩ : ∃ x, x = a + 1 := ⟨_, rfl⟩
  obtain ⟨j, hj⟩ : ∃ x, x = b - 1 := ⟨_, rfl⟩
  have EI := Lib.hid (show (a : Int) + 1 = (i : Int) by omega)
  have EJ := Lib.hid (show (b : Int) - 1 = (j : Int) by omega)
  have hij : i ≤ j + 1 := by omega
  have hai : a < i := by omega
  have hjb : j < b := by omega
  replace hdk := Lib.hid hdk
  replace hi := Lib.hid hi
  replace hj := Lib.hid hj
  clear h hG0 hd SW
  obtain ⟨G, hG⟩ : ∃ G : Nat → Nat, ∀ t, G t = dk[t]! := ⟨fun t => dk[t]!, fun _ => rfl⟩
  have HG := Lib.hid hG; clear hG
  go_enter Try.func52, Try.ntmps52
  go_wp2_with fail
  go_region
  go_wp2_with fail
  rw [EI.out, EJ.out]
  clear hcw hfw hy'
  go_loopw [10] (fun vi w1 => ∃ (i' : Nat), vi = .int .i64 (i' : Int) ∧ i ≤ i' ∧ i' ≤ j + 1 ∧ Rw w0 w1 blk off dk ∧ Hid (scanUp (fun x => ltN x dk[a]!) dk j i' = scanUp (fun x => ltN x dk[a]!) dk j i))
    (fun vi _ => j + 1 - (intOf vi).toNat)
  case atStart => exact ⟨i, rfl, Nat.le_refl _, hij, HR.out, rfl⟩
  case round =>
    clear HR
    obtain ⟨i', rfl, hii, hij', hr1, hsc⟩ := hrel
    obtain ⟨hcw, hfw⟩ := hr1.at_ HSK.out HG.out
    have HR1 := Lib.hid hr1; clear hr1
    by_cases hle : i' ≤ j
    · go_wp2_with fail
      go_big_quiet (first | (go_at_call 50; refine Calls.quiet_of_same (less_any _ _ _)))
      go_wp2_with fail
      · have ht : ltN (G i') (G a) = true := by first | assumption | (simp [ltN]; omega) | (simp [ltN]; assumption)
        have HT := Lib.hid (scanUp_go (fun x => ltN x dk[a]!) dk j i' hle (by rw [← HG.out a, ← HG.out i']; exact ht))
        go_roundw
        case rel => exact ⟨i' + 1, by go_num, by omega, by omega, HR1.out.drewN nq, HT.out.symm.trans hsc.out⟩
        case measure => simp [intOf]; omega
      · have ht : ltN (G i') (G a) = false := by first | assumption | (simp [ltN]; omega) | (simp [ltN]; assumption)
        have hi2 : Hid (i' = scanUp (fun x => ltN x dk[a]!) dk j i) := (scanUp_end (fun x => ltN x dk[a]!) dk j i' (Or.inr (by rw [← HG.out a, ← HG.out i']; exact ht))).symm.trans hsc.out
        have HR2 := Lib.hid (HR1.out.drewN nq)
        clear ht hcw hfw hsc HR1
        go_loopw [11] (fun vj w2 => ∃ (j' : Nat), vj = .int .i64 (j' : Int) ∧ j' ≤ j ∧ i' ≤ j' + 1 ∧ Rw w0 w2 blk off dk ∧ Hid (scanDown (fun x => !ltN x dk[a]!) dk i' j' = scanDown (fun x => !ltN x dk[a]!) dk i' j))
          (fun vj _ => (intOf vj).toNat)
        case atStart => exact ⟨j, rfl, Nat.le_refl _, hij', HR2.out, rfl⟩
        case round =>
          clear HR2
          obtain ⟨j', rfl, hjj, hij2, hr3, hsd⟩ := hrel
          obtain ⟨hcw, hfw⟩ := hr3.at_ HSK.out HG.out
          have HR3 := Lib.hid hr3; clear hr3
          by_cases hle2 : i' ≤ j'
          · go_wp2_with fail
            go_big_quiet (first | (go_at_call 50; refine Calls.quiet_of_same (less_any _ _ _)))
            go_wp2_with fail
            · have ht : (!ltN (G j') (G a)) = true := by first | assumption | (simp [ltN]; omega) | (simp [ltN]; assumption)
              have HT := Lib.hid (scanDown_go (fun x => !ltN x dk[a]!) dk i' j' hle2 (by omega) (by rw [← HG.out a, ← HG.out j']; exact ht))
              go_roundw
              case rel => exact ⟨j' - 1, by go_num, by omega, by omega, HR3.out.drewN nq, HT.out.symm.trans hsd.out⟩
              case measure => simp [intOf]; omega
            · have ht : (!ltN (G j') (G a)) = false := by first | assumption | (simp [ltN]; omega) | (simp [ltN]; assumption)
              have hj2 : Hid (j' = scanDown (fun x => !ltN x dk[a]!) dk i' j) := (scanDown_end (fun x => !ltN x dk[a]!) dk i' j' (Or.inr (by rw [← HG.out a, ← HG.out j']; exact ht))).symm.trans hsd.out
              have hr4 := HR3.out.drewN nq
              clear hcw hfw hsd ht HR3
              have hlt3 := part_scans_lt ltN a i j dk (by omega) hi2.out hj2.out hle2
              have hji : i' < n := by omega
              generalize wr.drewN nq = W3 at hr4 ⊢
              obtain ⟨hc3, hf3⟩ := hr4.at_ HSK.out HG.out
              have SW := hr4.swap 1 i' j' (by rw [HSK.out]; omega) (by rw [HSK.out]; omega)
              rw [← HG.out, ← HG.out] at SW
              have SWH := Lib.hid SW
              have SZ := Lib.hid (show (swp dk i' j').size = n by rw [size_swp]; exact HSK.out)
              obtain ⟨R0, hR0⟩ : ∃ R, R = partLoop ltN a (i' + 1) (j' - 1) (swp dk i' j') := ⟨_, rfl⟩
              replace hR0 := Lib.hid hR0
              have FIRST := Lib.hid (fun r (h : R0 = r) => (part_first_go ltN d a b p hi.out hj.out hdk.out hi2.out hj2.out (by omega)).trans (by rw [← hR0.out, h]))
              clear hr4 SW
              go_wp2_with fail
              go_region
              all_goals go_wp2_with fail
              go_loopw [10, 11] (fun vi vj wz => ∃ (x y : Nat) (dz : Array Nat), vi = .int .i64 (x : Int) ∧ vj = .int .i64 (y : Int) ∧ a < x ∧ x ≤ y + 1 ∧ y < b ∧ dz.size = n ∧ Rw w0 wz blk off dz ∧
                  partLoop ltN a x y dz = R0)
                (fun vi vj _ => (intOf vj).toNat + 1 - (intOf vi).toNat)
              case atStart => exact ⟨i' + 1, j' - 1, swp dk i' j', by go_num, by go_num, by omega, by omega, by omega, SZ.out, SWH.out, hR0.out.symm⟩
              case round =>
                clear hc3 hf3 SZ SWH hi2 hj2
                obtain ⟨x, y, dz, rfl, rfl, hai2, hij3, hjb2, hsk2, hrk2, hO⟩ := hrel
                have HO := Lib.hid hO; have HR := Lib.hid hrk2; have HSK2 := Lib.hid hsk2
                obtain ⟨Gz, hGz, _, _⟩ := hrk2.fam hsk2
                have HGz := Lib.hid hGz
                clear hO hrk2 hsk2 hGz
                go_wp2_with fail
                go_loopw [10] (fun vi w1 => ∃ (x' : Nat), vi = .int .i64 (x' : Int) ∧ x ≤ x' ∧ x' ≤ y + 1 ∧ Rw w0 w1 blk off dz ∧ Hid (scanUp (fun z => ltN z dz[a]!) dz y x' = scanUp (fun z => ltN z dz[a]!) dz y x))
                  (fun vi _ => y + 1 - (intOf vi).toNat)
                case atStart => exact ⟨x, rfl, Nat.le_refl _, hij3, HR.out, rfl⟩
                case round =>
                  clear HR
                  obtain ⟨x', rfl, hii, hiy', hr1, hsc⟩ := hrel
                  obtain ⟨hcw, hfw⟩ := hr1.at_ HSK2.out HGz.out
                  have HR1 := Lib.hid hr1; clear hr1
                  by_cases hle : x' ≤ y
                  · go_wp2_with fail
                    go_big_quiet (first | (go_at_call 50; refine Calls.quiet_of_same (less_any _ _ _)))
                    go_wp2_with fail
                    · have ht : ltN (Gz x') (Gz a) = true := by first | assumption | (simp [ltN]; omega) | (simp [ltN]; assumption)
                      have HT := Lib.hid (scanUp_go (fun z => ltN z dz[a]!) dz y x' hle (by rw [← HGz.out a, ← HGz.out x']; exact ht))
                      go_roundw
                      case rel => exact ⟨x' + 1, by go_num, by omega, by omega, HR1.out.drewN nq, HT.out.symm.trans hsc.out⟩
                      case measure => simp [intOf]; omega
                    · have ht : ltN (Gz x') (Gz a) = false := by first | assumption | (simp [ltN]; omega) | (simp [ltN]; assumption)
                      have hx2 : Hid (x' = scanUp (fun z => ltN z dz[a]!) dz y x) := (scanUp_end (fun z => ltN z dz[a]!) dz y x' (Or.inr (by rw [← HGz.out a, ← HGz.out x']; exact ht))).symm.trans hsc.out
                      have HR2 := Lib.hid (HR1.out.drewN nq)
                      clear ht hcw hfw hsc HR1
                      go_loopw [11] (fun vj w2 => ∃ (y' : Nat), vj = .int .i64 (y' : Int) ∧ y' ≤ y ∧ x' ≤ y' + 1 ∧ Rw w0 w2 blk off dz ∧ Hid (scanDown (fun z => !ltN z dz[a]!) dz x' y' = scanDown (fun z => !ltN z dz[a]!) dz x' y))
                        (fun vj _ => (intOf vj).toNat)
                      case atStart => exact ⟨y, rfl, Nat.le_refl _, hiy', HR2.out, rfl⟩
                      case round =>
                        clear HR2
                        obtain ⟨y', rfl, hjj, hij2, hr3, hsd⟩ := hrel
                        obtain ⟨hcw, hfw⟩ := hr3.at_ HSK2.out HGz.out
                        have HR3 := Lib.hid hr3; clear hr3
                        by_cases hle2 : x' ≤ y'
                        · go_wp2_with fail
                          go_big_quiet (first | (go_at_call 50; refine Calls.quiet_of_same (less_any _ _ _)))
                          go_wp2_with fail
                          · have ht : (!ltN (Gz y') (Gz a)) = true := by first | assumption | (simp [ltN]; omega) | (simp [ltN]; assumption)
                            have HT := Lib.hid (scanDown_go (fun z => !ltN z dz[a]!) dz x' y' hle2 (by omega) (by rw [← HGz.out a, ← HGz.out y']; exact ht))
                            go_roundw
                            case rel => exact ⟨y' - 1, by go_num, by omega, by omega, HR3.out.drewN nq, HT.out.symm.trans hsd.out⟩
                            case measure => simp [intOf]; omega
                          · have ht : (!ltN (Gz y') (Gz a)) = false := by first | assumption | (simp [ltN]; omega) | (simp [ltN]; assumption)
                            have hy2 : Hid (y' = scanDown (fun z => !ltN z dz[a]!) dz x' y) := (scanDown_end (fun z => !ltN z dz[a]!) dz x' y' (Or.inr (by rw [← HGz.out a, ← HGz.out y']; exact ht))).symm.trans hsd.out
                            have hr4 := HR3.out.drewN nq
                            clear hcw hfw hsd ht HR3
                            have hlt3 := part_scans_lt ltN a x y dz (by omega) hx2.out hy2.out hle2
                            have hji : x' < n := by omega
                            generalize wr.drewN nq = W3 at hr4 ⊢
                            obtain ⟨hc3, hf3⟩ := hr4.at_ HSK2.out HGz.out
                            have SW := hr4.swap 1 x' y' (by rw [HSK2.out]; omega) (by rw [HSK2.out]; omega)
                            rw [← HGz.out, ← HGz.out] at SW
                            have SWH := Lib.hid SW
                            have SZ := Lib.hid (show (swp dz x' y').size = n by rw [size_swp]; exact HSK2.out)
                            have EQ := Lib.hid ((part_go ltN a x y dz hx2.out hy2.out (by omega)).symm.trans HO.out)
                            clear hr4 SW
                            go_wp2_with fail
                            go_region
                            all_goals go_wp2_with fail
                            all_goals go_roundw
                            case rel => exact ⟨x' + 1, y' - 1, swp dz x' y', by go_num, by go_num, by omega, by omega, by omega, SZ.out, SWH.out, EQ.out⟩
                            case measure => simp [intOf]; omega
                        ·
                          go_wp2_with fail
                          go_big_quiet (first | (go_at_call 50; refine Calls.quiet_of_same (less_any _ _ _)))
                          have hy2 : Hid (y' = scanDown (fun z => !ltN z dz[a]!) dz x' y) := (scanDown_end (fun z => !ltN z dz[a]!) dz x' y' (Or.inl (by omega))).symm.trans hsd.out
                          have hgt : y' < x' := by omega
                          have hr4 := HR3.out.drewN nq
                          clear hcw hfw hsd HR3
                          have hb0 : a ≤ y' := by omega
                          have EQ := Lib.hid ((FIRST.out _ ((part_break ltN a x y dz hx2.out hy2.out hgt).symm.trans HO.out).symm))
                          generalize wr.drewN nq = W3 at hr4 ⊢
                          obtain ⟨hc3, hf3⟩ := hr4.at_ HSK2.out HGz.out
                          have hja : y' < n := by omega
                          obtain ⟨v3, hy3⟩ := cell?_setCell_some (w := W3) (p := ⟨blk, off + y', none⟩) (x := .int .u64 (Gz a : Int)) (q := ⟨blk, off + a, none⟩) (hc3 a (by omega))
                          have SW := hr4.swap 1 y' a (by rw [HSK2.out]; omega) (by rw [HSK2.out]; omega)
                          rw [← HGz.out, ← HGz.out] at SW
                          have SWH := Lib.hid SW
                          clear hr4 SW
                          go_wp2_with fail
                          go_region
                          all_goals go_wp2_with fail
                          go_ret2
                          exact ⟨by rw [EQ.out]; rfl, by rw [EQ.out]; exact SWH.out⟩
                  · go_wp2_with fail
                    go_big_quiet (first | (go_at_call 50; refine Calls.quiet_of_same (less_any _ _ _)))
                    go_wp2_with fail
                    have hx2 : Hid (x' = scanUp (fun z => ltN z dz[a]!) dz y x) := (scanUp_end (fun z => ltN z dz[a]!) dz y x' (Or.inl hle)).symm.trans hsc.out
                    have HR2 := Lib.hid (HR1.out.drewN nq)
                    clear hcw hfw hsc HR1
                    go_loopw [11] (fun vj w2 => ∃ (y' : Nat), vj = .int .i64 (y' : Int) ∧ y' ≤ y ∧ x' ≤ y' + 1 ∧ Rw w0 w2 blk off dz ∧ Hid (scanDown (fun z => !ltN z dz[a]!) dz x' y' = scanDown (fun z => !ltN z dz[a]!) dz x' y))
                      (fun vj _ => (intOf vj).toNat)
                    case atStart => exact ⟨y, rfl, Nat.le_refl _, hiy', HR2.out, rfl⟩
                    case round =>
                      clear HR2
                      obtain ⟨y', rfl, hjj, hij2, hr3, hsd⟩ := hrel
                      obtain ⟨hcw, hfw⟩ := hr3.at_ HSK2.out HGz.out
                      have HR3 := Lib.hid hr3; clear hr3
                      have hle2 : ¬ x' ≤ y' := by omega
                      go_wp2_with fail
                      go_big_quiet (first | (go_at_call 50; refine Calls.quiet_of_same (less_any _ _ _)))
                      have hy2 : Hid (y' = scanDown (fun z => !ltN z dz[a]!) dz x' y) := (scanDown_end (fun z => !ltN z dz[a]!) dz x' y' (Or.inl (by omega))).symm.trans hsd.out
                      have hgt : y' < x' := by omega
                      have hr4 := HR3.out.drewN nq
                      clear hcw hfw hsd HR3
                      have hb0 : a ≤ y' := by omega
                      have EQ := Lib.hid ((FIRST.out _ ((part_break ltN a x y dz hx2.out hy2.out hgt).symm.trans HO.out).symm))
                      generalize wr.drewN nq = W3 at hr4 ⊢
                      obtain ⟨hc3, hf3⟩ := hr4.at_ HSK2.out HGz.out
                      have hja : y' < n := by omega
                      obtain ⟨v3, hy3⟩ := cell?_setCell_some (w := W3) (p := ⟨blk, off + y', none⟩) (x := .int .u64 (Gz a : Int)) (q := ⟨blk, off + a, none⟩) (hc3 a (by omega))
                      have SW := hr4.swap 1 y' a (by rw [HSK2.out]; omega) (by rw [HSK2.out]; omega)
                      rw [← HGz.out, ← HGz.out] at SW
                      have SWH := Lib.hid SW
                      clear hr4 SW
                      go_wp2_with fail
                      go_region
                      all_goals go_wp2_with fail
                      go_ret2
                      exact ⟨by rw [EQ.out]; rfl, by rw [EQ.out]; exact SWH.out⟩
          ·
            go_wp2_with fail
            go_big_quiet (first | (go_at_call 50; refine Calls.quiet_of_same (less_any _ _ _)))
            have hj2 : Hid (j' = scanDown (fun x => !ltN x dk[a]!) dk i' j) := (scanDown_end (fun x => !ltN x dk[a]!) dk i' j' (Or.inl (by omega))).symm.trans hsd.out
            have hgt : j' < i' := by omega
            have hr4 := HR3.out.drewN nq
            clear hcw hfw hsd HR3
            have hb0 : a ≤ j' := by omega
            have EQ := Lib.hid (part_first_break ltN d a b p hi.out hj.out hdk.out hi2.out hj2.out hgt)
            generalize wr.drewN nq = W3 at hr4 ⊢
            obtain ⟨hc3, hf3⟩ := hr4.at_ HSK.out HG.out
            have hja : j' < n := by omega
            obtain ⟨v3, hy3⟩ := cell?_setCell_some (w := W3) (p := ⟨blk, off + j', none⟩) (x := .int .u64 (G a : Int)) (q := ⟨blk, off + a, none⟩) (hc3 a (by omega))
            have SW := hr4.swap 1 j' a (by rw [HSK.out]; omega) (by rw [HSK.out]; omega)
            rw [← HG.out, ← HG.out] at SW
            have SWH := Lib.hid SW
            clear hr4 SW
            go_wp2_with fail
            go_region
            all_goals go_wp2_with fail
            go_ret2
            exact ⟨by rw [EQ.out]; rfl, by rw [EQ.out]; exact SWH.out⟩
    · go_wp2_with fail
      go_big_quiet (first | (go_at_call 50; refine Calls.quiet_of_same (less_any _ _ _)))
      go_wp2_with fail
      have hi2 : Hid (i' = scanUp (fun x => ltN x dk[a]!) dk j i) := (scanUp_end (fun x => ltN x dk[a]!) dk j i' (Or.inl hle)).symm.trans hsc.out
      have HR2 := Lib.hid (HR1.out.drewN nq)
      clear hcw hfw hsc HR1
      go_loopw [11] (fun vj w2 => ∃ (j' : Nat), vj = .int .i64 (j' : Int) ∧ j' ≤ j ∧ i' ≤ j' + 1 ∧ Rw w0 w2 blk off dk ∧ Hid (scanDown (fun x => !ltN x dk[a]!) dk i' j' = scanDown (fun x => !ltN x dk[a]!) dk i' j))
        (fun vj _ => (intOf vj).toNat)
      case atStart => exact ⟨j, rfl, Nat.le_refl _, hij', HR2.out, rfl⟩
      case round =>
        clear HR2
        obtain ⟨j', rfl, hjj, hij2, hr3, hsd⟩ := hrel
        obtain ⟨hcw, hfw⟩ := hr3.at_ HSK.out HG.out
        have HR3 := Lib.hid hr3; clear hr3
        have hle2 : ¬ i' ≤ j' := by omega
        go_wp2_with fail
        go_big_quiet (first | (go_at_call 50; refine Calls.quiet_of_same (less_any _ _ _)))
        have hj2 : Hid (j' = scanDown (fun x => !ltN x dk[a]!) dk i' j) := (scanDown_end (fun x => !ltN x dk[a]!) dk i' j' (Or.inl (by omega))).symm.trans hsd.out
        have hgt : j' < i' := by omega
        have hr4 := HR3.out.drewN nq
        clear hcw hfw hsd HR3
        have hb0 : a ≤ j' := by omega
        have EQ := Lib.hid (part_first_break ltN d a b p hi.out hj.out hdk.out hi2.out hj2.out hgt)
        generalize wr.drewN nq = W3 at hr4 ⊢
        obtain ⟨hc3, hf3⟩ := hr4.at_ HSK.out HG.out
        have hja : j' < n := by omega
        obtain ⟨v3, hy3⟩ := cell?_setCell_some (w := W3) (p := ⟨blk, off + j', none⟩) (x := .int .u64 (G a : Int)) (q := ⟨blk, off + a, none⟩) (hc3 a (by omega))
        have SW := hr4.swap 1 j' a (by rw [HSK.out]; omega) (by rw [HSK.out]; omega)
        rw [← HG.out, ← HG.out] at SW
        have SWH := Lib.hid SW
        clear hr4 SW
        go_wp2_with fail
        go_region
        all_goals go_wp2_with fail
        go_ret2
        exact ⟨by rw [EQ.out]; rfl, by rw [EQ.out]; exact SWH.out⟩
end Go.Proofs.Ythanjfnpohhebaa
