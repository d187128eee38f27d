/- partitionEqual. -/
import Derived.Test.YthanjfnpohhebaaChoose
import Derived.Sort.WalkC
namespace Go.Proofs.Ythanjfnpohhebaa
open Go.RowKit Go.Sort
set_option linter.unusedVariables false

theorem Rw.at_ {w0 w : World} {blk off n : Nat} {d : Array Nat} {G : Nat → Nat} (h : Rw w0 w blk off d) (hd : d.size = n) (hG : ∀ t, G t = d[t]!) : (∀ t, t < n → w.cell? ⟨blk, off + t, none⟩ = some (.int .u64 (G t : Int))) ∧ (∀ t, t < n → w.frozen? ⟨blk, off + t, none⟩ = false) :=
  ⟨fun t ht => by rw [hG]; exact h.cell t (by omega), fun t _ => h.fr t⟩
set_option maxRecDepth 100000 in
set_option maxHeartbeats 6400000 in
theorem parteq_any (w0 w : World) (blk off cap n a b p : Nat) (d : Array Nat) (hd : d.size = n) (h : Rw w0 w blk off d) (hap : a ≤ p) (hpb : p < b) (hbn : b ≤ n) (hn : n < 4611686018427387904) :
    Calls Try.prog 51 #[.slice (some ⟨blk, off, none⟩) n cap, .int .i64 (a : Int), .int .i64 (b : Int), .int .i64 (p : Int)] w
      (fun e w' => e = .returned (.int .i64 ((partitionEqual ltN d a b p).1 : Int)) ∧ Rw w0 w' blk off (partitionEqual ltN d a b p).2) := by
  obtain ⟨G0, hG0, hcw, hfw⟩ := h.fam hd
  have hla : a < n := by omega
  have hlp : p < n := by omega
  obtain ⟨v', hy'⟩ := cell?_setCell_some (w := w) (p := ⟨blk, off + a, none⟩) (x := .int .u64 (G0 p : Int)) (q := ⟨blk, off + p, none⟩) (hcw p hlp)
  have SW := h.swap 1 a p (by omega) (by omega)
  rw [← hG0, ← hG0] at SW
  have SWH := Lib.hid SW
  have SZ := Lib.hid (show (swp d a p).size = n by rw [size_swp]; exact hd)
  clear h hG0 hd SW
  go_enter Try.func51, Try.ntmps51
  go_wp2_with fail
  go_region
  go_wp2_with fail
  go_loopw [9, 10] (fun vi vj wr => ∃ (i j : Nat) (dk : Array Nat), vi = .int .i64 (i : Int) ∧ vj = .int .i64 (j : Int) ∧ a < i ∧ i ≤ j + 1 ∧ j < b ∧ dk.size = n ∧ Rw w0 wr blk off dk ∧
      partEqLoop ltN a i j dk = partEqLoop ltN a (a + 1) (b - 1) (swp d a p))
    (fun vi vj _ => (intOf vj).toNat + 1 - (intOf vi).toNat)
  case atStart => exact ⟨a + 1, b - 1, swp d a p, by go_num, by go_num, by omega, by omega, by omega, SZ.out, SWH.out, rfl⟩
  case round =>
    clear SWH hcw hfw hy'
    obtain ⟨i, j, dk, rfl, rfl, hai, hij, hjb, hsk, hrk, hO⟩ := hrel
    have HO := Lib.hid hO; have HR := Lib.hid hrk; have HSK := Lib.hid hsk
    obtain ⟨G, hG, _, _⟩ := hrk.fam hsk
    have HG := Lib.hid hG
    clear hO hrk hsk hG SZ
    go_wp2_with fail
    go_loopw [9] (fun vi w1 => ∃ (i' : Nat), vi = .int .i64 (i' : Int) ∧ i ≤ i' ∧ i' ≤ j + 1 ∧ Rw w0 w1 blk off dk ∧ Hid (scanUp (fun x => !ltN dk[a]! x) dk j i' = scanUp (fun x => !ltN dk[a]! x) dk j i))
      (fun vi _ => j + 1 - (intOf vi).toNat)
    case atStart => exact ⟨i, rfl, Nat.le_refl _, hij, HR.out, rfl⟩
    case round =>
      clear HR
      obtain ⟨i', rfl, hii, hij', hr1, hsc⟩ := hrel
      obtain ⟨hcw, hfw⟩ := hr1.at_ HSK.out HG.out
      have HR1 := Lib.hid hr1; clear hr1
      by_cases hle : i' ≤ j
      · go_wp2_with fail
        go_big_quiet (first | (go_at_call 50; refine Calls.quiet_of_same (less_any _ _ _)))
        go_wp2_with fail
        · have ht : (!ltN (G a) (G i')) = true := by first | assumption | (simp [ltN]; omega) | (simp [ltN]; assumption)
          have HT := Lib.hid (scanUp_go (fun x => !ltN dk[a]! x) dk j i' hle (by rw [← HG.out a, ← HG.out i']; exact ht))
          go_roundw
          case rel => exact ⟨i' + 1, by go_num, by omega, by omega, HR1.out.drewN nq, HT.out.symm.trans hsc.out⟩
          case measure => simp [intOf]; omega
        · have ht : (!ltN (G a) (G i')) = false := by first | assumption | (simp [ltN]; omega) | (simp [ltN]; assumption)
          have hi2 : Hid (i' = scanUp (fun x => !ltN dk[a]! x) dk j i) := (scanUp_end (fun x => !ltN dk[a]! x) dk j i' (Or.inr (by rw [← HG.out a, ← HG.out i']; exact ht))).symm.trans hsc.out
          have HR2 := Lib.hid (HR1.out.drewN nq)
          clear ht hcw hfw hsc HR1
          go_loopw [10] (fun vj w2 => ∃ (j' : Nat), vj = .int .i64 (j' : Int) ∧ j' ≤ j ∧ i' ≤ j' + 1 ∧ Rw w0 w2 blk off dk ∧ Hid (scanDown (fun x => ltN dk[a]! x) dk i' j' = scanDown (fun x => ltN dk[a]! x) dk i' j))
            (fun vj _ => (intOf vj).toNat)
          case atStart => exact ⟨j, rfl, Nat.le_refl _, hij', HR2.out, rfl⟩
          case round =>
            clear HR2
            obtain ⟨j', rfl, hjj, hij2, hr3, hsd⟩ := hrel
            obtain ⟨hcw, hfw⟩ := hr3.at_ HSK.out HG.out
            have HR3 := Lib.hid hr3; clear hr3
            by_cases hle2 : i' ≤ j'
            · go_wp2_with fail
              go_big_quiet (first | (go_at_call 50; refine Calls.quiet_of_same (less_any _ _ _)))
              go_wp2_with fail
              · have ht : ltN (G a) (G j') = true := by first | assumption | (simp [ltN]; omega) | (simp [ltN]; assumption)
                have HT := Lib.hid (scanDown_go (fun x => ltN dk[a]! x) dk i' j' hle2 (by omega) (by rw [← HG.out a, ← HG.out j']; exact ht))
                go_roundw
                case rel => exact ⟨j' - 1, by go_num, by omega, by omega, HR3.out.drewN nq, HT.out.symm.trans hsd.out⟩
                case measure => simp [intOf]; omega
              · have ht : ltN (G a) (G j') = false := by first | assumption | (simp [ltN]; omega) | (simp [ltN]; assumption)
                have hj2 : Hid (j' = scanDown (fun x => ltN dk[a]! x) dk i' j) := (scanDown_end (fun x => ltN dk[a]! x) dk i' j' (Or.inr (by rw [← HG.out a, ← HG.out j']; exact ht))).symm.trans hsd.out
                have hr4 := HR3.out.drewN nq
                clear hcw hfw hsd ht HR3
                generalize wr.drewN nq = W3 at hr4 ⊢
                obtain ⟨hc3, hf3⟩ := hr4.at_ HSK.out HG.out
                have hlt3 := scans_lt ltN a i j dk (by omega) hi2.out hj2.out hle2
                have SW := hr4.swap 1 i' j' (by rw [HSK.out]; omega) (by rw [HSK.out]; omega)
                rw [← HG.out, ← HG.out] at SW
                have SWH := Lib.hid SW
                have SZ := Lib.hid (show (swp dk i' j').size = n by rw [size_swp]; exact HSK.out)
                have EQ := Lib.hid ((partEq_go ltN a i j dk hi2.out hj2.out (by omega)).symm.trans HO.out)
                clear hr4 SW
                go_wp2_with fail
                go_region
                all_goals go_wp2_with fail
                all_goals go_roundw
                case rel => exact ⟨i' + 1, j' - 1, swp dk i' j', by go_num, by go_num, by omega, by omega, by omega, SZ.out, SWH.out, EQ.out⟩
                case measure => simp [intOf]; omega
            · go_wp2_with fail
              go_big_quiet (first | (go_at_call 50; refine Calls.quiet_of_same (less_any _ _ _)))
              have hj2 : Hid (j' = scanDown (fun x => ltN dk[a]! x) dk i' j) := (scanDown_end (fun x => ltN dk[a]! x) dk i' j' (Or.inl hle2)).symm.trans hsd.out
              have HR4 := Lib.hid (HR3.out.drewN nq)
              have E := Lib.hid (partEq_break ltN a i j dk hi2.out hj2.out (by omega))
              clear hcw hfw hsd HR3
              go_wp2_with fail
              go_ret
              exact ⟨by unfold partitionEqual; rw [← HO.out, E.out]; rfl, by unfold partitionEqual; rw [← HO.out, E.out]; exact HR4.out⟩
      · go_wp2_with fail
        go_big_quiet (first | (go_at_call 50; refine Calls.quiet_of_same (less_any _ _ _)))
        go_wp2_with fail
        have hi2 : Hid (i' = scanUp (fun x => !ltN dk[a]! x) dk j i) := (scanUp_end (fun x => !ltN dk[a]! x) dk j i' (Or.inl hle)).symm.trans hsc.out
        have HR2 := Lib.hid (HR1.out.drewN nq)
        clear hcw hfw hsc HR1
        go_loopw [10] (fun vj w2 => ∃ (j' : Nat), vj = .int .i64 (j' : Int) ∧ j' ≤ j ∧ i' ≤ j' + 1 ∧ Rw w0 w2 blk off dk ∧ Hid (scanDown (fun x => ltN dk[a]! x) dk i' j' = scanDown (fun x => ltN dk[a]! x) dk i' j))
          (fun vj _ => (intOf vj).toNat)
        case atStart => exact ⟨j, rfl, Nat.le_refl _, hij', HR2.out, rfl⟩
        case round =>
          clear HR2
          obtain ⟨j', rfl, hjj, hij2, hr3, hsd⟩ := hrel
          obtain ⟨hcw, hfw⟩ := hr3.at_ HSK.out HG.out
          have HR3 := Lib.hid hr3; clear hr3
          have hle2 : ¬ i' ≤ j' := by omega
          go_wp2_with fail
          go_big_quiet (first | (go_at_call 50; refine Calls.quiet_of_same (less_any _ _ _)))
          have hj2 : Hid (j' = scanDown (fun x => ltN dk[a]! x) dk i' j) := (scanDown_end (fun x => ltN dk[a]! x) dk i' j' (Or.inl hle2)).symm.trans hsd.out
          have HR4 := Lib.hid (HR3.out.drewN nq)
          have E := Lib.hid (partEq_break ltN a i j dk hi2.out hj2.out (by omega))
          clear hcw hfw hsd HR3
          go_wp2_with fail
          go_ret
          exact ⟨by unfold partitionEqual; rw [← HO.out, E.out]; rfl, by unfold partitionEqual; rw [← HO.out, E.out]; exact HR4.out⟩
end Go.Proofs.Ythanjfnpohhebaa
