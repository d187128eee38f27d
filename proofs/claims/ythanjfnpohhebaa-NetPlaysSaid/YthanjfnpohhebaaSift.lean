/- siftDown; reverseRange. -/
import Derived.Test.YthanjfnpohhebaaRw
import Derived.Sort.WalkB2
import Derived.Sort.WalkB12
import Derived.Deep.LoopGhost
namespace Go.Proofs.Ythanjfnpohhebaa
open Go.RowKit Go.Sort
set_option linter.unusedVariables false

/-- what is known of the row in a round: its cells by a family G -/
theorem Rw.fam {w0 w : World} {blk off n : Nat} {d : Array Nat} (h : Rw w0 w blk off d) (hd : d.size = n) : ∃ G : Nat → Nat, (∀ t, G t = d[t]!) ∧ (∀ t, t < n → w.cell? ⟨blk, off + t, none⟩ = some (.int .u64 (G t : Int))) ∧ (∀ t, t < n → w.frozen? ⟨blk, off + t, none⟩ = false) :=
  ⟨fun t => d[t]!, fun _ => rfl, fun t ht => h.cell t (by omega), fun t _ => h.fr t⟩

set_option maxRecDepth 100000 in
set_option maxHeartbeats 4000000 in
theorem rev_any (w0 w : World) (blk off cap n a b : Nat) (d : Array Nat) (hd : d.size = n) (h : Rw w0 w blk off d) (hab : a ≤ b) (hb : b ≤ n) (hn : n < 4611686018427387904) :
    Calls Try.prog 48 #[.slice (some ⟨blk, off, none⟩) n cap, .int .i64 (a : Int), .int .i64 (b : Int)] w (RwEnd w0 blk off (reverseRange d a b)) := by
  have H := Lib.hid h; have HD := Lib.hid hd
  clear h hd
  go_enter Try.func48, Try.ntmps48
  go_wp2_with fail
  go_loopw [6, 7] (fun vi vj wr => ∃ (i j : Nat) (dk : Array Nat), vi = .int .i64 (i : Int) ∧ vj = .int .i64 ((j : Int) - 1) ∧ j ≤ b ∧ i ≤ n ∧ dk.size = n ∧ Rw w0 wr blk off dk ∧ reverseLoop i (j - 1) dk = reverseLoop a (b - 1) d) (fun vi vj _ => ((intOf vj) + 1).toNat)
  case atStart => exact ⟨a, b, d, rfl, rfl, Nat.le_refl _, by omega, HD.out, H.out, rfl⟩
  case round =>
    obtain ⟨i, j, dk, rfl, rfl, hjb, hin, hsk, hrk, hO⟩ := hrel
    have HO := Lib.hid hO; have HR := Lib.hid hrk; have HSK := Lib.hid hsk
    obtain ⟨G, hG, hcw, hfw⟩ := hrk.fam hsk
    have HG := Lib.hid hG
    clear hO hrk H hsk hG
    by_cases hlt : i < j - 1
    · have h1 : (i : Int) < (j : Int) - 1 := by omega
      have h2 : (j : Int) - 1 < (n : Int) := by omega
      have h3 : (i : Int) < (n : Int) := by omega
      have h4 : (0 : Int) ≤ (j : Int) - 1 := by omega
      go_wp2_with fail
      go_region
      all_goals go_wp2_with fail
      go_roundw
      case rel =>
        refine ⟨i + 1, j - 1, swp dk i (j - 1), by go_num, by congr 1; omega, by omega, by omega, by rw [size_swp]; exact HSK.out, ?_, ?_⟩
        · rw [HG.out, HG.out]
          exact HR.out.swap 1 i (j - 1) (by rw [HSK.out]; omega) (by rw [HSK.out]; omega)
        · rw [← HO.out]
          conv => rhs; rw [reverseLoop]
          rw [if_pos hlt]
      case measure => simp [intOf]; omega
    · have h1 : ¬ (i : Int) < (j : Int) - 1 := by omega
      go_wp2_with fail
      go_end0
      refine ⟨rfl, ?_⟩
      unfold reverseRange
      rw [← HO.out, reverseLoop, if_neg hlt]
      exact HR.out
set_option maxRecDepth 100000 in
set_option maxHeartbeats 4000000 in
theorem sift_any (w0 w : World) (blk off cap n lo hi F : Nat) (d : Array Nat) (hd : d.size = n) (h : Rw w0 w blk off d) (hlo : lo ≤ hi) (hb : F + hi ≤ n) (hn : n < 4611686018427387904) :
    Calls Try.prog 55 #[.slice (some ⟨blk, off, none⟩) n cap, .int .i64 (lo : Int), .int .i64 (hi : Int), .int .i64 (F : Int)] w (RwEnd w0 blk off (siftDown ltN hi F lo d)) := by
  have H := Lib.hid h; have HD := Lib.hid hd
  clear h hd
  go_enter Try.func55, Try.ntmps55
  go_wp2_with fail
  go_loopw [8] (fun vr wr => ∃ (r : Nat) (dk : Array Nat), vr = .int .i64 (r : Int) ∧ r ≤ hi ∧ dk.size = n ∧ Rw w0 wr blk off dk ∧ siftDown ltN hi F r dk = siftDown ltN hi F lo d) (fun vr _ => hi - (intOf vr).toNat)
  case atStart => exact ⟨lo, d, rfl, hlo, HD.out, H.out, rfl⟩
  case round =>
    obtain ⟨r, dk, rfl, hrh, hsk, hrk, hO⟩ := hrel
    have HO := Lib.hid hO; have HR := Lib.hid hrk; have HSK := Lib.hid hsk
    obtain ⟨G, hG, hcw, hfw⟩ := hrk.fam hsk
    have HG := Lib.hid hG
    have HF := Lib.hid (fun k => show G (F + 2 * r + k) = dk[F + (2 * r + k)]! by rw [hG, Nat.add_assoc])
    clear hO hrk H hsk hG
    by_cases hst : 2 * r + 1 < hi
    · have h0 : ¬ (hi : Int) ≤ 2 * (r : Int) + 1 := by omega
      by_cases h2 : 2 * r + 2 < hi
      · have h2' : decide (2 * (r : Int) + 1 + 1 < (hi : Int)) = true := decide_eq_true (by omega)
        go_wp2_with fail
        go_quiet (first | (go_at_call 50; refine Calls.quiet_of_same (less_any _ _ _)))
        go_wp2_with fail
        · have hL : ltN dk[F + (2 * r + 1)]! dk[F + (2 * r + 2)]! = true := by have h9 : G (F + 2 * r + 1) = dk[F + (2 * r + 1)]! := HF.out 1; have h8 : G (F + 2 * r + 2) = dk[F + (2 * r + 2)]! := HF.out 2; rw [← h9, ← h8]; simp [ltN]; omega
          have HL := Lib.hid hL; clear hL
          revert nq; intro nq1
          have hcw2 : ∀ t, t < n → (wr.drewN nq1).cell? ⟨blk, off + t, none⟩ = some (.int .u64 (G t : Int)) := hcw
          have hfw2 : ∀ t, t < n → (wr.drewN nq1).frozen? ⟨blk, off + t, none⟩ = false := hfw
          have HR2 := Lib.hid (HR.out.drewN nq1)
          clear hcw hfw HR
          generalize wr.drewN nq1 = wr2 at hcw2 hfw2 HR2 ⊢
          go_quiet (first | (go_at_call 50; refine Calls.quiet_of_same (less_any _ _ _)))
          go_wp2_with fail
          · have hS : ltN dk[F + r]! dk[F + (2 * r + 2)]! = false := by have h9 := HG.out (F + r); have h8 : G (F + 2 * r + 2) = dk[F + (2 * r + 2)]! := HF.out 2; have h7 : (!ltN (G (F + r)) (G (F + 2 * r + 2))) = true := (by assumption); rw [← h9, ← h8]; simpa using h7
            refine bodyPost_ret (results_none rfl _ _ _) rfl ⟨rfl, ?_⟩
            rw [← HO.out, sd_right_stop ltN dk h2 HL.out hS]
            exact HR2.out.drewN nq
          · have hS : ltN dk[F + r]! dk[F + (2 * r + 2)]! = true := by have h9 := HG.out (F + r); have h8 : G (F + 2 * r + 2) = dk[F + (2 * r + 2)]! := HF.out 2; have h7 : (!ltN (G (F + r)) (G (F + 2 * r + 2))) = false := (by assumption); rw [← h9, ← h8]; simpa using h7
            have HS := Lib.hid hS; clear hS
            revert nq; intro nq2
            have hcw3 : ∀ t, t < n → (wr2.drewN nq2).cell? ⟨blk, off + t, none⟩ = some (.int .u64 (G t : Int)) := hcw2
            have hfw3 : ∀ t, t < n → (wr2.drewN nq2).frozen? ⟨blk, off + t, none⟩ = false := hfw2
            have HR3 := Lib.hid (HR2.out.drewN nq2)
            clear hcw2 hfw2 HR2
            generalize wr2.drewN nq2 = wr3 at hcw3 hfw3 HR3 ⊢
            go_region
            all_goals go_wp2_with fail
            go_roundw
            case rel =>
              refine ⟨2 * r + 2, swp dk (F + r) (F + (2 * r + 2)), by congr 1 <;> omega, by omega, by rw [size_swp]; exact HSK.out, ?_, ?_⟩
              · have h9 := HG.out (F + r); have h8 : G (F + 2 * r + 2) = dk[F + (2 * r + 2)]! := HF.out 2
                have := HR3.out.swap 1 (F + r) (F + (2 * r + 2)) (by rw [HSK.out]; omega) (by rw [HSK.out]; omega)
                rw [← h9, ← h8] at this
                first | exact this | simpa [Nat.add_assoc] using this
              · rw [← HO.out, sd_right_go ltN dk h2 HL.out HS.out]
            case measure => simp [intOf]; omega
        · have hL : ltN dk[F + (2 * r + 1)]! dk[F + (2 * r + 2)]! = false := by have h9 : G (F + 2 * r + 1) = dk[F + (2 * r + 1)]! := HF.out 1; have h8 : G (F + 2 * r + 2) = dk[F + (2 * r + 2)]! := HF.out 2; rw [← h9, ← h8]; simp [ltN]; omega
          have HL := Lib.hid hL; clear hL
          revert nq; intro nq1
          have hcw2 : ∀ t, t < n → (wr.drewN nq1).cell? ⟨blk, off + t, none⟩ = some (.int .u64 (G t : Int)) := hcw
          have hfw2 : ∀ t, t < n → (wr.drewN nq1).frozen? ⟨blk, off + t, none⟩ = false := hfw
          have HR2 := Lib.hid (HR.out.drewN nq1)
          clear hcw hfw HR
          generalize wr.drewN nq1 = wr2 at hcw2 hfw2 HR2 ⊢
          go_quiet (first | (go_at_call 50; refine Calls.quiet_of_same (less_any _ _ _)))
          go_wp2_with fail
          · have hS : ltN dk[F + r]! dk[F + (2 * r + 1)]! = false := by have h9 := HG.out (F + r); have h8 : G (F + 2 * r + 1) = dk[F + (2 * r + 1)]! := HF.out 1; have h7 : (!ltN (G (F + r)) (G (F + 2 * r + 1))) = true := (by assumption); rw [← h9, ← h8]; simpa using h7
            refine bodyPost_ret (results_none rfl _ _ _) rfl ⟨rfl, ?_⟩
            rw [← HO.out, sd_left_stop ltN dk hst (fun _ => HL.out) hS]
            exact HR2.out.drewN nq
          · have hS : ltN dk[F + r]! dk[F + (2 * r + 1)]! = true := by have h9 := HG.out (F + r); have h8 : G (F + 2 * r + 1) = dk[F + (2 * r + 1)]! := HF.out 1; have h7 : (!ltN (G (F + r)) (G (F + 2 * r + 1))) = false := (by assumption); rw [← h9, ← h8]; simpa using h7
            have HS := Lib.hid hS; clear hS
            revert nq; intro nq2
            have hcw3 : ∀ t, t < n → (wr2.drewN nq2).cell? ⟨blk, off + t, none⟩ = some (.int .u64 (G t : Int)) := hcw2
            have hfw3 : ∀ t, t < n → (wr2.drewN nq2).frozen? ⟨blk, off + t, none⟩ = false := hfw2
            have HR3 := Lib.hid (HR2.out.drewN nq2)
            clear hcw2 hfw2 HR2
            generalize wr2.drewN nq2 = wr3 at hcw3 hfw3 HR3 ⊢
            go_region
            all_goals go_wp2_with fail
            go_roundw
            case rel =>
              refine ⟨2 * r + 1, swp dk (F + r) (F + (2 * r + 1)), by congr 1 <;> omega, by omega, by rw [size_swp]; exact HSK.out, ?_, ?_⟩
              · have h9 := HG.out (F + r); have h8 : G (F + 2 * r + 1) = dk[F + (2 * r + 1)]! := HF.out 1
                have := HR3.out.swap 1 (F + r) (F + (2 * r + 1)) (by rw [HSK.out]; omega) (by rw [HSK.out]; omega)
                rw [← h9, ← h8] at this
                first | exact this | simpa [Nat.add_assoc] using this
              · rw [← HO.out, sd_left_go ltN dk hst (fun _ => HL.out) HS.out]
            case measure => simp [intOf]; omega
      · have h2' : decide (2 * (r : Int) + 1 + 1 < (hi : Int)) = false := decide_eq_false (by omega)
        go_wp2_with fail
        go_quiet (first | (go_at_call 50; refine Calls.quiet_of_same (less_any _ _ _)))
        go_wp2_with fail
        revert nq; intro nq1
        have hcw2 : ∀ t, t < n → (wr.drewN nq1).cell? ⟨blk, off + t, none⟩ = some (.int .u64 (G t : Int)) := hcw
        have hfw2 : ∀ t, t < n → (wr.drewN nq1).frozen? ⟨blk, off + t, none⟩ = false := hfw
        have HR2 := Lib.hid (HR.out.drewN nq1)
        clear hcw hfw HR
        generalize wr.drewN nq1 = wr2 at hcw2 hfw2 HR2 ⊢
        go_quiet (first | (go_at_call 50; refine Calls.quiet_of_same (less_any _ _ _)))
        go_wp2_with fail
        · have hS : ltN dk[F + r]! dk[F + (2 * r + 1)]! = false := by have h9 := HG.out (F + r); have h8 : G (F + 2 * r + 1) = dk[F + (2 * r + 1)]! := HF.out 1; have h7 : (!ltN (G (F + r)) (G (F + 2 * r + 1))) = true := (by assumption); rw [← h9, ← h8]; simpa using h7
          refine bodyPost_ret (results_none rfl _ _ _) rfl ⟨rfl, ?_⟩
          rw [← HO.out, sd_left_stop ltN dk hst (fun h => absurd h h2) hS]
          exact HR2.out.drewN nq
        · have hS : ltN dk[F + r]! dk[F + (2 * r + 1)]! = true := by have h9 := HG.out (F + r); have h8 : G (F + 2 * r + 1) = dk[F + (2 * r + 1)]! := HF.out 1; have h7 : (!ltN (G (F + r)) (G (F + 2 * r + 1))) = false := (by assumption); rw [← h9, ← h8]; simpa using h7
          have HS := Lib.hid hS; clear hS
          revert nq; intro nq2
          have hcw3 : ∀ t, t < n → (wr2.drewN nq2).cell? ⟨blk, off + t, none⟩ = some (.int .u64 (G t : Int)) := hcw2
          have hfw3 : ∀ t, t < n → (wr2.drewN nq2).frozen? ⟨blk, off + t, none⟩ = false := hfw2
          have HR3 := Lib.hid (HR2.out.drewN nq2)
          clear hcw2 hfw2 HR2
          generalize wr2.drewN nq2 = wr3 at hcw3 hfw3 HR3 ⊢
          go_region
          all_goals go_wp2_with fail
          go_roundw
          case rel =>
            refine ⟨2 * r + 1, swp dk (F + r) (F + (2 * r + 1)), by congr 1 <;> omega, by omega, by rw [size_swp]; exact HSK.out, ?_, ?_⟩
            · have h9 := HG.out (F + r); have h8 : G (F + 2 * r + 1) = dk[F + (2 * r + 1)]! := HF.out 1
              have := HR3.out.swap 1 (F + r) (F + (2 * r + 1)) (by rw [HSK.out]; omega) (by rw [HSK.out]; omega)
              rw [← h9, ← h8] at this
              first | exact this | simpa [Nat.add_assoc] using this
            · rw [← HO.out, sd_left_go ltN dk hst (fun h => absurd h h2) HS.out]
          case measure => simp [intOf]; omega
    · have h0 : (hi : Int) ≤ 2 * (r : Int) + 1 := by omega
      go_wp2_with fail
      refine bodyPost_ret (results_none rfl _ _ _) rfl ?_
      refine ⟨rfl, ?_⟩
      rw [← HO.out, siftDown, dif_pos (by omega)]
      exact HR.out
end Go.Proofs.Ythanjfnpohhebaa
