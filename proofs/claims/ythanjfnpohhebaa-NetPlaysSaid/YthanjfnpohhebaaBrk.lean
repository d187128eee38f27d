/- breakPatterns. -/
import Derived.Test.YthanjfnpohhebaaLen
import Derived.Sort.Walk7
namespace Go.Proofs.Ythanjfnpohhebaa
open Go.RowKit Go.Sort
set_option linter.unusedVariables false

theorem Rw.aside {w0 w w' : World} {blk off sb : Nat} {d : Array Nat} (h : Rw w0 w blk off d) (k : Keep [sb] w w') (hne : sb ≠ blk) (hsb : w0.heap.size ≤ sb) : Rw w0 w' blk off d := by
  have K : Keep [blk, sb] w0 w' := (h.keep.mono (by simp)).trans (k.mono (by simp))
  obtain ⟨row, h1, h2⟩ := h.row
  exact ⟨⟨K.os, K.tape, K.output, K.size, fun g hg hn => K.block g hg (by simp at hn ⊢; exact ⟨hn, by omega⟩)⟩, row, (k.block blk (Array.getElem?_eq_some_iff.1 h1).1 (by simpa using hne.symm)).trans h1, h2⟩
/-- a cell of another block behind an exchange -/
theorem cell_aside {w : World} {blk sb i j : Nat} {u v x : Value} (hne : sb ≠ blk) (hc : w.cell? ⟨sb, 0, none⟩ = some x) (hf : w.frozen? ⟨sb, 0, none⟩ = false) :
    (((w.drewN 1).setCell ⟨blk, i, none⟩ u).setCell ⟨blk, j, none⟩ v).cell? ⟨sb, 0, none⟩ = some x ∧ (((w.drewN 1).setCell ⟨blk, i, none⟩ u).setCell ⟨blk, j, none⟩ v).frozen? ⟨sb, 0, none⟩ = false := by
  constructor
  · rw [World.cell?_setCell_other _ _ _ _ (by intro e; cases e; exact hne rfl), World.cell?_setCell_other _ _ _ _ (by intro e; cases e; exact hne rfl)]; exact hc
  · rw [World.frozen?_setCell, World.frozen?_setCell]; exact hf

set_option maxRecDepth 100000 in
set_option maxHeartbeats 8000000 in
theorem break_any (w0 w : World) (blk off cap n a b : Nat) (d : Array Nat) (hd : d.size = n) (h : Rw w0 w blk off d) (hab : a + 13 ≤ b) (hbn : b ≤ n) (hn : n < 4611686018427387904) :
    Calls Try.prog 46 #[.slice (some ⟨blk, off, none⟩) n cap, .int .i64 (a : Int), .int .i64 (b : Int)] w (RwEnd w0 blk off (breakPatterns d a b)) := by
  obtain ⟨L, hL⟩ : ∃ L, L = b - a := ⟨_, rfl⟩
  obtain ⟨M, hM⟩ : ∃ M : Nat, M = 1 <<< bitsLen L := ⟨_, rfl⟩
  have hM1 : 1 ≤ M := by rw [hM, Nat.one_shiftLeft]; exact Nat.two_pow_pos _
  have hM2 : M ≤ 2 * L := by rw [hM, Nat.one_shiftLeft]; exact two_pow_bitsLen_le (by omega)
  obtain ⟨I0, hI0⟩ : ∃ I, I = a + L / 4 * 2 - 1 := ⟨_, rfl⟩
  have HB := Lib.hid (show breakPatterns d a b = bpRest a L M I0 3 0 (UInt64.ofNat L, d) by
    rw [show b = a + L by omega, breakPatterns_eq d a L (by omega), hM, hI0])
  have PW := pow2_any L (by omega)
  rw [← hM] at PW
  replace PW := Lib.hid PW
  have EL := Lib.hid (show (b : Int) - (a : Int) = (L : Int) by omega)
  have EI := Lib.hid (show (a : Int) + (L : Int) / 4 * 2 - 1 = (I0 : Int) by omega)
  have EJ := Lib.hid (show (a : Int) + (L : Int) / 4 * 2 + 1 = ((I0 + 2 : Nat) : Int) by omega)
  have bI : a ≤ I0 ∧ I0 + 2 < n ∧ 13 ≤ L ∧ a + L ≤ n := by omega
  obtain ⟨bI1, bI2, bL, bN⟩ := bI
  have hLn : L < 4611686018427387904 := by omega
  have H := Lib.hid h; have HD := Lib.hid hd
  obtain ⟨w1, hw1⟩ : ∃ w1, w1 = w.alloc (.cells #[.int .u64 (L : Int)] 88) := ⟨_, rfl⟩
  have HW := Lib.hid hw1
  have hr1 : Rw w0 w1 blk off d := by rw [hw1]; exact h.below (below_alloc (Below.refl _ _) _)
  have hc1 : w1.cell? ⟨w.heap.size, 0, none⟩ = some (.int .u64 (L : Int)) := by rw [hw1, World.cell?_alloc_at _ _ _ _ rfl]; rfl
  have hf1 : w1.frozen? ⟨w.heap.size, 0, none⟩ = false := by rw [hw1]; exact World.frozen?_alloc_at _ _ _ _ rfl
  have hne : w.heap.size ≠ blk := by have := h.lt; omega
  have H1 := Lib.hid (And.intro hr1 (And.intro hc1 hf1))
  have HNE := Lib.hid hne
  have HSZ0 := Lib.hid h.keep.size
  clear h hd hr1 hc1 hf1 hw1 hM hI0 hL hne
  rw [HB.out]
  go_enter Try.func46, Try.ntmps46
  have hL8 : (8 : Int) ≤ (b : Int) - (a : Int) := by rw [EL.out]; omega
  go_wp2_with fail
  rw [EL.out, ← HW.out]
  clear hL8
  refine (PW.out w1).mono ?_
  rintro e w2 ⟨rfl, rfl⟩
  go_wp2_with fail
  rw [EI.out]
  go_loopw [9, 10] (fun vi v10 wr => ∃ (t X : Nat) (r : UInt64) (dk : Array Nat), vi = .int .i64 ((I0 + t : Nat) : Int) ∧ t ≤ 3 ∧ dk.size = n ∧ Rw w0 wr blk off dk ∧ wr.cell? ⟨w.heap.size, 0, none⟩ = some (.int .u64 (X : Int)) ∧ wr.frozen? ⟨w.heap.size, 0, none⟩ = false ∧ X = r.toNat ∧
      bpRest a L M I0 (3 - t) t (r, dk) = bpRest a L M I0 3 0 (UInt64.ofNat L, d)) (fun vi v10 _ => I0 + 3 - (intOf vi).toNat)
  case atStart => exact ⟨0, L, UInt64.ofNat L, d, rfl, by omega, HD.out, H1.out.1, H1.out.2.1, H1.out.2.2, by simp; omega, rfl⟩
  case round =>
    obtain ⟨t, X, r, dk, rfl, ht, hsk, hrk, hcx, hfx, hX, hO⟩ := hrel
    have lX : X < 18446744073709551616 := by rw [hX]; exact r.toNat_lt
    have HO := Lib.hid hO; have HR := Lib.hid hrk; have HSK := Lib.hid hsk
    have NX := Lib.hid (next_any w.heap.size X lX wr hcx hfx)
    obtain ⟨Y, hY⟩ : ∃ Y, Y = xorNextN X := ⟨_, rfl⟩
    have lY : Y < 18446744073709551616 := by rw [hY]; exact xorNextN_lt X lX
    obtain ⟨O, hO2⟩ : ∃ O : Nat, O = Y &&& (M - 1) := ⟨_, rfl⟩
    have lO : O ≤ M - 1 := by rw [hO2]; exact Nat.and_le_right
    have eAnd : bits .and .u64 (Y : Int) ((M : Int) - 1) = (O : Int) := by
      rw [show ((M : Int) - 1) = ((M - 1 : Nat) : Int) by omega, bits_and_u64_nat _ _ lY (by omega), hO2]
    have HN := Lib.hid (show Y = (xorNext r).toNat ∧ O = (xorNext r).toNat &&& (M - 1) by
      have e : Y = (xorNext r).toNat := by rw [hY, hX, xorNext_toNat]
      exact ⟨e, by rw [hO2, e]⟩)
    rw [← hY] at NX
    obtain ⟨G, hG, _, _⟩ := hrk.fam hsk
    have HG := Lib.hid hG
    clear hO hrk hsk hG hO2 hY hX hcx hfx H1 HD H
    by_cases ht3 : t < 3
    · have hcond : ((I0 + t : Nat) : Int) ≤ (a : Int) + (L : Int) / 4 * 2 + 1 := by rw [EJ.out]; omega
      go_wp2_with fail
      refine NX.out.mono ?_
      rintro e w2 ⟨rfl, k2, c2, f2⟩
      have r2 := HR.out.aside k2 HNE.out HSZ0.out
      clear HR NX k2
      by_cases hLO : L ≤ O
      · have hLO' : (L : Int) ≤ (O : Int) := by omega
        have SW := r2.swap 1 (I0 + t) (a + (O - L)) (by rw [HSK.out]; omega) (by rw [HSK.out]; omega)
        rw [← HG.out, ← HG.out] at SW
        have SWH := Lib.hid SW
        have CA := Lib.hid (cell_aside (i := off + (I0 + t)) (j := off + (a + (O - L))) (u := u64v (G (a + (O - L)))) (v := u64v (G (I0 + t))) HNE.out c2 f2)
        have SZ := Lib.hid (show (swp dk (I0 + t) (a + (O - L))).size = n by rw [size_swp]; exact HSK.out)
        have BP := Lib.hid ((bp_step a L M I0 t r dk (O - L) ht3 (by rw [← HN.out.2, if_pos (by omega)])).symm.trans HO.out)
        have xi : I0 + t < n := by omega
        have xj : a + (O - L) < n := by omega
        obtain ⟨hcw, hfw⟩ := r2.at_ HSK.out HG.out
        obtain ⟨v3, hy3⟩ := cell?_setCell_some (w := w2) (p := ⟨blk, off + (I0 + t), none⟩) (x := .int .u64 (G (a + (O - L)) : Int)) (q := ⟨blk, off + (a + (O - L)), none⟩) (hcw _ xj)
        clear SW r2 c2 f2
        go_wp2_with fail
        go_region
        all_goals go_wp2_with fail
        go_roundw
        case rel => exact ⟨t + 1, Y, xorNext r, swp dk (I0 + t) (a + (O - L)), by congr 1, by omega, SZ.out, SWH.out, CA.out.1, CA.out.2, HN.out.1, BP.out⟩
        case measure => simp [intOf]; omega
      · have hLO' : ¬ (L : Int) ≤ (O : Int) := by omega
        have SW := r2.swap 1 (I0 + t) (a + O) (by rw [HSK.out]; omega) (by rw [HSK.out]; omega)
        rw [← HG.out, ← HG.out] at SW
        have SWH := Lib.hid SW
        have CA := Lib.hid (cell_aside (i := off + (I0 + t)) (j := off + (a + O)) (u := u64v (G (a + O))) (v := u64v (G (I0 + t))) HNE.out c2 f2)
        have SZ := Lib.hid (show (swp dk (I0 + t) (a + O)).size = n by rw [size_swp]; exact HSK.out)
        have BP := Lib.hid ((bp_step a L M I0 t r dk (O) ht3 (by rw [← HN.out.2, if_neg (by omega)])).symm.trans HO.out)
        have xi : I0 + t < n := by omega
        have xj : a + O < n := by omega
        obtain ⟨hcw, hfw⟩ := r2.at_ HSK.out HG.out
        obtain ⟨v3, hy3⟩ := cell?_setCell_some (w := w2) (p := ⟨blk, off + (I0 + t), none⟩) (x := .int .u64 (G (a + O) : Int)) (q := ⟨blk, off + (a + O), none⟩) (hcw _ xj)
        clear SW r2 c2 f2
        go_wp2_with fail
        go_region
        all_goals go_wp2_with fail
        go_roundw
        case rel => exact ⟨t + 1, Y, xorNext r, swp dk (I0 + t) (a + O), by congr 1, by omega, SZ.out, SWH.out, CA.out.1, CA.out.2, HN.out.1, BP.out⟩
        case measure => simp [intOf]; omega
    · obtain rfl : t = 3 := by omega
      have hcond : ¬ ((I0 + 3 : Nat) : Int) ≤ (a : Int) + (L : Int) / 4 * 2 + 1 := by rw [EJ.out]; omega
      go_wp2_with fail
      go_end0
      exact ⟨rfl, by rw [← HO.out]; exact HR.out⟩
end Go.Proofs.Ythanjfnpohhebaa
