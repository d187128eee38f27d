/- The document's answer to Between; ArcsBetween, ArcsAround: the walks. -/
import Derived.Test.YtjgmgcniemncjaaBetween
namespace Go.Proofs.Ytjgmgcniemncjaa
open Go.RowKit Go.Sort
set_option linter.unusedVariables false

theorem cmpP_neg {h l h' l' : Int} : cmpP h l h' l' < 0 ↔ (h < h' ∨ h = h' ∧ l < l') := by
  rcases cmp3 h l h' l' with ⟨e, k⟩ | ⟨e, k⟩ | ⟨e, k⟩ <;> rw [e] <;> constructor <;> intro <;> omega
theorem cmpP_le {h l h' l' : Int} : cmpP h l h' l' ≤ 0 ↔ (h < h' ∨ h = h' ∧ l ≤ l') := by
  rcases cmp3 h l h' l' with ⟨e, k⟩ | ⟨e, k⟩ | ⟨e, k⟩ <;> rw [e] <;> constructor <;> intro <;> omega
theorem btw_eq (ah al xh xl bh bl : Int) : btw ah al xh xl bh bl = true ↔ (ah < bh ∨ ah = bh ∧ al < bl) ∧ ((ah < xh ∨ ah = xh ∧ al < xl) ∧ (xh < bh ∨ xh = bh ∧ xl ≤ bl)) ∨ ¬ (ah < bh ∨ ah = bh ∧ al < bl) ∧ ((ah < xh ∨ ah = xh ∧ al < xl) ∨ (xh < bh ∨ xh = bh ∧ xl ≤ bl)) := by
  unfold btw
  by_cases h : cmpP ah al bh bl < 0
  · rw [if_pos h]; rw [cmpP_neg] at h; simp only [Bool.and_eq_true, decide_eq_true_eq, cmpP_neg, cmpP_le]
    constructor
    · intro hh; exact .inl ⟨h, hh⟩
    · rintro (⟨_, hh⟩ | ⟨hn, _⟩)
      · exact hh
      · exact absurd h hn
  · rw [if_neg h]; rw [cmpP_neg] at h; simp only [Bool.or_eq_true, decide_eq_true_eq, cmpP_neg, cmpP_le]
    constructor
    · intro hh; exact .inr ⟨h, hh⟩
    · rintro (⟨hn, _⟩ | ⟨_, hh⟩)
      · exact absurd hn h
      · exact hh
theorem btw_same (ah al xh xl : Int) : btw ah al xh xl ah al = true := by rw [btw_eq]; omega
theorem btw_end (ah al bh bl : Int) (h : ¬ (ah = bh ∧ al = bl)) : btw ah al bh bl bh bl = true := by rw [btw_eq]; omega
theorem btw_start (ah al bh bl : Int) (h : ¬ (ah = bh ∧ al = bl)) : btw ah al ah al bh bl = false := by
  rw [← Bool.not_eq_true, btw_eq]; omega
theorem btw_not (ah al xh xl bh bl : Int) (h : ¬ (ah = bh ∧ al = bl)) : btw bh bl xh xl ah al = !btw ah al xh xl bh bl := by
  cases hb : btw ah al xh xl bh bl
  · rw [← Bool.not_eq_true, btw_eq] at hb
    rw [Bool.not_false, btw_eq]; omega
  · rw [btw_eq] at hb
    rw [Bool.not_true, ← Bool.not_eq_true, btw_eq]; omega

set_option maxHeartbeats 2000000 in
theorem rbetween_any (ah al xh xl bh bl : Int) :
    Ret 28 #[pos ah al, pos xh xl, pos bh bl] (.returned (.bool (btw ah al xh xl bh bl))) := by
  intro w
  have C1 := Lib.hid rcmp_any
  have c3 := rcmp_any ah al bh bl
  have k1 : (decide (cmpP ah al xh xl < 0) = true) ∨ (decide (cmpP ah al xh xl < 0) = false) := by by_cases h : cmpP ah al xh xl < 0 <;> simp [h]
  have hz : cmpP ah al bh bl = 0 → btw ah al xh xl bh bl = true := by
    intro h
    rcases cmp3 ah al bh bl with ⟨e, k⟩ | ⟨e, k⟩ | ⟨e, rfl, rfl⟩
    · omega
    · omega
    · exact btw_same _ _ _ _
  rcases cmp3 ah al bh bl with ⟨e, k⟩ | ⟨e, k⟩ | ⟨e, k⟩
  · rw [e] at c3
    have C3 := Lib.hid c3; clear c3 k hz
    unfold btw
    rw [e]; clear e
    rcases k1 with q1 | q1
    all_goals
      simp only [q1, show ((-1 : Int) < 0) = True by simp, if_true, Bool.false_and, Bool.true_and]
      go_enter Try.func28, Try.ntmps28
      go_wp2_with fail
      refine (C3.out _).mono ?_
      rintro e w1 ⟨rfl, l1⟩
      have m1 := ((((Holds.nil w).new2 (.int .u64 ah) (.int .u64 al) 45).new2 (.int .u64 xh) (.int .u64 xl) 45).new2 (.int .u64 bh) (.int .u64 bl) 45).below l1
      have n1 := below_of_alloc (below_of_alloc (below_of_alloc l1))
      obtain ⟨g1, g2, g3⟩ := m1.two
      obtain ⟨g4, g5, g6⟩ := m1.tail.tail.two
      obtain ⟨g7, g8, g9⟩ := m1.tail.tail.tail.tail.two
      simp only [World.size_alloc] at g1 g2 g3 g4 g5 g6 g7 g8 g9
      clear m1 l1
      go_wp2_with fail
      refine (C1.out _ _ _ _ _).mono ?_
      rintro e w2 ⟨rfl, l2⟩
      have h1 := (l2.cell (p := ⟨w.heap.size + 1 + 1, 0, none⟩) g3).trans g1
      have h2 := (l2.cell (p := ⟨w.heap.size + 1 + 1, 1, none⟩) g3).trans g2
      have h4 := (l2.cell (p := ⟨w.heap.size + 1, 0, none⟩) g6).trans g4
      have h5 := (l2.cell (p := ⟨w.heap.size + 1, 1, none⟩) g6).trans g5
      have n2 := below_next n1 l2
      clear g1 g2 g3 g4 g5 g6 g7 g8 g9 n1 l2
      go_wp2_with fail
      refine (C1.out _ _ _ _ _).mono ?_
      rintro e w3 ⟨rfl, l3⟩
      have n3 := below_next n2 l3
      clear h1 h2 h4 h5 l3 n2
      go_wp2_with fail
      go_ret
      exact ⟨rfl, n3⟩
  · rw [e] at c3
    have C3 := Lib.hid c3; clear c3 k hz
    unfold btw
    rw [e]; clear e
    rcases k1 with q1 | q1
    all_goals
      simp only [q1, show ((1 : Int) < 0) = False by simp, if_false, Bool.false_or, Bool.true_or]
      go_enter Try.func28, Try.ntmps28
      go_wp2_with fail
      refine (C3.out _).mono ?_
      rintro e w1 ⟨rfl, l1⟩
      have m1 := ((((Holds.nil w).new2 (.int .u64 ah) (.int .u64 al) 45).new2 (.int .u64 xh) (.int .u64 xl) 45).new2 (.int .u64 bh) (.int .u64 bl) 45).below l1
      have n1 := below_of_alloc (below_of_alloc (below_of_alloc l1))
      obtain ⟨g1, g2, g3⟩ := m1.two
      obtain ⟨g4, g5, g6⟩ := m1.tail.tail.two
      obtain ⟨g7, g8, g9⟩ := m1.tail.tail.tail.tail.two
      simp only [World.size_alloc] at g1 g2 g3 g4 g5 g6 g7 g8 g9
      clear m1 l1
      go_wp2_with fail
      refine (C1.out _ _ _ _ _).mono ?_
      rintro e w2 ⟨rfl, l2⟩
      have h1 := (l2.cell (p := ⟨w.heap.size + 1 + 1, 0, none⟩) g3).trans g1
      have h2 := (l2.cell (p := ⟨w.heap.size + 1 + 1, 1, none⟩) g3).trans g2
      have h4 := (l2.cell (p := ⟨w.heap.size + 1, 0, none⟩) g6).trans g4
      have h5 := (l2.cell (p := ⟨w.heap.size + 1, 1, none⟩) g6).trans g5
      have n2 := below_next n1 l2
      clear g1 g2 g3 g4 g5 g6 g7 g8 g9 n1 l2
      go_wp2_with fail
      refine (C1.out _ _ _ _ _).mono ?_
      rintro e w3 ⟨rfl, l3⟩
      have n3 := below_next n2 l3
      clear h1 h2 h4 h5 l3 n2
      go_wp2_with fail
      go_ret
      exact ⟨rfl, n3⟩
  · rw [hz e]
    rw [e] at c3
    have C3 := Lib.hid c3; clear c3 k hz e k1
    go_enter Try.func28, Try.ntmps28
    go_wp2_with fail
    refine (C3.out _).mono ?_
    rintro e w1 ⟨rfl, l1⟩
    have m1 := ((((Holds.nil w).new2 (.int .u64 ah) (.int .u64 al) 45).new2 (.int .u64 xh) (.int .u64 xl) 45).new2 (.int .u64 bh) (.int .u64 bl) 45).below l1
    have n1 := below_of_alloc (below_of_alloc (below_of_alloc l1))
    obtain ⟨g1, g2, g3⟩ := m1.two
    obtain ⟨g4, g5, g6⟩ := m1.tail.tail.two
    obtain ⟨g7, g8, g9⟩ := m1.tail.tail.tail.tail.two
    simp only [World.size_alloc] at g1 g2 g3 g4 g5 g6 g7 g8 g9
    clear m1 l1
    go_wp2_with fail
    refine (C1.out _ _ _ _ _).mono ?_
    rintro e w2 ⟨rfl, l2⟩
    have h1 := (l2.cell (p := ⟨w.heap.size + 1 + 1, 0, none⟩) g3).trans g1
    have h2 := (l2.cell (p := ⟨w.heap.size + 1 + 1, 1, none⟩) g3).trans g2
    have h4 := (l2.cell (p := ⟨w.heap.size + 1, 0, none⟩) g6).trans g4
    have h5 := (l2.cell (p := ⟨w.heap.size + 1, 1, none⟩) g6).trans g5
    have n2 := below_next n1 l2
    clear g1 g2 g3 g4 g5 g6 g7 g8 g9 n1 l2
    go_wp2_with fail
    refine (C1.out _ _ _ _ _).mono ?_
    rintro e w3 ⟨rfl, l3⟩
    have n3 := below_next n2 l3
    clear h1 h2 h4 h5 l3 n2
    go_wp2_with fail
    go_ret
    exact ⟨rfl, n3⟩

set_option maxHeartbeats 2000000 in
theorem arcsBetween_law (ah : Int) (wah : (Lit.int .u64 ah).wf = true) (al : Int) (wal : (Lit.int .u64 al).wf = true) (xh : Int) (wxh : (Lit.int .u64 xh).wf = true) (xl : Int) (wxl : (Lit.int .u64 xl).wf = true) (bh : Int) (wbh : (Lit.int .u64 bh).wf = true) (bl : Int) (wbl : (Lit.int .u64 bl).wf = true) (w : World) :
    Calls Try.prog 7 #[.agg #[.int .u64 ah, .int .u64 al], .agg #[.int .u64 xh, .int .u64 xl], .agg #[.int .u64 bh, .int .u64 bl]] w (LawOk w) := by
  have C1 := Lib.hid alive_any
  have C2 := Lib.hid (between_any ah al xh xl bh bl)
  have C3 := Lib.hid (rbetween_any ah al xh xl bh bl)
  clear wah wal wxh wxl wbh wbl
  generalize btw ah al xh xl bh bl = r at *
  go_enter Try.func7, Try.ntmps7
  go_wp2_with fail
  have m1 := ((((Holds.nil w).new2 (.int .u64 ah) (.int .u64 al) 45).new2 (.int .u64 xh) (.int .u64 xl) 45).new2 (.int .u64 bh) (.int .u64 bl) 45)
  have hW : Below w.heap.size w (((w.alloc (.cells #[.int .u64 ah, .int .u64 al] 45)).alloc (.cells #[.int .u64 xh, .int .u64 xl] 45)).alloc (.cells #[.int .u64 bh, .int .u64 bl] 45)) := below_alloc (below_alloc (below_alloc (Below.refl _ _) _) _) _
  obtain ⟨g1, g2, g3⟩ := m1.two
  obtain ⟨g4, g5, g6⟩ := m1.tail.tail.two
  obtain ⟨g7, g8, g9⟩ := m1.tail.tail.tail.tail.two
  clear m1
  simp only [World.size_alloc] at g1 g2 g3 g4 g5 g6 g7 g8 g9
  generalize ((w.alloc (.cells #[.int .u64 ah, .int .u64 al] 45)).alloc (.cells #[.int .u64 xh, .int .u64 xl] 45)).alloc (.cells #[.int .u64 bh, .int .u64 bl] 45) = W at *
  have r1 := cell_regrown g1; have r2 := cell_regrown g2; have r4 := cell_regrown g4; have r5 := cell_regrown g5; have r7 := cell_regrown g7; have r8 := cell_regrown g8
  refine wp_region_quiet_below (by kernel_rfl) (by kernel_rfl) ?_
  repeat (go_big_quiet_step (first | (go_at_call 13; exact C1.out.re _ _ _) | (go_at_call 27; exact C2.out.re _ _ _) | (go_at_call 28; exact C3.out.re _ _ _)))
  refine wpQuiet_nil ?_
  intro _ hw'
  obtain ⟨⟨dq, osq⟩, hw''⟩ := hw'
  subst hw''
  have lk := below_regrown W dq osq
  go_wp2_with fail
  go_ret
  exact ⟨by simp, below_next hW lk⟩

end Go.Proofs.Ytjgmgcniemncjaa
