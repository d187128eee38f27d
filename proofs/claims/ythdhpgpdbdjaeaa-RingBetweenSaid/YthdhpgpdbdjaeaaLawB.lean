/- The document's Between; RingBetween: the walk. -/
import Derived.Test.YthdhpgpdbdjaeaaLawN
namespace Go.Proofs.Ythdhpgpdbdjaeaa
open Go.RowKit Go.Sort
set_option linter.unusedVariables false
set_option linter.unusedSimpArgs false
set_option maxRecDepth 100000

theorem btw_iff (ah al xh xl bh bl : Int) : btw ah al xh xl bh bl = true ↔ (ah < bh ∨ ah = bh ∧ al < bl) ∧ ((ah < xh ∨ ah = xh ∧ al < xl) ∧ (xh < bh ∨ xh = bh ∧ xl < bl)) ∨ ¬ (ah < bh ∨ ah = bh ∧ al < bl) ∧ ((ah < xh ∨ ah = xh ∧ al < xl) ∨ (xh < bh ∨ xh = bh ∧ xl < bl)) := by
  unfold btw
  by_cases h : ls ah al bh bl = true
  · rw [if_pos h]; rw [ls_iff] at h; simp only [Bool.and_eq_true, ls_iff]
    constructor
    · intro hh; exact .inl ⟨h, hh⟩
    · rintro (⟨_, hh⟩ | ⟨hn, _⟩)
      · exact hh
      · exact absurd h hn
  · rw [if_neg h]; rw [ls_iff] at h; simp only [Bool.or_eq_true, ls_iff]
    constructor
    · intro hh; exact .inr ⟨h, hh⟩
    · rintro (⟨hn, _⟩ | ⟨_, hh⟩)
      · exact absurd hn h
      · exact hh
theorem btw_ax {ah al bh bl : Int} : btw ah al ah al bh bl = false := by rw [← Bool.not_eq_true, btw_iff]; omega
theorem btw_xb {ah al bh bl : Int} : btw ah al bh bl bh bl = false := by rw [← Bool.not_eq_true, btw_iff]; omega
theorem btw_ab {ah al xh xl : Int} (h : ¬ (xh = ah ∧ xl = al)) : btw ah al xh xl ah al = true := by rw [btw_iff]; omega
theorem btw_turn {ah al xh xl bh bl : Int} (h1 : ¬ (ah = xh ∧ al = xl)) (h2 : ¬ (xh = bh ∧ xl = bl)) (h3 : ¬ (ah = bh ∧ al = bl)) : btw xh xl bh bl ah al = btw ah al xh xl bh bl := by
  rw [Bool.eq_iff_iff, btw_iff, btw_iff]; omega
theorem btw_other {ah al xh xl bh bl : Int} (h1 : ¬ (ah = xh ∧ al = xl)) (h2 : ¬ (xh = bh ∧ xl = bl)) (h3 : ¬ (ah = bh ∧ al = bl)) : btw bh bl xh xl ah al = !btw ah al xh xl bh bl := by
  cases hb : btw ah al xh xl bh bl
  · rw [← Bool.not_eq_true, btw_iff] at hb
    rw [Bool.not_false, btw_iff]; omega
  · rw [btw_iff] at hb
    rw [Bool.not_true, ← Bool.not_eq_true, btw_iff]; omega

theorem beq_no {a b c d : Int} (h : ¬ (a = c ∧ b = d)) : (a == c && b == d) = false := by
  by_cases h1 : a = c
  · have : ¬ b = d := fun e => h ⟨h1, e⟩
    simp [this]
  · simp [h1]
set_option maxHeartbeats 4000000 in
/-- the document's answer -/
theorem rbetween_any (ah al xh xl bh bl : Int) : Ret 9 #[pos ah al, pos xh xl, pos bh bl] (.returned (.bool (btw ah al xh xl bh bl))) := by
  intro w
  have EQ := eql_pos
  have T0 := Lib.hid (three_is w ah al xh xl bh bl)
  have B0 := Lib.hid (three_below w ah al xh xl bh bl)
  by_cases e1 : xh = ah ∧ xl = al
  · obtain ⟨rfl, rfl⟩ := e1
    rw [btw_ax]
    have q1 : (xh == xh && xl == xl) = true := by simp
    go_enter Try.func9, Try.ntmps9
    go_upto_region 1 with (fail)
    have t0 := T0.out
    have b0 := B0.out
    change Code.wp _ _ _ _ (three w xh xl xh xl bh bl)
    generalize three w xh xl xh xl bh bl = w1 at *
    obtain ⟨c0, c1, c2, c3, c4, c5, _⟩ := t0
    go_wp2_with fail
    go_ret
    exact ⟨rfl, b0⟩
  by_cases e2 : xh = bh ∧ xl = bl
  · obtain ⟨rfl, rfl⟩ := e2
    rw [btw_xb]
    have q1 := beq_no e1
    have q2 : (xh == xh && xl == xl) = true := by simp
    clear e1
    go_enter Try.func9, Try.ntmps9
    go_upto_region 1 with (fail)
    have t0 := T0.out
    have b0 := B0.out
    change Code.wp _ _ _ _ (three w ah al xh xl xh xl)
    generalize three w ah al xh xl xh xl = w1 at *
    obtain ⟨c0, c1, c2, c3, c4, c5, _⟩ := t0
    go_wp2_with fail
    go_ret
    exact ⟨rfl, b0⟩
  by_cases e3 : ah = bh ∧ al = bl
  · obtain ⟨rfl, rfl⟩ := e3
    rw [btw_ab e1]
    have q1 := beq_no e1
    have q2 : (ah == ah && al == al) = true := by simp
    clear e1 e2
    go_enter Try.func9, Try.ntmps9
    go_upto_region 1 with (fail)
    have t0 := T0.out
    have b0 := B0.out
    change Code.wp _ _ _ _ (three w ah al xh xl ah al)
    generalize three w ah al xh xl ah al = w1 at *
    obtain ⟨c0, c1, c2, c3, c4, c5, _⟩ := t0
    go_wp2_with fail
    go_ret
    exact ⟨rfl, b0⟩
  have q1 := beq_no e1
  have q2 := beq_no e2
  have q3 := beq_no e3
  clear e1 e2 e3
  have C1 := rless_any ah al bh bl
  have C2 := rless_any ah al xh xl
  have C3 := rless_any xh xl bh bl
  unfold btw
  generalize ls ah al bh bl = p at *
  generalize ls ah al xh xl = q at *
  generalize ls xh xl bh bl = r at *
  have C1 := Lib.hid C1; have C2 := Lib.hid C2; have C3 := Lib.hid C3
  cases p <;> cases q
  all_goals
    go_enter Try.func9, Try.ntmps9
    go_upto_region 1 with (fail)
    have t0 := T0.out
    have b0 := B0.out
    change Code.wp _ _ _ _ (three w ah al xh xl bh bl)
    generalize three w ah al xh xl bh bl = w1 at *
    obtain ⟨c0, c1, c2, c3, c4, c5, _⟩ := t0
    go_wp2_with fail
    refine (C2.out _).mono ?_; rintro e w2 ⟨rfl, b2⟩
    have t2 := T0.out.below b2
    have BB := Lib.hid (below_next b0 b2)
    clear c0 c1 c2 c3 c4 c5 T0 B0 b0 b2
    have T2 := Lib.hid t2
    obtain ⟨c0, c1, c2, c3, c4, c5, _⟩ := t2
    go_wp2_with fail
    refine (C3.out _).mono ?_; rintro e w3 ⟨rfl, b3⟩
    have t3 := T2.out.below b3
    have BB := Lib.hid (below_next BB.out b3)
    clear c0 c1 c2 c3 c4 c5 T2 b3
    obtain ⟨c0, c1, c2, c3, c4, c5, _⟩ := t3
    go_wp2_with fail
    refine (C1.out _).mono ?_; rintro e w4 ⟨rfl, b4⟩
    have BB := Lib.hid (below_next BB.out b4)
    clear b4 c0 c1 c2 c3 c4 c5
    go_wp2_with fail
    go_ret
    exact ⟨by simp, BB.out⟩



set_option maxHeartbeats 8000000 in
theorem ringBetween_law (ah : Int) (w0 : (Lit.int .u64 ah).wf = true) (al : Int) (w1 : (Lit.int .u64 al).wf = true) (xh : Int) (w2 : (Lit.int .u64 xh).wf = true) (xl : Int) (w3 : (Lit.int .u64 xl).wf = true) (bh : Int) (w4 : (Lit.int .u64 bh).wf = true) (bl : Int) (w5 : (Lit.int .u64 bl).wf = true) (W : World) :
    Calls Try.prog 3 #[pos ah al, pos xh xl, pos bh bl] W (LawOk W) := by
  clear w0 w1 w2 w3 w4 w5
  have EQ := eql_pos
  have NQ := neq_pos
  have P1 := Lib.hid (between_any ah al xh xl bh bl)
  have R1 := Lib.hid (rbetween_any ah al xh xl bh bl)
  have P2 := Lib.hid (between_any bh bl xh xl ah al)
  have P3 := Lib.hid (between_any xh xl bh bl ah al)
  have P4 := Lib.hid (between_any bh bl ah al xh xl)
  have T0 := Lib.hid (three_is W ah al xh xl bh bl)
  have B0 := Lib.hid (three_below W ah al xh xl bh bl)
  go_enter Try.func3, Try.ntmps3
  go_upto_region 1 with (fail)
  have t0 := T0.out
  have b0 := B0.out
  change Code.wp _ _ _ _ (three W ah al xh xl bh bl)
  generalize three W ah al xh xl bh bl = v0 at *
  have T1 := Lib.hid t0
  have BB := Lib.hid b0
  clear T0 B0 t0 b0
  go_wp2_with fail
  refine (awake_any _).mono ?_; rintro e v1 ⟨rfl, b1⟩
  have t1 := T1.out.below b1
  have BB := Lib.hid (below_next BB.out b1)
  clear b1 T1
  try clear c0 c1 c2 c3 c4 c5
  have T1 := Lib.hid t1
  obtain ⟨c0, c1, c2, c3, c4, c5, _⟩ := t1
  go_wp2_with fail
  refine (P1.out _).mono ?_; rintro e v1 ⟨rfl, b1⟩
  have t1 := T1.out.below b1
  have BB := Lib.hid (below_next BB.out b1)
  clear b1 T1
  try clear c0 c1 c2 c3 c4 c5
  have T1 := Lib.hid t1
  obtain ⟨c0, c1, c2, c3, c4, c5, _⟩ := t1
  generalize hB : btw ah al xh xl bh bl = B at *
  have HB := Lib.hid hB
  clear hB
  go_wp2_with fail
  refine (R1.out _).mono ?_; rintro e v1 ⟨rfl, b1⟩
  have t1 := T1.out.below b1
  have BB := Lib.hid (below_next BB.out b1)
  clear b1 T1
  try clear c0 c1 c2 c3 c4 c5
  have T1 := Lib.hid t1
  obtain ⟨c0, c1, c2, c3, c4, c5, _⟩ := t1
  have hBB : (B != B) = false := by simp
  by_cases e1 : ah = xh ∧ al = xl
  · obtain ⟨rfl, rfl⟩ := e1
    have q1 : (ah == ah && al == al) = true := by simp
    obtain rfl : false = B := by rw [← HB.out, btw_ax]
    by_cases e3 : ah = bh ∧ al = bl
    · obtain ⟨rfl, rfl⟩ := e3
      go_wp2_with fail
      go_ret
      exact ⟨rfl, BB.out⟩
    have q3 := beq_no e3
    clear e3
    go_wp2_with fail
    go_ret
    exact ⟨rfl, BB.out⟩
  by_cases e2 : xh = bh ∧ xl = bl
  · obtain ⟨rfl, rfl⟩ := e2
    have q1 := beq_no e1
    have q2 : (xh == xh && xl == xl) = true := by simp
    obtain rfl : false = B := by rw [← HB.out, btw_xb]
    clear e1
    go_wp2_with fail
    go_ret
    exact ⟨rfl, BB.out⟩
  by_cases e3 : ah = bh ∧ al = bl
  · obtain ⟨rfl, rfl⟩ := e3
    have e4 : ¬ (xh = ah ∧ xl = al) := fun h => e1 ⟨h.1.symm, h.2.symm⟩
    have q1 := beq_no e1
    have q2 := beq_no e2
    have q4 := beq_no e4
    have q3 : (ah == ah && al == al) = true := by simp
    obtain rfl : true = B := by rw [← HB.out, btw_ab e4]
    clear e1 e2 e4
    go_wp2_with fail
    go_ret
    exact ⟨rfl, BB.out⟩
  have q1 := beq_no e1
  have q2 := beq_no e2
  have q3 := beq_no e3
  have P2 := P2.out; have P3 := P3.out; have P4 := P4.out
  rw [btw_other e1 e2 e3, HB.out] at P2
  rw [btw_turn e1 e2 e3, HB.out] at P3
  rw [btw_turn (ah := xh) (al := xl) (xh := bh) (xl := bl) (bh := ah) (bl := al) e2 (fun h => e3 ⟨h.1.symm, h.2.symm⟩) (fun h => e1 ⟨h.1.symm, h.2.symm⟩), btw_turn e1 e2 e3, HB.out] at P4
  have P2 := Lib.hid P2; have P3 := Lib.hid P3; have P4 := Lib.hid P4
  clear e1 e2 e3 HB
  cases B
  all_goals
    go_wp2_with fail
    refine (P2.out _).mono ?_; rintro e v2 ⟨rfl, b1⟩
    have t1 := T1.out.below b1
    have BB := Lib.hid (below_next BB.out b1)
    clear b1 T1
    try clear c0 c1 c2 c3 c4 c5
    have T1 := Lib.hid t1
    obtain ⟨c0, c1, c2, c3, c4, c5, _⟩ := t1
    go_wp2_with fail
    refine (P3.out _).mono ?_; rintro e v3 ⟨rfl, b1⟩
    have t1 := T1.out.below b1
    have BB := Lib.hid (below_next BB.out b1)
    clear b1 T1
    try clear c0 c1 c2 c3 c4 c5
    have T1 := Lib.hid t1
    obtain ⟨c0, c1, c2, c3, c4, c5, _⟩ := t1
    go_wp2_with fail
    refine (P4.out _).mono ?_; rintro e v4 ⟨rfl, b1⟩
    have t1 := T1.out.below b1
    have BB := Lib.hid (below_next BB.out b1)
    clear b1 T1
    try clear c0 c1 c2 c3 c4 c5
    have T1 := Lib.hid t1
    obtain ⟨c0, c1, c2, c3, c4, c5, _⟩ := t1
    go_wp2_with fail
    go_ret
    exact ⟨rfl, BB.out⟩
end Go.Proofs.Ythdhpgpdbdjaeaa
