/- The reader of package frame: its faults. -/
import Derived.Test.YtbbafjgbcmlacaaDoorReader
namespace Go.Proofs.YtbbafjgbcmlacaaDoor
open Go.RowKit Go.Sort
set_option linter.unusedVariables false

set_option maxHeartbeats 4000000 in
theorem fault_any (B R : Nat) (ao : Option Addr) (n cap : Nat) (l : List Nat) (hn : n ≤ 131072) (w : World) (ht : Tab w) (hh : Held w B R ao n cap l) :
    Calls Tryd.prog 30 #[.pointer (some ⟨R, 0, none⟩)] w fun e w' => e = .returned (.int .i64 (flt l : Nat)) ∧ Below w.heap.size w w' := by
  have hc := hh.cell
  have hlen := hh.own.len
  have hle := hh.own.le
  have CS := state_any B R ao n cap l hn w hh
  by_cases h0 : n = 0
  · have hst : nst l = 0 := by unfold nst; rw [if_pos (by omega)]
    have HF := Lib.hid (show flt l = 0 by unfold flt; rw [if_neg (by omega), if_neg (by omega), if_neg (by omega)])
    rw [hst] at CS
    have C := Lib.hid CS
    clear hh CS hst hlen
    go_enter Tryd.func30, Tryd.ntmps30
    go_wp2_with fail
    refine C.out.mono ?_
    rintro e w1 ⟨rfl, rfl⟩
    go_wp2_with fail
    go_ret
    exact ⟨ret_int (by rw [HF.out]; rfl), Below.refl _ _⟩
  · obtain ⟨g, o, rfl, hg, hc0⟩ := hh.own.rd.at_ 0 (by omega)
    have hb0 := hh.own.rd.byte 0
    rw [Nat.add_zero] at hc0
    by_cases h1 : n = 1
    · have hst : nst l = 1 := by unfold nst; rw [if_neg (by omega), if_pos (by omega)]
      have HF := Lib.hid (show flt l = if bt l 0 ≠ 84 then 32 else 0 by unfold flt; rw [if_neg (show ¬ (6 ≤ l.length ∧ 65536 < num (l.drop 2)) by omega), if_neg (show ¬ (6 ≤ l.length ∧ _) by omega)]; congr 1; simp; omega)
      rw [hst] at CS
      have C := Lib.hid CS
      clear hh CS hst hlen
      generalize bt l 0 = x0 at *
      by_cases hx : x0 = 84
      · subst hx
        go_enter Tryd.func30, Tryd.ntmps30
        go_wp2_with fail
        refine C.out.mono ?_
        rintro e w1 ⟨rfl, rfl⟩
        go_wp2_with fail
        go_ret
        exact ⟨ret_int (by rw [HF.out, if_neg (by simp)]; rfl), Below.refl _ _⟩
      · go_enter Tryd.func30, Tryd.ntmps30
        go_wp2_with fail
        refine C.out.mono ?_
        rintro e w1 ⟨rfl, rfl⟩
        go_wp2_with fail
        go_ret
        exact ⟨ret_int (by rw [HF.out, if_pos hx]; rfl), Below.refl _ _⟩
    · obtain ⟨g', o', e', _, hc1⟩ := hh.own.rd.at_ 1 (by omega)
      cases e'
      have hb1 := hh.own.rd.byte 1
      by_cases h6 : n < 6
      · have hst : nst l = 2 := by unfold nst; rw [if_neg (by omega), if_neg (by omega), if_pos (by omega)]
        have HF := Lib.hid (show flt l = if bt l 0 ≠ 84 ∨ bt l 1 ≠ 78 then 32 else 0 by unfold flt; rw [if_neg (show ¬ (6 ≤ l.length ∧ 65536 < num (l.drop 2)) by omega), if_neg (show ¬ (6 ≤ l.length ∧ _) by omega)]; congr 1; simp; omega)
        rw [hst] at CS
        have C := Lib.hid CS
        clear hh CS hst hlen
        generalize bt l 0 = x0 at *
        generalize bt l 1 = x1 at *
        go_enter Tryd.func30, Tryd.ntmps30
        go_wp2_with fail
        refine C.out.mono ?_
        rintro e w1 ⟨rfl, rfl⟩
        go_wp2_with fail
        all_goals
          go_ret
          refine ⟨ret_int ?_, Below.refl _ _⟩
          rw [HF.out]
          clear C
          split
          all_goals simp_all
          all_goals omega
      · have W1 := Lib.hid (fun w' (b : Below w.heap.size w w') => word_any _ (n - 2) (cap - 2) (l.drop 2) (by simp; omega) (by omega) w' ((hh.own.rd.offr 2).below b))
        have hN := num_lt (l := l.drop 2) (fun j => by rw [bt_drop]; exact hh.own.rd.byte _)
        by_cases hE : n < 10 + num (l.drop 2)
        · have hst : nst l = 3 := by unfold nst; rw [if_neg (by omega), if_neg (by omega), if_neg (by omega), if_pos (by omega)]
          have HF := Lib.hid (show flt l = if bt l 0 ≠ 84 ∨ bt l 1 ≠ 78 then 32 else if 65536 < num (l.drop 2) then 31 else 0 by
            unfold flt
            rw [if_neg (show ¬ (6 ≤ l.length ∧ 10 + num (l.drop 2) ≤ l.length ∧ _) by omega)]
            congr 1
            · simp; omega
            · congr 1; simp; omega)
          rw [hst] at CS
          have C := Lib.hid CS
          clear hh CS hst hlen
          generalize bt l 0 = x0 at *
          generalize bt l 1 = x1 at *
          generalize num (l.drop 2) = N at *
          go_enter Tryd.func30, Tryd.ntmps30
          go_wp2_with fail
          refine C.out.mono ?_
          rintro e w1 ⟨rfl, rfl⟩
          go_wp2_with fail
          refine (W1.out w (Below.refl _ _)).mono ?_
          rintro e w1 ⟨rfl, rfl⟩
          go_wp2_with fail
          all_goals
            go_ret
            refine ⟨ret_int ?_, Below.refl _ _⟩
            rw [HF.out]
            clear C W1
            repeat' split
            all_goals simp_all
            all_goals omega
        · have hst : nst l = 4 := by unfold nst; rw [if_neg (by omega), if_neg (by omega), if_neg (by omega), if_neg (by omega)]
          have HF := Lib.hid (show flt l = if bt l 0 ≠ 84 ∨ bt l 1 ≠ 78 then 32 else if 65536 < num (l.drop 2) then 31 else if num (l.drop 6) ≠ fsum (l.take (10 + num (l.drop 2))) then 34 else 0 by
            unfold flt
            congr 1
            · simp; omega
            · congr 1
              · simp; omega
              · congr 1; simp; omega)
          have W2 := Lib.hid (fun d os => Calls.regrown_of (same_below (word_any _ (n - 6) (cap - 6) (l.drop 6) (by simp; omega) (by omega) _ ((hh.own.rd.offr 6).below (below_regrown w d os)))))
          have EN := Lib.hid (fun d os => Calls.regrown_of (same_below (end_any B R _ n cap l (by omega) _ (hh.below (below_regrown w d os)))))
          have SM := Lib.hid (fun d os => Calls.regrown_of (sumof_any _ (10 + num (l.drop 2)) cap (l.take (10 + num (l.drop 2))) (by simp; omega) (by omega) (by omega) (by omega) _ (ht.below (below_regrown w d os)) ((hh.own.rd.take _).below (below_regrown w d os))))
          have hM := num_lt (l := l.drop 6) (fun j => by rw [bt_drop]; exact hh.own.rd.byte _)
          have hS := fsum_lt (l.take (10 + num (l.drop 2)))
          have r1 := cell_regrown hc
          have HH := Lib.hid hh
          rw [hst] at CS
          have C := Lib.hid CS
          clear hh CS hst hlen ht
          have hx0 : ∃ x0, x0 = bt l 0 := ⟨_, rfl⟩
          have hx1 : ∃ x1, x1 = bt l 1 := ⟨_, rfl⟩
          obtain ⟨x0, hx0⟩ := hx0
          obtain ⟨x1, hx1⟩ := hx1
          rw [← hx0] at hc0 HF hb0
          rw [← hx1] at hc1 HF hb1
          clear hx0 hx1
          generalize num (l.drop 2) = N at *
          generalize num (l.drop 6) = M at *
          generalize fsum (l.take (10 + N)) = S at *
          go_enter Tryd.func30, Tryd.ntmps30
          go_wp2_with fail
          refine C.out.mono ?_
          rintro e w1 ⟨rfl, rfl⟩
          go_wp2_with fail
          refine wp_region_quiet_below (by kernel_rfl) (by kernel_rfl) ?_
          go_big_quiet_step (fail)
          go_big_quiet_step (fail)
          go_big_quiet_step (fail)
          go_big_quiet_step (fail)
          go_big_quiet_step (fail)
          go_big_quiet_step (exact W2.out _ _)
          go_big_quiet_step (fail)
          go_big_quiet_step (fail)
          go_big_quiet_step (fail)
          go_big_quiet_step (fail)
          go_big_quiet_step (fail)
          go_big_quiet_step (exact EN.out _ _)
          go_big_quiet_step (fail)
          go_big_quiet_step (exact SM.out _ _)
          go_big_quiet_step (fail)
          refine wpQuiet_nil ?_
          intro _ hw'
          obtain ⟨⟨dq, osq⟩, hw''⟩ := hw'
          subst hw''
          have lk := below_regrown w dq osq
          have hc' := r1 dq osq
          have hc0' := (lk.cell (p := ⟨g, o, none⟩) hg).trans hc0
          have hc1' := (lk.cell (p := ⟨g, o + 1, none⟩) hg).trans hc1
          have W3 := Lib.hid (W1.out _ lk)
          generalize grow (redrawn w dq) osq = w1 at *
          clear hc hc0 hc1 r1 W1 W2 EN SM C HH
          by_cases hMS : M = S
          all_goals
            have hne : ((M : Int) != (S : Int)) = decide (M ≠ S) := by
              by_cases h : M = S
              · subst h; simp
              · simp [h]; omega
            first | (rw [decide_eq_true hMS] at hne) | (rw [decide_eq_false (not_not_intro hMS)] at hne; subst hMS)
            go_wp2_with fail
            refine W3.out.mono ?_
            rintro e w2 ⟨rfl, rfl⟩
            go_wp2_with fail
          all_goals
            go_ret
            refine ⟨ret_int ?_, lk⟩
            rw [HF.out]
            clear W3
            repeat' split
            all_goals simp_all
            all_goals omega
end Go.Proofs.YtbbafjgbcmlacaaDoor
