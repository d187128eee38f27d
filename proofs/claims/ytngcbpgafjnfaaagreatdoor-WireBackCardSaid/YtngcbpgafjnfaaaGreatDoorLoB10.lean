/- The coder's structs and lists of them (gen_structs.py). The coder's structs and lists of them (gen_structs.py). -/
import Derived.Test.YtngcbpgafjnfaaaGreatDoorLoB9
set_option linter.unusedSimpArgs false
set_option linter.unusedVariables false

namespace Go.Proofs.YtngcbpgafjnfaaaGreatDoor
open Go.RowKit Go.Sort
set_option linter.unusedVariables false

/-- ans -/
def ansK : Kd Ans := ⟨ansC, 4, ⟨0, 0, 0, []⟩, fun w N cs a => ∃ c0 c1 c2 c3, cs = c0 ++ (c1 ++ (c2 ++ (c3))) ∧ (natK .u32 4 4294967295).is w N c0 a.round ∧ (natK .u32 4 4294967295).is w N c1 a.inc ∧ (natK .u32 4 4294967295).is w N c2 a.ver ∧ (listK entK 8).is w N c3 a.data⟩
theorem ansK_fine : ansK.Fine := by
  refine ⟨fun w N cs a ha => ?_, fun w w' N P cs a ha hs hN => ?_, fun w N M cs a ha hm => ?_⟩
  · obtain ⟨c0, c1, c2, c3, rfl, h0, h1, h2, h3⟩ := ha
    have s0 := (natK_okay (kd := .u32) (size := 4) (most := 4294967295) (by decide) (by decide)).fine.size _ _ _ _ h0; have s1 := (natK_okay (kd := .u32) (size := 4) (most := 4294967295) (by decide) (by decide)).fine.size _ _ _ _ h1; have s2 := (natK_okay (kd := .u32) (size := 4) (most := 4294967295) (by decide) (by decide)).fine.size _ _ _ _ h2; have s3 := (listK_okay entK_okay (max := 8) (by decide)).fine.size _ _ _ _ h3
    change c0.length = 1 at s0; change c1.length = 1 at s1; change c2.length = 1 at s2; change c3.length = 1 at s3
    show _ = 4
    simp only [List.length_append]; omega
  · obtain ⟨c0, c1, c2, c3, e, h0, h1, h2, h3⟩ := ha
    exact ⟨c0, c1, c2, c3, e, (natK_okay (kd := .u32) (size := 4) (most := 4294967295) (by decide) (by decide)).fine.safe _ _ _ _ _ _ h0 hs hN, (natK_okay (kd := .u32) (size := 4) (most := 4294967295) (by decide) (by decide)).fine.safe _ _ _ _ _ _ h1 hs hN, (natK_okay (kd := .u32) (size := 4) (most := 4294967295) (by decide) (by decide)).fine.safe _ _ _ _ _ _ h2 hs hN, (listK_okay entK_okay (max := 8) (by decide)).fine.safe _ _ _ _ _ _ h3 hs hN⟩
  · obtain ⟨c0, c1, c2, c3, e, h0, h1, h2, h3⟩ := ha
    exact ⟨c0, c1, c2, c3, e, (natK_okay (kd := .u32) (size := 4) (most := 4294967295) (by decide) (by decide)).fine.mono _ _ _ _ _ h0 hm, (natK_okay (kd := .u32) (size := 4) (most := 4294967295) (by decide) (by decide)).fine.mono _ _ _ _ _ h1 hm, (natK_okay (kd := .u32) (size := 4) (most := 4294967295) (by decide) (by decide)).fine.mono _ _ _ _ _ h2 hm, (listK_okay entK_okay (max := 8) (by decide)).fine.mono _ _ _ _ _ h3 hm⟩
theorem step_ans (md : Bool) (l : List Nat) (a : Ans) : step ansC md l a = (step four_ md l a.round).bind fun p0 => (step four_ md p0.1 a.inc).bind fun p1 => (step four_ md p1.1 a.ver).bind fun p2 => (step entsC md p2.1 a.data).bind fun p3 => some (p3.1, ⟨p0.2, p1.2, p2.2, p3.2⟩) := by
  unfold ansC
  rw [step_map _ _ _ _ _ _ (fun _ => rfl)]
  simp only [step_two, Option.map_bind, Option.bind_assoc, Option.bind_some, Option.map_some, Function.comp_def]
theorem ansK_okay : ansK.Okay 4832 := ⟨ansK_fine, ans_good, fun a ha => enc_len (c := ansC) ha fun p hp => by
  rw [step_ans] at hp
  obtain ⟨p0, e0, hp⟩ := bind_some_of hp
  have t0 := okay_stepw (natK_okay (kd := .u32) (size := 4) (most := 4294967295) (by decide) (by decide)) (show step (natK .u32 4 4294967295).cod false _ _ = _ from e0)
  obtain ⟨p1, e1, hp⟩ := bind_some_of hp
  have t1 := okay_stepw (natK_okay (kd := .u32) (size := 4) (most := 4294967295) (by decide) (by decide)) (show step (natK .u32 4 4294967295).cod false _ _ = _ from e1)
  obtain ⟨p2, e2, hp⟩ := bind_some_of hp
  have t2 := okay_stepw (natK_okay (kd := .u32) (size := 4) (most := 4294967295) (by decide) (by decide)) (show step (natK .u32 4 4294967295).cod false _ _ = _ from e2)
  obtain ⟨p3, e3, hp⟩ := bind_some_of hp
  have t3 := okay_stepw (listK_okay entK_okay (max := 8) (by decide)) (show step (listK entK 8).cod false _ _ = _ from e3)
  injection hp with hp
  subst hp
  simp at *
  omega⟩

set_option maxHeartbeats 8000000 in
theorem ans_codes : Codes 121 [] ansK 4832 := by
  intro md P N gc sb f l g o cs a w hcd hz his hcs hN hw hr hg hne hl
  obtain ⟨c0, c1, c2, c3, rfl, h0, h1, h2, h3⟩ := his
  have s0 := (natK_okay (kd := .u32) (size := 4) (most := 4294967295) (by decide) (by decide)).fine.size _ _ _ _ h0; change c0.length = 1 at s0
  have s1 := (natK_okay (kd := .u32) (size := 4) (most := 4294967295) (by decide) (by decide)).fine.size _ _ _ _ h1; change c1.length = 1 at s1
  have s2 := (natK_okay (kd := .u32) (size := 4) (most := 4294967295) (by decide) (by decide)).fine.size _ _ _ _ h2; change c2.length = 1 at s2
  have s3 := (listK_okay entK_okay (max := 8) (by decide)).fine.size _ _ _ _ h3; change c3.length = 1 at s3
  have k0 := cells_left hcs; have r0 := cells_right hcs; rw [s0] at r0
  have k1 := cells_left r0; have r1 := cells_right r0; rw [s1] at r1
  rw [Nat.add_assoc] at r1
  have k2 := cells_left r1; have r2 := cells_right r1; rw [s2] at r2
  rw [Nat.add_assoc] at r2
  have k3 := r2
  have M0 := Lib.hid (Mid.start (sz := 4) hcd (show Slots w (Grow md N w w) g o [(natK .u32 4 4294967295).slot 0 a.round, (natK .u32 4 4294967295).slot 1 a.inc, (natK .u32 4 4294967295).slot 2 a.ver, (listK entK 8).slot 3 a.data] from ⟨⟨c0, (natK_okay (kd := .u32) (size := 4) (most := 4294967295) (by decide) (by decide)).fine.mono _ _ (Grow md N w w) _ _ h0 (fun b hb => Or.inl hb), k0⟩, ⟨⟨c1, (natK_okay (kd := .u32) (size := 4) (most := 4294967295) (by decide) (by decide)).fine.mono _ _ (Grow md N w w) _ _ h1 (fun b hb => Or.inl hb), k1⟩, ⟨⟨c2, (natK_okay (kd := .u32) (size := 4) (most := 4294967295) (by decide) (by decide)).fine.mono _ _ (Grow md N w w) _ _ h2 (fun b hb => Or.inl hb), k2⟩, ⟨⟨c3, (listK_okay entK_okay (max := 8) (by decide)).fine.mono _ _ (Grow md N w w) _ _ h3 (fun b hb => Or.inl hb), k3⟩, trivial⟩⟩⟩⟩))
  have Z0 := Lib.hid (show md = true → a.round = (natK .u32 4 4294967295).zero from fun h => by rw [hz h]; rfl)
  have Z1 := Lib.hid (show md = true → a.inc = (natK .u32 4 4294967295).zero from fun h => by rw [hz h]; rfl)
  have Z2 := Lib.hid (show md = true → a.ver = (natK .u32 4 4294967295).zero from fun h => by rw [hz h]; rfl)
  have Z3 := Lib.hid (show md = true → a.data = (listK entK 8).zero from fun h => by rw [hz h]; rfl)
  show Calls _ _ #[.pointer (some ⟨gc, 0, none⟩), .pointer (some ⟨g, o, none⟩)] w (Coded md P N gc sb f g o ansK w (step ansC md l a))
  have HR := Lib.hid (step_ans md l a)
  generalize step ansC md l a = r at *
  have HN := Lib.hid hN; have HW := Lib.hid hw; have HRD := Lib.hid hr
  clear hcd hz hcs hN hw hr h0 s0 k0 h1 s1 k1 h2 s2 k2 h3 s3 k3 r0 r1 r2
  go_enter Tryz.func121, Tryz.ntmps121
  have CALL := Lib.hid (M0.out.call (natK_okay (kd := .u32) (size := 4) (most := 4294967295) (by decide) (by decide)).fine word_codes Z0.out HN.out HW.out HRD.out hg hne (by omega) (Nat.le_of_ble_eq_true rfl) trivial ⟨(natK_okay (kd := .u32) (size := 4) (most := 4294967295) (by decide) (by decide)).fine.slot _ _, ⟨(natK_okay (kd := .u32) (size := 4) (most := 4294967295) (by decide) (by decide)).fine.slot _ _, ⟨(listK_okay entK_okay (max := 8) (by decide)).fine.slot _ _, trivial⟩⟩⟩ trivial ⟨.inr (Nat.le_of_ble_eq_true rfl), ⟨.inr (Nat.le_of_ble_eq_true rfl), ⟨.inr (Nat.le_of_ble_eq_true rfl), trivial⟩⟩⟩)
  rw [Nat.add_zero] at CALL
  cases e0 : step (natK .u32 4 4294967295).cod md l a.round with
  | none =>
    rw [e0] at CALL
    have hr0 : r = none := by
      have h9 := HR.out
      change step four_ md l a.round = _ at e0; rw [e0] at h9; exact h9
    clear e0
    subst hr0
    go_wp2_with fail
    refine CALL.out.mono ?_
    rintro e w' ⟨h8, a', h9, h10, rfl, h11⟩
    exact ⟨rfl, coded_gave ⟨a', h9, h10, rfl, h11⟩ h8⟩
  | some p0 =>
    rw [e0] at CALL
    have hlen0 := (natK_okay (kd := .u32) (size := 4) (most := 4294967295) (by decide) (by decide)).step M0.out.cd.bytes_of e0
    have E0 := Lib.hid e0
    clear e0
    go_wp2_with fail
    refine CALL.out.mono ?_
    rintro e w1 ⟨rfl, hM⟩
    have M1 := Lib.hid hM
    clear hM CALL
    have CALL := Lib.hid (M1.out.call (natK_okay (kd := .u32) (size := 4) (most := 4294967295) (by decide) (by decide)).fine word_codes Z1.out HN.out HW.out HRD.out hg hne (by omega) (Nat.le_of_ble_eq_true rfl) ⟨(natK_okay (kd := .u32) (size := 4) (most := 4294967295) (by decide) (by decide)).fine.slot _ _, trivial⟩ ⟨(natK_okay (kd := .u32) (size := 4) (most := 4294967295) (by decide) (by decide)).fine.slot _ _, ⟨(listK_okay entK_okay (max := 8) (by decide)).fine.slot _ _, trivial⟩⟩ ⟨.inl (Nat.le_of_ble_eq_true rfl), trivial⟩ ⟨.inr (Nat.le_of_ble_eq_true rfl), ⟨.inr (Nat.le_of_ble_eq_true rfl), trivial⟩⟩)
    cases e1 : step (natK .u32 4 4294967295).cod md p0.1 a.inc with
    | none =>
      rw [e1] at CALL
      have hr0 : r = none := by
        have h9 := HR.out
        have hh0 := E0.out; change step four_ md l a.round = _ at hh0; rw [hh0] at h9; simp only [Option.bind_some] at h9
        change step four_ md p0.1 a.inc = _ at e1; rw [e1] at h9; exact h9
      clear e1
      subst hr0
      go_wp2_with fail
      refine CALL.out.mono ?_
      rintro e w' ⟨h8, a', h9, h10, rfl, h11⟩
      exact ⟨rfl, coded_gave ⟨a', h9, h10, rfl, h11⟩ h8⟩
    | some p1 =>
      rw [e1] at CALL
      have hlen1 := (natK_okay (kd := .u32) (size := 4) (most := 4294967295) (by decide) (by decide)).step M1.out.cd.bytes_of e1
      have E1 := Lib.hid e1
      clear e1
      go_wp2_with fail
      refine CALL.out.mono ?_
      rintro e w2 ⟨rfl, hM⟩
      have M2 := Lib.hid hM
      clear hM CALL
      have CALL := Lib.hid (M2.out.call (natK_okay (kd := .u32) (size := 4) (most := 4294967295) (by decide) (by decide)).fine word_codes Z2.out HN.out HW.out HRD.out hg hne (by omega) (Nat.le_of_ble_eq_true rfl) ⟨(natK_okay (kd := .u32) (size := 4) (most := 4294967295) (by decide) (by decide)).fine.slot _ _, ⟨(natK_okay (kd := .u32) (size := 4) (most := 4294967295) (by decide) (by decide)).fine.slot _ _, trivial⟩⟩ ⟨(listK_okay entK_okay (max := 8) (by decide)).fine.slot _ _, trivial⟩ ⟨.inl (Nat.le_of_ble_eq_true rfl), ⟨.inl (Nat.le_of_ble_eq_true rfl), trivial⟩⟩ ⟨.inr (Nat.le_of_ble_eq_true rfl), trivial⟩)
      cases e2 : step (natK .u32 4 4294967295).cod md p1.1 a.ver with
      | none =>
        rw [e2] at CALL
        have hr0 : r = none := by
          have h9 := HR.out
          have hh0 := E0.out; change step four_ md l a.round = _ at hh0; rw [hh0] at h9; simp only [Option.bind_some] at h9
          have hh1 := E1.out; change step four_ md p0.1 a.inc = _ at hh1; rw [hh1] at h9; simp only [Option.bind_some] at h9
          change step four_ md p1.1 a.ver = _ at e2; rw [e2] at h9; exact h9
        clear e2
        subst hr0
        go_wp2_with fail
        refine CALL.out.mono ?_
        rintro e w' ⟨h8, a', h9, h10, rfl, h11⟩
        exact ⟨rfl, coded_gave ⟨a', h9, h10, rfl, h11⟩ h8⟩
      | some p2 =>
        rw [e2] at CALL
        have hlen2 := (natK_okay (kd := .u32) (size := 4) (most := 4294967295) (by decide) (by decide)).step M2.out.cd.bytes_of e2
        have E2 := Lib.hid e2
        clear e2
        go_wp2_with fail
        refine CALL.out.mono ?_
        rintro e w3 ⟨rfl, hM⟩
        have M3 := Lib.hid hM
        clear hM CALL
        have CALL := Lib.hid (M3.out.call (listK_okay entK_okay (max := 8) (by decide)).fine entries_codes Z3.out HN.out HW.out HRD.out hg hne (by omega) (Nat.le_of_ble_eq_true rfl) ⟨(natK_okay (kd := .u32) (size := 4) (most := 4294967295) (by decide) (by decide)).fine.slot _ _, ⟨(natK_okay (kd := .u32) (size := 4) (most := 4294967295) (by decide) (by decide)).fine.slot _ _, ⟨(natK_okay (kd := .u32) (size := 4) (most := 4294967295) (by decide) (by decide)).fine.slot _ _, trivial⟩⟩⟩ trivial ⟨.inl (Nat.le_of_ble_eq_true rfl), ⟨.inl (Nat.le_of_ble_eq_true rfl), ⟨.inl (Nat.le_of_ble_eq_true rfl), trivial⟩⟩⟩ trivial)
        cases e3 : step (listK entK 8).cod md p2.1 a.data with
        | none =>
          rw [e3] at CALL
          have hr0 : r = none := by
            have h9 := HR.out
            have hh0 := E0.out; change step four_ md l a.round = _ at hh0; rw [hh0] at h9; simp only [Option.bind_some] at h9
            have hh1 := E1.out; change step four_ md p0.1 a.inc = _ at hh1; rw [hh1] at h9; simp only [Option.bind_some] at h9
            have hh2 := E2.out; change step four_ md p1.1 a.ver = _ at hh2; rw [hh2] at h9; simp only [Option.bind_some] at h9
            change step entsC md p2.1 a.data = _ at e3; rw [e3] at h9; exact h9
          clear e3
          subst hr0
          go_wp2_with fail
          refine CALL.out.mono ?_
          rintro e w' ⟨h8, a', h9, h10, rfl, h11⟩
          exact ⟨rfl, coded_gave ⟨a', h9, h10, rfl, h11⟩ h8⟩
        | some p3 =>
          rw [e3] at CALL
          have hlen3 := (listK_okay entK_okay (max := 8) (by decide)).step M3.out.cd.bytes_of e3
          have E3 := Lib.hid e3
          clear e3
          go_wp2_with fail
          refine CALL.out.mono ?_
          rintro e w4 ⟨rfl, hM⟩
          have M4 := Lib.hid hM
          clear hM CALL
          have hr0 : r = some (p3.1, ⟨p0.2, p1.2, p2.2, p3.2⟩) := by
            have h9 := HR.out
            have hh0 := E0.out; change step four_ md l a.round = _ at hh0; rw [hh0] at h9; simp only [Option.bind_some] at h9
            have hh1 := E1.out; change step four_ md p0.1 a.inc = _ at hh1; rw [hh1] at h9; simp only [Option.bind_some] at h9
            have hh2 := E2.out; change step four_ md p1.1 a.ver = _ at hh2; rw [hh2] at h9; simp only [Option.bind_some] at h9
            have hh3 := E3.out; change step entsC md p2.1 a.data = _ at hh3; rw [hh3] at h9; simp only [Option.bind_some] at h9
            first | exact h9 | (rw [hb]; exact h9)
          subst hr0
          go_wp2_with fail
          go_end0
          have M := M4.out
          obtain ⟨⟨d3, q3, x3⟩, ⟨d2, q2, x2⟩, ⟨d1, q1, x1⟩, ⟨d0, q0, x0⟩, _⟩ := M.dn
          change (natK .u32 4 4294967295).is w4 (Grow md N w w4) d0 p0.2 at q0
          have t0 := (natK_okay (kd := .u32) (size := 4) (most := 4294967295) (by decide) (by decide)).fine.size _ _ _ _ q0; change d0.length = 1 at t0; change Cells _ g (o + 0) d0 at x0
          change (natK .u32 4 4294967295).is w4 (Grow md N w w4) d1 p1.2 at q1
          have t1 := (natK_okay (kd := .u32) (size := 4) (most := 4294967295) (by decide) (by decide)).fine.size _ _ _ _ q1; change d1.length = 1 at t1; change Cells _ g (o + 1) d1 at x1
          change (natK .u32 4 4294967295).is w4 (Grow md N w w4) d2 p2.2 at q2
          have t2 := (natK_okay (kd := .u32) (size := 4) (most := 4294967295) (by decide) (by decide)).fine.size _ _ _ _ q2; change d2.length = 1 at t2; change Cells _ g (o + 2) d2 at x2
          change (listK entK 8).is w4 (Grow md N w w4) d3 p3.2 at q3
          have t3 := (listK_okay entK_okay (max := 8) (by decide)).fine.size _ _ _ _ q3; change d3.length = 1 at t3; change Cells _ g (o + 3) d3 at x3
          have y2 := cells_join x2 (show Cells _ g (o + 2 + d2.length) _ from by rw [t2, Nat.add_assoc]; exact x3)
          have y1 := cells_join x1 (show Cells _ g (o + 1 + d1.length) _ from by rw [t1, Nat.add_assoc]; exact y2)
          have y0 := cells_join x0 (show Cells _ g (o + 0 + d0.length) _ from by rw [t0, Nat.add_assoc]; exact y1)
          exact ⟨M.safe, rfl, M.cd, ⟨d0 ++ (d1 ++ (d2 ++ (d3))), ⟨d0, d1, d2, d3, rfl, q0, q1, q2, q3⟩, by rw [Nat.add_zero] at y0; exact y0⟩, M.out, M.fz⟩

/-- itm -/
def itmK : Kd Itm := ⟨itmC, 8, ⟨0, 0, false, [], [0, 0, 0, 0]⟩, fun w N cs a => ∃ c0 c1 c2 c3 c4, cs = c0 ++ (c1 ++ (c2 ++ (c3 ++ (c4)))) ∧ (intK 1 63).is w N c0 a.bucket ∧ (natK .u32 4 4294967295).is w N c1 a.ver ∧ flagK.is w N c2 a.write ∧ (listK entK 8).is w N c3 a.data ∧ incsK.is w N c4 a.incs⟩
theorem itmK_fine : itmK.Fine := by
  refine ⟨fun w N cs a ha => ?_, fun w w' N P cs a ha hs hN => ?_, fun w N M cs a ha hm => ?_⟩
  · obtain ⟨c0, c1, c2, c3, c4, rfl, h0, h1, h2, h3, h4⟩ := ha
    have s0 := (intK_okay (size := 1) (most := 63) (by decide) (by decide)).fine.size _ _ _ _ h0; have s1 := (natK_okay (kd := .u32) (size := 4) (most := 4294967295) (by decide) (by decide)).fine.size _ _ _ _ h1; have s2 := flagK_okay.fine.size _ _ _ _ h2; have s3 := (listK_okay entK_okay (max := 8) (by decide)).fine.size _ _ _ _ h3; have s4 := (rowK_okay (natK_okay (kd := .u32) (size := 4) (most := 4294967295) (by decide) (by decide)) _ _ 4).fine.size _ _ _ _ h4
    change c0.length = 1 at s0; change c1.length = 1 at s1; change c2.length = 1 at s2; change c3.length = 1 at s3; change c4.length = 4 at s4
    show _ = 8
    simp only [List.length_append]; omega
  · obtain ⟨c0, c1, c2, c3, c4, e, h0, h1, h2, h3, h4⟩ := ha
    exact ⟨c0, c1, c2, c3, c4, e, (intK_okay (size := 1) (most := 63) (by decide) (by decide)).fine.safe _ _ _ _ _ _ h0 hs hN, (natK_okay (kd := .u32) (size := 4) (most := 4294967295) (by decide) (by decide)).fine.safe _ _ _ _ _ _ h1 hs hN, flagK_okay.fine.safe _ _ _ _ _ _ h2 hs hN, (listK_okay entK_okay (max := 8) (by decide)).fine.safe _ _ _ _ _ _ h3 hs hN, (rowK_okay (natK_okay (kd := .u32) (size := 4) (most := 4294967295) (by decide) (by decide)) _ _ 4).fine.safe _ _ _ _ _ _ h4 hs hN⟩
  · obtain ⟨c0, c1, c2, c3, c4, e, h0, h1, h2, h3, h4⟩ := ha
    exact ⟨c0, c1, c2, c3, c4, e, (intK_okay (size := 1) (most := 63) (by decide) (by decide)).fine.mono _ _ _ _ _ h0 hm, (natK_okay (kd := .u32) (size := 4) (most := 4294967295) (by decide) (by decide)).fine.mono _ _ _ _ _ h1 hm, flagK_okay.fine.mono _ _ _ _ _ h2 hm, (listK_okay entK_okay (max := 8) (by decide)).fine.mono _ _ _ _ _ h3 hm, (rowK_okay (natK_okay (kd := .u32) (size := 4) (most := 4294967295) (by decide) (by decide)) _ _ 4).fine.mono _ _ _ _ _ h4 hm⟩
theorem step_itm (md : Bool) (l : List Nat) (a : Itm) : step itmC md l a = (step bucketC md l a.bucket).bind fun p0 => (step four_ md p0.1 a.ver).bind fun p1 => (step flag md p1.1 a.write).bind fun p2 => (step (rep four_ 4) md p2.1 a.incs).bind fun p4 => (step (dataC p2.2) md p4.1 a.data).bind fun p3 => some (p3.1, ⟨p0.2, p1.2, p2.2, p3.2, p4.2⟩) := by
  unfold itmC
  rw [step_map _ _ _ _ _ _ (fun _ => rfl)]
  simp only [step_two, step_dep, Option.map_bind, Option.bind_assoc, Option.bind_some, Option.map_some, Function.comp_def]
theorem step_data (md : Bool) (l : List Nat) (a : List Ent) (h : md = true → a = []) : step (dataC false) md l a = if a.isEmpty then some (l, a) else none :=
  step_skip [] (·.isEmpty) l a md (fun h => by simpa using h) (fun h' => by rw [h h']; rfl)
theorem itmK_okay : itmK.Okay 4864 := ⟨itmK_fine, itm_good, fun a ha => enc_len (c := itmC) ha fun p hp => by
  rw [step_itm] at hp
  obtain ⟨p0, e0, hp⟩ := bind_some_of hp
  have t0 := okay_stepw (intK_okay (size := 1) (most := 63) (by decide) (by decide)) (show step (intK 1 63).cod false _ _ = _ from e0)
  obtain ⟨p1, e1, hp⟩ := bind_some_of hp
  have t1 := okay_stepw (natK_okay (kd := .u32) (size := 4) (most := 4294967295) (by decide) (by decide)) (show step (natK .u32 4 4294967295).cod false _ _ = _ from e1)
  obtain ⟨p2, e2, hp⟩ := bind_some_of hp
  have t2 := okay_stepw flagK_okay (show step flagK.cod false _ _ = _ from e2)
  obtain ⟨p4, e4, hp⟩ := bind_some_of hp
  have t4 := okay_stepw (rowK_okay (natK_okay (kd := .u32) (size := 4) (most := 4294967295) (by decide) (by decide)) _ _ 4) (show step incsK.cod false _ _ = _ from e4)
  obtain ⟨p3, e3, hp⟩ := bind_some_of hp
  have t3 : p3.1.length ≤ p4.1.length + 4808 := by
    cases hb : p2.2
    · rw [hb, step_data _ _ _ (fun h => by cases h)] at e3
      split at e3
      · injection e3 with e3
        rw [← e3]; show p4.1.length ≤ _; omega
      · cases e3
    · rw [hb] at e3
      exact okay_stepw (listK_okay entK_okay (max := 8) (by decide)) (show step (listK entK 8).cod false _ _ = _ from e3)
  injection hp with hp
  subst hp
  simp at *
  omega⟩

set_option maxHeartbeats 8000000 in
theorem itm_codes : Codes 161 [] itmK 4864 := by
  intro md P N gc sb f l g o cs a w hcd hz his hcs hN hw hr hg hne hl
  obtain ⟨c0, c1, c2, c3, c4, rfl, h0, h1, h2, h3, h4⟩ := his
  have s0 := (intK_okay (size := 1) (most := 63) (by decide) (by decide)).fine.size _ _ _ _ h0; change c0.length = 1 at s0
  have s1 := (natK_okay (kd := .u32) (size := 4) (most := 4294967295) (by decide) (by decide)).fine.size _ _ _ _ h1; change c1.length = 1 at s1
  have s2 := flagK_okay.fine.size _ _ _ _ h2; change c2.length = 1 at s2
  have s3 := (listK_okay entK_okay (max := 8) (by decide)).fine.size _ _ _ _ h3; change c3.length = 1 at s3
  have s4 := (rowK_okay (natK_okay (kd := .u32) (size := 4) (most := 4294967295) (by decide) (by decide)) _ _ 4).fine.size _ _ _ _ h4; change c4.length = 4 at s4
  have k0 := cells_left hcs; have r0 := cells_right hcs; rw [s0] at r0
  have k1 := cells_left r0; have r1 := cells_right r0; rw [s1] at r1
  rw [Nat.add_assoc] at r1
  have k2 := cells_left r1; have r2 := cells_right r1; rw [s2] at r2
  rw [Nat.add_assoc] at r2
  have k3 := cells_left r2; have r3 := cells_right r2; rw [s3] at r3
  rw [Nat.add_assoc] at r3
  have k4 := r3
  have M0 := Lib.hid (Mid.start (sz := 8) hcd (show Slots w (Grow md N w w) g o [(intK 1 63).slot 0 a.bucket, (natK .u32 4 4294967295).slot 1 a.ver, flagK.slot 2 a.write, incsK.slot 4 a.incs, (listK entK 8).slot 3 a.data] from ⟨⟨c0, (intK_okay (size := 1) (most := 63) (by decide) (by decide)).fine.mono _ _ (Grow md N w w) _ _ h0 (fun b hb => Or.inl hb), k0⟩, ⟨⟨c1, (natK_okay (kd := .u32) (size := 4) (most := 4294967295) (by decide) (by decide)).fine.mono _ _ (Grow md N w w) _ _ h1 (fun b hb => Or.inl hb), k1⟩, ⟨⟨c2, flagK_okay.fine.mono _ _ (Grow md N w w) _ _ h2 (fun b hb => Or.inl hb), k2⟩, ⟨⟨c4, (rowK_okay (natK_okay (kd := .u32) (size := 4) (most := 4294967295) (by decide) (by decide)) _ _ 4).fine.mono _ _ (Grow md N w w) _ _ h4 (fun b hb => Or.inl hb), k4⟩, ⟨⟨c3, (listK_okay entK_okay (max := 8) (by decide)).fine.mono _ _ (Grow md N w w) _ _ h3 (fun b hb => Or.inl hb), k3⟩, trivial⟩⟩⟩⟩⟩))
  have Z0 := Lib.hid (show md = true → a.bucket = (intK 1 63).zero from fun h => by rw [hz h]; rfl)
  have Z1 := Lib.hid (show md = true → a.ver = (natK .u32 4 4294967295).zero from fun h => by rw [hz h]; rfl)
  have Z2 := Lib.hid (show md = true → a.write = flagK.zero from fun h => by rw [hz h]; rfl)
  have Z3 := Lib.hid (show md = true → a.data = (listK entK 8).zero from fun h => by rw [hz h]; rfl)
  have Z4 := Lib.hid (show md = true → a.incs = incsK.zero from fun h => by rw [hz h]; rfl)
  show Calls _ _ #[.pointer (some ⟨gc, 0, none⟩), .pointer (some ⟨g, o, none⟩)] w (Coded md P N gc sb f g o itmK w (step itmC md l a))
  have HR := Lib.hid (step_itm md l a)
  generalize step itmC md l a = r at *
  have HN := Lib.hid hN; have HW := Lib.hid hw; have HRD := Lib.hid hr
  clear hcd hz hcs hN hw hr h0 s0 k0 h1 s1 k1 h2 s2 k2 h3 s3 k3 h4 s4 k4 r0 r1 r2 r3
  go_enter Tryz.func161, Tryz.ntmps161
  have CALL := Lib.hid (M0.out.call (intK_okay (size := 1) (most := 63) (by decide) (by decide)).fine bucket_codes Z0.out HN.out HW.out HRD.out hg hne (by omega) (Nat.le_of_ble_eq_true rfl) trivial ⟨(natK_okay (kd := .u32) (size := 4) (most := 4294967295) (by decide) (by decide)).fine.slot _ _, ⟨flagK_okay.fine.slot _ _, ⟨(rowK_okay (natK_okay (kd := .u32) (size := 4) (most := 4294967295) (by decide) (by decide)) _ _ 4).fine.slot _ _, ⟨(listK_okay entK_okay (max := 8) (by decide)).fine.slot _ _, trivial⟩⟩⟩⟩ trivial ⟨.inr (Nat.le_of_ble_eq_true rfl), ⟨.inr (Nat.le_of_ble_eq_true rfl), ⟨.inr (Nat.le_of_ble_eq_true rfl), ⟨.inr (Nat.le_of_ble_eq_true rfl), trivial⟩⟩⟩⟩)
  rw [Nat.add_zero] at CALL
  cases e0 : step (intK 1 63).cod md l a.bucket with
  | none =>
    rw [e0] at CALL
    have hr0 : r = none := by
      have h9 := HR.out
      change step (whole 1 63) md l a.bucket = _ at e0; rw [e0] at h9; exact h9
    clear e0
    subst hr0
    go_wp2_with fail
    refine CALL.out.mono ?_
    rintro e w' ⟨h8, a', h9, h10, rfl, h11⟩
    exact ⟨rfl, coded_gave ⟨a', h9, h10, rfl, h11⟩ h8⟩
  | some p0 =>
    rw [e0] at CALL
    have hlen0 := (intK_okay (size := 1) (most := 63) (by decide) (by decide)).step M0.out.cd.bytes_of e0
    have E0 := Lib.hid e0
    clear e0
    go_wp2_with fail
    refine CALL.out.mono ?_
    rintro e w1 ⟨rfl, hM⟩
    have M1 := Lib.hid hM
    clear hM CALL
    have CALL := Lib.hid (M1.out.call (natK_okay (kd := .u32) (size := 4) (most := 4294967295) (by decide) (by decide)).fine word_codes Z1.out HN.out HW.out HRD.out hg hne (by omega) (Nat.le_of_ble_eq_true rfl) ⟨(intK_okay (size := 1) (most := 63) (by decide) (by decide)).fine.slot _ _, trivial⟩ ⟨flagK_okay.fine.slot _ _, ⟨(rowK_okay (natK_okay (kd := .u32) (size := 4) (most := 4294967295) (by decide) (by decide)) _ _ 4).fine.slot _ _, ⟨(listK_okay entK_okay (max := 8) (by decide)).fine.slot _ _, trivial⟩⟩⟩ ⟨.inl (Nat.le_of_ble_eq_true rfl), trivial⟩ ⟨.inr (Nat.le_of_ble_eq_true rfl), ⟨.inr (Nat.le_of_ble_eq_true rfl), ⟨.inr (Nat.le_of_ble_eq_true rfl), trivial⟩⟩⟩)
    cases e1 : step (natK .u32 4 4294967295).cod md p0.1 a.ver with
    | none =>
      rw [e1] at CALL
      have hr0 : r = none := by
        have h9 := HR.out
        have hh0 := E0.out; change step (whole 1 63) md l a.bucket = _ at hh0; rw [hh0] at h9; simp only [Option.bind_some] at h9
        change step four_ md p0.1 a.ver = _ at e1; rw [e1] at h9; exact h9
      clear e1
      subst hr0
      go_wp2_with fail
      refine CALL.out.mono ?_
      rintro e w' ⟨h8, a', h9, h10, rfl, h11⟩
      exact ⟨rfl, coded_gave ⟨a', h9, h10, rfl, h11⟩ h8⟩
    | some p1 =>
      rw [e1] at CALL
      have hlen1 := (natK_okay (kd := .u32) (size := 4) (most := 4294967295) (by decide) (by decide)).step M1.out.cd.bytes_of e1
      have E1 := Lib.hid e1
      clear e1
      go_wp2_with fail
      refine CALL.out.mono ?_
      rintro e w2 ⟨rfl, hM⟩
      have M2 := Lib.hid hM
      clear hM CALL
      have CALL := Lib.hid (M2.out.call flagK_okay.fine flag_codes Z2.out HN.out HW.out HRD.out hg hne (by omega) (Nat.le_of_ble_eq_true rfl) ⟨(natK_okay (kd := .u32) (size := 4) (most := 4294967295) (by decide) (by decide)).fine.slot _ _, ⟨(intK_okay (size := 1) (most := 63) (by decide) (by decide)).fine.slot _ _, trivial⟩⟩ ⟨(rowK_okay (natK_okay (kd := .u32) (size := 4) (most := 4294967295) (by decide) (by decide)) _ _ 4).fine.slot _ _, ⟨(listK_okay entK_okay (max := 8) (by decide)).fine.slot _ _, trivial⟩⟩ ⟨.inl (Nat.le_of_ble_eq_true rfl), ⟨.inl (Nat.le_of_ble_eq_true rfl), trivial⟩⟩ ⟨.inr (Nat.le_of_ble_eq_true rfl), ⟨.inr (Nat.le_of_ble_eq_true rfl), trivial⟩⟩)
      cases e2 : step flagK.cod md p1.1 a.write with
      | none =>
        rw [e2] at CALL
        have hr0 : r = none := by
          have h9 := HR.out
          have hh0 := E0.out; change step (whole 1 63) md l a.bucket = _ at hh0; rw [hh0] at h9; simp only [Option.bind_some] at h9
          have hh1 := E1.out; change step four_ md p0.1 a.ver = _ at hh1; rw [hh1] at h9; simp only [Option.bind_some] at h9
          change step flag md p1.1 a.write = _ at e2; rw [e2] at h9; exact h9
        clear e2
        subst hr0
        go_wp2_with fail
        refine CALL.out.mono ?_
        rintro e w' ⟨h8, a', h9, h10, rfl, h11⟩
        exact ⟨rfl, coded_gave ⟨a', h9, h10, rfl, h11⟩ h8⟩
      | some p2 =>
        rw [e2] at CALL
        have hlen2 := flagK_okay.step M2.out.cd.bytes_of e2
        have E2 := Lib.hid e2
        clear e2
        go_wp2_with fail
        refine CALL.out.mono ?_
        rintro e w3 ⟨rfl, hM⟩
        have M3 := Lib.hid hM
        clear hM CALL
        have CALL := Lib.hid (M3.out.call (rowK_okay (natK_okay (kd := .u32) (size := 4) (most := 4294967295) (by decide) (by decide)) _ _ 4).fine incs_codes Z4.out HN.out HW.out HRD.out hg hne (by omega) (Nat.le_of_ble_eq_true rfl) ⟨flagK_okay.fine.slot _ _, ⟨(natK_okay (kd := .u32) (size := 4) (most := 4294967295) (by decide) (by decide)).fine.slot _ _, ⟨(intK_okay (size := 1) (most := 63) (by decide) (by decide)).fine.slot _ _, trivial⟩⟩⟩ ⟨(listK_okay entK_okay (max := 8) (by decide)).fine.slot _ _, trivial⟩ ⟨.inl (Nat.le_of_ble_eq_true rfl), ⟨.inl (Nat.le_of_ble_eq_true rfl), ⟨.inl (Nat.le_of_ble_eq_true rfl), trivial⟩⟩⟩ ⟨.inl (Nat.le_of_ble_eq_true rfl), trivial⟩)
        cases e3 : step incsK.cod md p2.1 a.incs with
        | none =>
          rw [e3] at CALL
          have hr0 : r = none := by
            have h9 := HR.out
            have hh0 := E0.out; change step (whole 1 63) md l a.bucket = _ at hh0; rw [hh0] at h9; simp only [Option.bind_some] at h9
            have hh1 := E1.out; change step four_ md p0.1 a.ver = _ at hh1; rw [hh1] at h9; simp only [Option.bind_some] at h9
            have hh2 := E2.out; change step flag md p1.1 a.write = _ at hh2; rw [hh2] at h9; simp only [Option.bind_some] at h9
            change step (rep four_ 4) md p2.1 a.incs = _ at e3; rw [e3] at h9; exact h9
          clear e3
          subst hr0
          go_wp2_with fail
          refine CALL.out.mono ?_
          rintro e w' ⟨h8, a', h9, h10, rfl, h11⟩
          exact ⟨rfl, coded_gave ⟨a', h9, h10, rfl, h11⟩ h8⟩
        | some p4 =>
          rw [e3] at CALL
          have hlen3 := (rowK_okay (natK_okay (kd := .u32) (size := 4) (most := 4294967295) (by decide) (by decide)) _ _ 4).step M3.out.cd.bytes_of e3
          have E3 := Lib.hid e3
          clear e3
          go_wp2_with fail
          refine CALL.out.mono ?_
          rintro e w4 ⟨rfl, hM⟩
          have M4 := Lib.hid hM
          clear hM CALL
          have M := M4.out
          obtain ⟨⟨d4, q4, x4⟩, ⟨d2, q2, x2⟩, ⟨d1, q1, x1⟩, ⟨d0, q0, x0⟩, _⟩ := M.dn
          obtain ⟨⟨d3, q3, x3⟩, _⟩ := M.to
          change d2 = [.bool p2.2] at q2
          have hw2 : w4.cell? ⟨g, o + 2, none⟩ = some (.bool p2.2) := x2 0 _ (by rw [q2]; rfl)
          cases hb : p2.2 with
          | false =>
            rw [hb] at hw2
            change (intK 1 63).is w4 (Grow md N w w4) d0 p0.2 at q0
            have t0 := (intK_okay (size := 1) (most := 63) (by decide) (by decide)).fine.size _ _ _ _ q0; change d0.length = 1 at t0
            change (natK .u32 4 4294967295).is w4 (Grow md N w w4) d1 p1.2 at q1
            have t1 := (natK_okay (kd := .u32) (size := 4) (most := 4294967295) (by decide) (by decide)).fine.size _ _ _ _ q1; change d1.length = 1 at t1
            change incsK.is w4 (Grow md N w w4) d4 p4.2 at q4
            have t4 := (rowK_okay (natK_okay (kd := .u32) (size := 4) (most := 4294967295) (by decide) (by decide)) _ _ 4).fine.size _ _ _ _ q4; change d4.length = 4 at t4
            change Cells _ g (o + 0) d0 at x0; change Cells _ g (o + 1) d1 at x1; change Cells _ g (o + 2) d2 at x2; change Cells _ g (o + 3) d3 at x3; change Cells _ g (o + 4) d4 at x4
            have q3o := q3
            obtain ⟨ao, nn, cap, hd3, hsl⟩ := q3
            have t3 : d3.length = 1 := by rw [hd3]; rfl
            have t2 : d2.length = 1 := by rw [q2]; rfl
            have c3 : w4.cell? ⟨g, o + 3, none⟩ = some (.slice ao nn cap) := x3 0 _ (by rw [hd3]; rfl)
            have hnn : a.data.length = nn := hsl.1
            have HST := Lib.hid (step_data md p4.1 a.data (fun h => Z3.out h))
            have HY : Hid (Cells w4 g o (d0 ++ (d1 ++ (d2 ++ (d3 ++ d4))))) := Lib.hid (by
              have y3 := cells_join x3 (show Cells _ g (o + 3 + d3.length) _ from by rw [t3, Nat.add_assoc]; exact x4)
              have y2 := cells_join x2 (show Cells _ g (o + 2 + d2.length) _ from by rw [t2, Nat.add_assoc]; exact y3)
              have y1 := cells_join x1 (show Cells _ g (o + 1 + d1.length) _ from by rw [t1, Nat.add_assoc]; exact y2)
              have y0 := cells_join x0 (show Cells _ g (o + 0 + d0.length) _ from by rw [t0, Nat.add_assoc]; exact y1)
              rw [Nat.add_zero] at y0; exact y0)
            have H9 := Lib.hid (show r = (step (dataC false) md p4.1 a.data).bind fun p3 => some (p3.1, ⟨p0.2, p1.2, false, p3.2, p4.2⟩) from by
              have h9 := HR.out
              have hh0 := E0.out; change step (whole 1 63) md l a.bucket = _ at hh0; rw [hh0] at h9; simp only [Option.bind_some] at h9
              have hh1 := E1.out; change step four_ md p0.1 a.ver = _ at hh1; rw [hh1] at h9; simp only [Option.bind_some] at h9
              have hh2 := E2.out; change step flag md p1.1 a.write = _ at hh2; rw [hh2] at h9; simp only [Option.bind_some] at h9
              have hh3 := E3.out; change step (rep four_ 4) md p2.1 a.incs = _ at hh3; rw [hh3] at h9; simp only [Option.bind_some] at h9
              rw [hb] at h9; exact h9)
            by_cases hn0 : a.data = []
            · have hnz : nn = 0 := by rw [← hnn, hn0]; rfl
              subst hnz
              have hr0 : r = some (p4.1, ⟨p0.2, p1.2, false, a.data, p4.2⟩) := by rw [H9.out, HST.out, hn0]; rfl
              have HM := Lib.hid M
              have HQ := Lib.hid q3o; have HQ0 := Lib.hid q0; have HQ1 := Lib.hid q1; have HQ4 := Lib.hid q4; have HQ2 := Lib.hid q2
              have YES := Lib.hid (need_yes gc w4)
              clear M q3o hd3 q0 q1 q2 q4 hn0 hnn x0 x1 x2 x3 x4 t0 t1 t2 t3 t4 hsl
              subst hr0
              go_wp2_with fail
              refine YES.out.mono ?_
              rintro e w' ⟨rfl, rfl⟩
              go_wp2_with fail
              go_end0
              exact ⟨HM.out.safe, rfl, HM.out.cd, ⟨_, ⟨d0, d1, d2, d3, d4, rfl, HQ0.out, HQ1.out, by rw [HQ2.out, hb]; rfl, HQ.out, HQ4.out⟩, HY.out⟩, HM.out.out, HM.out.fz⟩
            · have hnz : 0 < nn := by
                rw [← hnn]; exact List.length_pos_iff.2 hn0
              have hr0 : r = none := by
                rw [H9.out, HST.out, if_neg (by simpa using hn0)]; rfl
              have hd : ((nn : Int) == 0) = false := by simp; omega
              obtain ⟨ao9, n9, cap9, ha9, hof9⟩ := M.cd
              have NO := Lib.hid (need_no gc md f w4 ha9.c0 ha9.c2)
              have HP := Lib.hid (fun b (hb : P b) => (hof9.2 b (.inl hb)).1)
              have HS := Lib.hid M.safe
              clear M q3o hd3 q0 q1 q2 q4 hn0 hnn x0 x1 x2 x3 x4 t0 t1 t2 t3 t4 hsl ha9 hof9
              subst hr0
              go_wp2_with fail
              refine NO.out.mono ?_
              intro e w' h
              cases e <;> first | (exact ⟨rfl, coded_gave (h.gave.from HS.out.size) (HS.out.trans (h.safeK HP.out (Nat.lt_of_lt_of_le hg HS.out.size)))⟩) | (cases h.1)
          | true =>
            rw [hb] at hw2
            clear M q0 q1 q2 q3 q4 x0 x1 x2 x3 x4
            have CALL := Lib.hid (M4.out.call (listK_okay entK_okay (max := 8) (by decide)).fine entries_codes Z3.out HN.out HW.out HRD.out hg hne (by omega) (Nat.le_of_ble_eq_true rfl) ⟨(rowK_okay (natK_okay (kd := .u32) (size := 4) (most := 4294967295) (by decide) (by decide)) _ _ 4).fine.slot _ _, ⟨flagK_okay.fine.slot _ _, ⟨(natK_okay (kd := .u32) (size := 4) (most := 4294967295) (by decide) (by decide)).fine.slot _ _, ⟨(intK_okay (size := 1) (most := 63) (by decide) (by decide)).fine.slot _ _, trivial⟩⟩⟩⟩ trivial ⟨.inr (Nat.le_of_ble_eq_true rfl), ⟨.inl (Nat.le_of_ble_eq_true rfl), ⟨.inl (Nat.le_of_ble_eq_true rfl), ⟨.inl (Nat.le_of_ble_eq_true rfl), trivial⟩⟩⟩⟩ trivial)
            cases e4 : step (listK entK 8).cod md p4.1 a.data with
            | none =>
              rw [e4] at CALL
              have hr0 : r = none := by
                have h9 := HR.out
                have hh0 := E0.out; change step (whole 1 63) md l a.bucket = _ at hh0; rw [hh0] at h9; simp only [Option.bind_some] at h9
                have hh1 := E1.out; change step four_ md p0.1 a.ver = _ at hh1; rw [hh1] at h9; simp only [Option.bind_some] at h9
                have hh2 := E2.out; change step flag md p1.1 a.write = _ at hh2; rw [hh2] at h9; simp only [Option.bind_some] at h9
                have hh3 := E3.out; change step (rep four_ 4) md p2.1 a.incs = _ at hh3; rw [hh3] at h9; simp only [Option.bind_some] at h9
                rw [show step (dataC p2.2) md p4.1 a.data = step entsC md p4.1 a.data from by rw [hb]; rfl] at h9
                change step entsC md p4.1 a.data = _ at e4; rw [e4] at h9; exact h9
              clear e4
              subst hr0
              go_wp2_with fail
              refine CALL.out.mono ?_
              rintro e w' ⟨h8, a', h9, h10, rfl, h11⟩
              exact ⟨rfl, coded_gave ⟨a', h9, h10, rfl, h11⟩ h8⟩
            | some p3 =>
              rw [e4] at CALL
              have hlen4 := (listK_okay entK_okay (max := 8) (by decide)).step M4.out.cd.bytes_of e4
              have E4 := Lib.hid e4
              clear e4
              go_wp2_with fail
              refine CALL.out.mono ?_
              rintro e w5 ⟨rfl, hM⟩
              have M5 := Lib.hid hM
              clear hM CALL
              have hr0 : r = some (p3.1, ⟨p0.2, p1.2, p2.2, p3.2, p4.2⟩) := by
                have h9 := HR.out
                have hh0 := E0.out; change step (whole 1 63) md l a.bucket = _ at hh0; rw [hh0] at h9; simp only [Option.bind_some] at h9
                have hh1 := E1.out; change step four_ md p0.1 a.ver = _ at hh1; rw [hh1] at h9; simp only [Option.bind_some] at h9
                have hh2 := E2.out; change step flag md p1.1 a.write = _ at hh2; rw [hh2] at h9; simp only [Option.bind_some] at h9
                have hh3 := E3.out; change step (rep four_ 4) md p2.1 a.incs = _ at hh3; rw [hh3] at h9; simp only [Option.bind_some] at h9
                rw [show step (dataC p2.2) md p4.1 a.data = step entsC md p4.1 a.data from by rw [hb]; rfl] at h9
                have hh4 := E4.out; change step entsC md p4.1 a.data = _ at hh4; rw [hh4] at h9; simp only [Option.bind_some] at h9
                first | exact h9 | (rw [hb]; exact h9)
              subst hr0
              go_wp2_with fail
              go_end0
              have M := M5.out
              obtain ⟨⟨d3, q3, x3⟩, ⟨d4, q4, x4⟩, ⟨d2, q2, x2⟩, ⟨d1, q1, x1⟩, ⟨d0, q0, x0⟩, _⟩ := M.dn
              change (intK 1 63).is w5 (Grow md N w w5) d0 p0.2 at q0
              have t0 := (intK_okay (size := 1) (most := 63) (by decide) (by decide)).fine.size _ _ _ _ q0; change d0.length = 1 at t0; change Cells _ g (o + 0) d0 at x0
              change (natK .u32 4 4294967295).is w5 (Grow md N w w5) d1 p1.2 at q1
              have t1 := (natK_okay (kd := .u32) (size := 4) (most := 4294967295) (by decide) (by decide)).fine.size _ _ _ _ q1; change d1.length = 1 at t1; change Cells _ g (o + 1) d1 at x1
              change flagK.is w5 (Grow md N w w5) d2 p2.2 at q2
              have t2 := flagK_okay.fine.size _ _ _ _ q2; change d2.length = 1 at t2; change Cells _ g (o + 2) d2 at x2
              change (listK entK 8).is w5 (Grow md N w w5) d3 p3.2 at q3
              have t3 := (listK_okay entK_okay (max := 8) (by decide)).fine.size _ _ _ _ q3; change d3.length = 1 at t3; change Cells _ g (o + 3) d3 at x3
              change incsK.is w5 (Grow md N w w5) d4 p4.2 at q4
              have t4 := (rowK_okay (natK_okay (kd := .u32) (size := 4) (most := 4294967295) (by decide) (by decide)) _ _ 4).fine.size _ _ _ _ q4; change d4.length = 4 at t4; change Cells _ g (o + 4) d4 at x4
              have y3 := cells_join x3 (show Cells _ g (o + 3 + d3.length) _ from by rw [t3, Nat.add_assoc]; exact x4)
              have y2 := cells_join x2 (show Cells _ g (o + 2 + d2.length) _ from by rw [t2, Nat.add_assoc]; exact y3)
              have y1 := cells_join x1 (show Cells _ g (o + 1 + d1.length) _ from by rw [t1, Nat.add_assoc]; exact y2)
              have y0 := cells_join x0 (show Cells _ g (o + 0 + d0.length) _ from by rw [t0, Nat.add_assoc]; exact y1)
              exact ⟨M.safe, rfl, M.cd, ⟨d0 ++ (d1 ++ (d2 ++ (d3 ++ (d4)))), ⟨d0, d1, d2, d3, d4, rfl, q0, q1, q2, q3, q4⟩, by rw [Nat.add_zero] at y0; exact y0⟩, M.out, M.fz⟩

end Go.Proofs.YtngcbpgafjnfaaaGreatDoor


namespace Go.Proofs.YtngcbpgafjnfaaaGreatDoor
open Go.RowKit Go.Sort
set_option linter.unusedVariables false

set_option maxHeartbeats 16000000 in
theorem listitm_codes (mx : Nat) (hlen : ∀ a, (itmK).cod.ok a = true → ((itmK).cod.enc a).length ≤ mx) (hgood : Good (itmK).cod) (hE : Codes 161 [] (itmK) mx) (max : Nat) (hm : max ≤ 255) : Codes 160 [.int .u64 (max : Int), .func (.func 161) #[] #[]] (listK (itmK) max) (8 + max * mx) := by
  intro md P N gc sb f l g o cs xs w hcd hz his hcs hN hw hr hg hne hl
  obtain ⟨ao0, n0, cap0, rfl, hsl⟩ := his
  have hp := hcs 0 _ rfl
  simp only [Nat.add_zero] at hp
  have hn0 : n0 ≤ 9223372036854775807 := Nat.le_trans hsl.2.1 hsl.2.2.1
  have hxs := hsl.1
  have HCAP := Lib.hid hsl.2.2.1
  have hz0 : md = true → n0 = 0 := fun h => by rw [← hxs, hz h]; rfl
  have NB := Lib.hid (boxnum hcd hg hne hw n0 hn0 hz0 max hm (by omega))
  show Calls _ _ #[.pointer (some ⟨gc, 0, none⟩), .pointer (some ⟨g, o, none⟩), .int .u64 (max : Int), .func (.func 161) #[] #[]] w (Coded md P N gc sb f g o (listK (itmK) max) w (step (list max (itmK).cod) md l xs))
  have HR := Lib.hid (step_list (itmK).cod md max (itmK).zero xs l)
  rw [hxs] at HR
  generalize hrr : step (list max (itmK).cod) md l xs = r at *
  clear hrr
  have hgc := hcd.lt
  have HNP := Lib.hid hN
  have HPO := Lib.hid (fun b (hb : P b) => hcd.off hb)
  cases md
  · have HE := Lib.hid (fun l' w' hcd' hs' => coded_wrote (sb := sb) (f := f) (gc := gc) (l' := l') (listK_fine itmK_okay.fine max) (w' := w') hcd' hs' (hw rfl) hN ⟨ao0, n0, cap0, rfl, hsl⟩ hcs)
    obtain ⟨g2, o2, hsn, hat⟩ := sl_at hsl
    have HAT := Lib.hid hat
    clear hat
    by_cases hok : n0 ≤ max
    · rw [num_w hok] at NB HR
      simp only [Option.bind_some, Bool.false_eq_true, if_false] at HR
      clear hz hcs hN hw hr hcd hz0 hsl
      go_enter Tryz.func160, Tryz.ntmps160
      go_wp2_with fail
      refine NB.out.mono ?_
      rintro e w1 ⟨rfl, h1, h2, h3, h4, h5⟩
      have h1 : CdIs w1 false (fun b => P b ∨ b = g ∨ b = w.heap.size) gc sb f (l ++ le 1 n0) := h1
      have h3 : w1.cell? ⟨w.heap.size, 0, none⟩ = some (.int .i64 (n0 : Int)) := h3
      have hp1 := (h2.cell (a := ⟨g, o, none⟩) (.inr rfl)).trans hp
      have H2 := Lib.hid h2
      have M0 := Lib.hid (MidL.start (k := itmK) (N := N) (g := g2) (o := o2) (xs := xs) h1 (fun i a hi => by
        obtain ⟨cs, q1, q2⟩ := HAT.out i a hi
        have hn : 0 < n0 := by have := (List.getElem?_eq_some_iff.1 hi).1; omega
        exact ⟨cs, itmK_okay.fine.mono _ _ _ _ _ (itmK_okay.fine.safe _ _ _ _ _ _ q1 (h2.mono fun b hb => .inl hb) HNP.out) (fun b hb => .inl hb), q2.safe h2 (.inl (HNP.out _ (hsn hn).2))⟩))
      have HSZ := Lib.hid (show w.heap.size ≤ w1.heap.size from h2.size)
      have HPG := Lib.hid hp1
      have hcc := h1
      obtain ⟨ao, n, cap, ha, hof⟩ := h1
      have c0 := ha.c0
      have HL0 := Lib.hid (show (l ++ le 1 n0).length = l.length + 1 by simp [le_length])
      clear ha hof h2 h4 hp hp1 hcc
      generalize l ++ le 1 n0 = l1 at *
      go_wp2_with fail
      clear c0 h3
      go_loopw [30] (fun i wr => ∃ (k : Nat) (lk : List Nat), k ≤ n0 ∧ i = .int .i64 (k : Int) ∧ stepL (itmK).cod false (xs.take k) l1 = some (lk, xs.take k) ∧ lk.length ≤ l.length + 1 + k * mx ∧ MidL false (fun b => P b ∨ b = g ∨ b = w.heap.size) N gc sb f lk g2 o2 (itmK) xs w1 wr) (fun i _ => n0 - (intOf i).toNat)
      case atStart => exact ⟨0, l1, by omega, rfl, rfl, by rw [HL0.out]; omega, M0.out⟩
      case round =>
        obtain ⟨k, lk, hk, rfl, hst, hlk, hM⟩ := hrel
        have HM := Lib.hid hM
        have HST := Lib.hid hst
        have hp2 := (hM.safe.toSafe.cell (a := ⟨g, o, none⟩) (.inr (.inl rfl))).trans HPG.out
        clear hM hst
        by_cases hlt : k < n0
        · have hi : xs[k]? = some (xs[k]'(by omega)) := List.getElem?_eq_getElem (by omega)
          generalize xs[k]'(by omega) = a at hi
          have HI := Lib.hid hi
          obtain ⟨hao, hNg⟩ := hsn (by omega)
          have hkm : (k + 1) * mx ≤ max * mx := Nat.mul_le_mul_right _ (by omega)
          rw [Nat.succ_mul] at hkm
          have CALL := Lib.hid (HM.out.call itmK_okay.fine hE hi (fun h => by cases h) (fun b hb => .inl (HNP.out b hb)) (fun _ => .inl (HNP.out _ hNg)) (fun h => by cases h) (Nat.lt_of_lt_of_le (HPO.out _ (HNP.out _ hNg)).1 HSZ.out) (HPO.out _ (HNP.out _ hNg)).2 (by omega))
          have HMORE := Lib.hid (stepL_more (itmK).cod false hi l1)
          rw [HST.out] at HMORE
          subst hao
          clear hi
          cases hs : step (itmK).cod false lk a with
          | none =>
            rw [hs] at CALL
            have hr0 : r = none := by
              rw [HR.out]
              refine stepL_none _ _ l1 (k := k + 1) ?_
              have h9 := HMORE.out
              simp only [Option.bind_some, hs, Option.map_none] at h9
              exact h9
            clear hs HMORE
            subst hr0
            go_wp2_with fail
            refine CALL.out.mono ?_
            rintro e w' ⟨h8, a', h9, h10, rfl, h11⟩
            exact ⟨rfl, coded_gave (Gave.from ⟨a', h9, h10, rfl, h11⟩ HSZ.out) ((SafeK.of H2.out).trans (SafeK.of (h8.toSafe.mono fun b hb => by
              rcases hb with hb | hb
              · exact .inl hb
              · exact .inr (.inl hb))))⟩
          | some p =>
            rw [hs] at CALL
            have HS := Lib.hid hs
            clear hs
            go_wp2_with fail
            refine CALL.out.mono ?_
            rintro e w' ⟨rfl, hM2⟩
            have HM2 := Lib.hid (midl_wrote HI.out HS.out hM2)
            clear hM2
            go_wp2_with fail
            go_roundw
            case rel =>
              refine ⟨k + 1, p.1, by omega, by go_num, ?_, ?_, HM2.out⟩
              · have h9 := HMORE.out
                have h10 := HS.out
                rw [step_w] at h10
                split at h10
                · injection h10 with h10
                  subst h10
                  rename_i hk2
                  simp only [Option.bind_some, step_w, hk2, if_true, Option.map_some] at h9
                  rw [h9, List.take_add_one, HI.out]; rfl
                · cases h10
              · have h10 := HS.out
                rw [step_w] at h10
                split at h10
                · injection h10 with h10
                  subst h10
                  rename_i hk2
                  have := hlen a hk2
                  simp only [List.length_append, Nat.succ_mul]
                  omega
                · cases h10
            case measure => simp [intOf]; omega
        · obtain rfl : n0 = k := by omega
          have hr0 : r = some (lk, xs) := by
            rw [HR.out]
            have h9 := HST.out
            rwa [List.take_of_length_le (by omega)] at h9
          subst hr0
          go_wp2_with fail
          go_end0
          exact HE.out _ _ (HM.out.cd.reP (fun hm => by cases hm) fun b hb => .inl (.inl (.inl hb))) ((H2.out.mono fun b hb => .inl hb).trans (HM.out.safe.toSafe.mono fun b hb => .inl hb))
    · rw [num_w_no (by omega)] at NB HR
      simp only [Option.bind_none] at HR
      have hr0 : r = none := HR.out
      subst hr0
      clear hz hcs hN hw hr hcd hz0 hsl
      go_enter Tryz.func160, Tryz.ntmps160
      go_wp2_with fail
      refine NB.out.mono ?_
      rintro e w1 ⟨hs, a, h1, h2, rfl, h3⟩
      exact ⟨rfl, coded_gave ⟨a, h1, h2, rfl, h3⟩ hs⟩
  · have hf0 := (hr rfl).2 o
    have hsrc := hcd.src
    have hnP := (hr rfl).1
    have hl0 := hcd.bytes
    obtain rfl : xs = [] := hz rfl
    obtain rfl : n0 = 0 := hz0 rfl
    clear hz hcs hN hw hr hcd hz0 hsl
    cases hst : step (num' 1 max) true l 0 with
    | none =>
      rw [hst] at NB HR
      simp only [Option.bind_none] at HR
      have hr0 : r = none := HR.out
      subst hr0
      clear hst
      go_enter Tryz.func160, Tryz.ntmps160
      go_wp2_with fail
      refine NB.out.mono ?_
      rintro e w1 ⟨hs, a, h1, h2, rfl, h3⟩
      exact ⟨rfl, coded_gave ⟨a, h1, h2, rfl, h3⟩ hs⟩
    | some p =>
      obtain ⟨l', n⟩ := p
      obtain ⟨hnm, hll⟩ := num_r_le hst
      rw [hst] at NB HR
      simp only [Option.bind_some, if_true] at HR
      clear hst
      by_cases hn : n = 0
      · subst hn
        have hr0 : r = some (l', []) := HR.out
        subst hr0
        go_enter Tryz.func160, Tryz.ntmps160
        go_wp2_with fail
        refine NB.out.mono ?_
        rintro e w1 ⟨rfl, h1, h2, h3, h4, h5⟩
        have h1 : CdIs w1 true (fun b => P b ∨ b = g ∨ b = w.heap.size) gc sb f l' := h1
        have h3 : w1.cell? ⟨w.heap.size, 0, none⟩ = some (.int .i64 0) := h3
        have hp1 := (h2.cell (a := ⟨g, o, none⟩) (.inr rfl)).trans hp
        have HE := Lib.hid (Coded.from (N := N) (listK_fine itmK_okay.fine max) (coded_keep (N := N) (k := listK (itmK) max) (g := g) (o := o) (a := []) (cs := [.slice ao0 0 cap0]) (listK_fine itmK_okay.fine max) h1 (fun b hb => .inl hb) hsrc ⟨ao0, 0, cap0, rfl, rfl, Nat.zero_le _, HCAP.out, fun i a hi => by simp at hi⟩ (fun j u hu => by
          obtain rfl : j = 0 := by
            have := (List.getElem?_eq_some_iff.1 hu).1
            simp at this; exact this
          obtain rfl : Value.slice ao0 0 cap0 = u := by simpa using hu
          exact hp1)) h2 hgc)
        obtain ⟨ao, nn, cap, ha, hof⟩ := h1
        have c0 := ha.c0
        clear ha hof h2 h4 hp hp1
        go_wp2_with fail
        go_loopw [30] (fun i wr => i = .int .i64 0 ∧ wr = w1) (fun _ _ => 0)
        case atStart => exact ⟨rfl, rfl⟩
        case round =>
          obtain ⟨rfl, rfl⟩ := hrel
          go_wp2_with fail
          go_end0
          exact HE.out
      · have hn1 : 1 ≤ n := by omega
        clear hn
        have HMM := Lib.hid (show mx ≤ max * mx from Nat.le_mul_of_pos_left _ (by omega))
        have HLL := Lib.hid hll
        clear hll
        go_enter Tryz.func160, Tryz.ntmps160
        go_wp2_with fail
        refine NB.out.mono ?_
        rintro e w1 ⟨rfl, h1, h2, h3, h4, h5⟩
        have h1 : CdIs w1 true (fun b => P b ∨ b = g ∨ b = w.heap.size) gc sb f l' := h1
        have h3 : w1.cell? ⟨w.heap.size, 0, none⟩ = some (.int .i64 (n : Int)) := h3
        have hp1 := (h2.cell (a := ⟨g, o, none⟩) (.inr rfl)).trans hp
        have hf1 : w1.frozen? ⟨g, o, none⟩ = false := (World.frozen?_of_block (w := w) (a := ⟨g, o, none⟩) (h2.block g (.inr rfl))).trans hf0
        have HLD := Lib.hid (laid_of (o := o) (n := n) (k := itmK) h1 hsrc hnP hne hg hgc h5 (Value.agg #[.int .i64 0, .int .u32 0, .bool false, .slice none 0 0, .int .u32 0, .int .u32 0, .int .u32 0, .int .u32 0]) 187 _ rfl rfl (fun w N => ⟨[.int .i64 0], [.int .u32 0], [.bool false], [.slice none 0 0], [.int .u32 0, .int .u32 0, .int .u32 0, .int .u32 0], rfl, ⟨rfl, by unfold I64; decide⟩, ⟨rfl, by decide⟩, rfl, ⟨none, 0, 0, rfl, rfl, Nat.le_refl _, by decide, fun i a h => by change none = some a at h; cases h⟩, ⟨rfl, rfl, fun x hx => by change x ∈ ([0, 0, 0, 0] : List Nat) at hx; have hx : x = 0 := (by simpa using hx); subst hx; decide⟩⟩) (by rw [hp1]; rfl) hf1)
        have RM := Lib.hid (run_mk w1 32 187 (Value.agg #[.int .i64 0, .int .u32 0, .bool false, .slice none 0 0, .int .u32 0, .int .u32 0, .int .u32 0, .int .u32 0]) (itmK).sz 56 (by kernel_rfl) (by kernel_rfl) n (by omega) (by decide))
        have H2 := Lib.hid h2
        obtain ⟨ao, nn, cap, ha, hof⟩ := h1
        have c0 := ha.c0
        clear ha hof h2 h4 hp
        generalize w1.alloc (.cells (madeCells (Value.agg #[.int .i64 0, .int .u32 0, .bool false, .slice none 0 0, .int .u32 0, .int .u32 0, .int .u32 0, .int .u32 0]).cells (n * (itmK).sz)) 187) = w2 at *
        obtain ⟨xv, c2⟩ := Option.isSome_iff_exists.1 HLD.out.c2
        have f2 := HLD.out.f2
        have c3 := HLD.out.c3
        have b3 := HLD.out.b3.trans h3
        have hd : decide (0 < n) = true := decide_eq_true (by omega)
        go_wp2_with (at_make; refine wpList_runs rfl _ _ (exec_make (vl := .int .i64 (n : Int)) (vc := .int .i64 (n : Int)) 32 (.tmp 26) (.tmp 26) rfl rfl rfl RM.out) ?_)
        generalize w2.setCell ⟨g, o, none⟩ _ = w3 at *
        clear c0 h3 hp1 hf1 c2 f2 hd RM b3
        have HC3 := Lib.hid c3
        clear c3
        go_loopw [30] (fun i wr => ∃ (k : Nat) (lk : List Nat) (ys : List _), k ≤ n ∧ i = .int .i64 (k : Int) ∧ stepL (itmK).cod true ((List.replicate n (itmK).zero).take k) l' = some (lk, ys) ∧ lk.length ≤ l.length ∧ MidL true (fun b => P b ∨ b = g ∨ b = w.heap.size) (fun _ => False) gc sb f lk w1.heap.size 0 (itmK) (ys ++ List.replicate (n - k) (itmK).zero) w3 wr) (fun i _ => n - (intOf i).toNat)
        case atStart => exact ⟨0, l', [], by omega, rfl, rfl, HLL.out, HLD.out.mid⟩
        case round =>
          obtain ⟨k, lk, ys, hk, rfl, hst, hlk, hM⟩ := hrel
          have HM := Lib.hid hM
          have HST := Lib.hid hst
          have hp2 := (hM.safe.toSafe.cell (a := ⟨g, o, none⟩) (.inr (.inl rfl))).trans HC3.out
          have hyl : ys.length = k := by rw [stepL_len _ _ _ _ _ _ hst]; simp; omega
          have HYL := Lib.hid hyl
          have HSR := Lib.hid HLD.out.sz
          clear hM hst
          by_cases hlt : k < n
          · have hi : (ys ++ List.replicate (n - k) (itmK).zero)[k]? = some (itmK).zero := by
              rw [List.getElem?_append_right (by omega), hyl, Nat.sub_self, List.getElem?_replicate, if_pos (by omega)]
            have CALL := Lib.hid (HM.out.call itmK_okay.fine hE hi (fun _ => rfl) (fun b hb => hb.elim) (fun h => by cases h) (fun _ => ⟨(fun hb => by
              rcases hb with hb | hb | hb
              · have := HPO.out _ hb; have := H2.out.size; omega
              · have := H2.out.size; omega
              · omega), HLD.out.f3⟩) (by rw [HSR.out]; omega) (by have := H2.out.size; omega) (by have := HMM.out; omega))
            have HMORE := Lib.hid (stepL_more (itmK).cod true (x := List.replicate n (itmK).zero) (k := k) (a := (itmK).zero) (by rw [List.getElem?_replicate, if_pos hlt]) l')
            rw [HST.out] at HMORE
            rw [Nat.zero_add] at CALL
            clear hi hyl
            cases hs : step (itmK).cod true lk (itmK).zero with
            | none =>
              rw [hs] at CALL
              have hr0 : r = none := by
                rw [HR.out]
                refine stepL_none _ _ l' (k := k + 1) ?_
                have h9 := HMORE.out
                simp only [Option.bind_some, hs, Option.map_none] at h9
                exact h9
              clear hs HMORE
              subst hr0
              go_wp2_with fail
              refine CALL.out.mono ?_
              rintro e w' ⟨h8, a', h9, h10, rfl, h11⟩
              exact ⟨rfl, coded_gave (Gave.from ⟨a', h9, h10, rfl, h11⟩ (by have := H2.out.size; have := HSR.out; omega)) (((SafeK.of H2.out).trans ⟨HLD.out.s3, fun j hj => (by
                by_cases e : j = o
                · subst e; rw [HC3.out]; rfl
                · rw [HLD.out.ot j e]; exact hj), HLD.out.fz⟩).trans (SafeK.of (h8.toSafe.mono fun b hb => by
                rcases hb with hb | hb
                · exact .inl hb
                · exact .inr (.inl hb))))⟩
            | some p =>
              rw [hs] at CALL
              have HSH := Lib.hid (step_short hgood HM.out.cd.bytes hs)
              have HMORE2 : Hid (stepL (itmK).cod true ((List.replicate n (itmK).zero).take (k + 1)) l' = some (p.1, ys ++ [p.2])) := Lib.hid (by
                have h9 := HMORE.out
                simp only [Option.bind_some, hs, Option.map_some] at h9
                exact h9)
              clear hs HMORE
              go_wp2_with fail
              refine CALL.out.mono ?_
              rintro e w' ⟨rfl, hM2⟩
              have hM3 := hM2
              rw [set_mid _ _ _ _ _ HYL.out hlt] at hM3
              have HM2 := Lib.hid hM3
              clear hM2 hM3
              go_wp2_with fail
              go_roundw
              case rel => exact ⟨k + 1, p.1, ys ++ [p.2], by omega, by go_num, HMORE2.out, by have := HSH.out; omega, HM2.out⟩
              case measure => simp [intOf]; omega
          · obtain rfl : n = k := by omega
            have hr0 : r = some (lk, ys) := by
              rw [HR.out]
              have h9 := HST.out
              rwa [List.take_of_length_le (by simp)] at h9
            subst hr0
            clear hyl
            go_wp2_with fail
            go_end0
            have M := HM.out
            rw [Nat.sub_self, List.replicate_zero, List.append_nil] at M
            exact coded_listread itmK_okay.fine H2.out HLD.out.s3 hsrc hgc (Nat.le_refl _) (by rw [HSR.out]; omega) HC3.out HLD.out.ot HLD.out.fz HYL.out (by omega) M

/-- tx -/
def txK : Kd Txn := ⟨txC, 6, ⟨0, 0, [0, 0, 0], []⟩, fun w N cs a => ∃ c0 c1 c2 c3, cs = c0 ++ (c1 ++ (c2 ++ (c3))) ∧ (natK .u64 8 18446744073709551615).is w N c0 a.id ∧ (intK 4 2147483647).is w N c1 a.client ∧ mansK.is w N c2 a.mans ∧ (listK itmK 8).is w N c3 a.items⟩
theorem txK_fine : txK.Fine := by
  refine ⟨fun w N cs a ha => ?_, fun w w' N P cs a ha hs hN => ?_, fun w N M cs a ha hm => ?_⟩
  · obtain ⟨c0, c1, c2, c3, rfl, h0, h1, h2, h3⟩ := ha
    have s0 := (natK_okay (kd := .u64) (size := 8) (most := 18446744073709551615) (by decide) (by decide)).fine.size _ _ _ _ h0; have s1 := (intK_okay (size := 4) (most := 2147483647) (by decide) (by decide)).fine.size _ _ _ _ h1; have s2 := (rowK_okay (intK_okay (size := 1) (most := 255) (by decide) (by decide)) _ _ 3).fine.size _ _ _ _ h2; have s3 := (listK_okay itmK_okay (max := 8) (by decide)).fine.size _ _ _ _ h3
    change c0.length = 1 at s0; change c1.length = 1 at s1; change c2.length = 3 at s2; change c3.length = 1 at s3
    show _ = 6
    simp only [List.length_append]; omega
  · obtain ⟨c0, c1, c2, c3, e, h0, h1, h2, h3⟩ := ha
    exact ⟨c0, c1, c2, c3, e, (natK_okay (kd := .u64) (size := 8) (most := 18446744073709551615) (by decide) (by decide)).fine.safe _ _ _ _ _ _ h0 hs hN, (intK_okay (size := 4) (most := 2147483647) (by decide) (by decide)).fine.safe _ _ _ _ _ _ h1 hs hN, (rowK_okay (intK_okay (size := 1) (most := 255) (by decide) (by decide)) _ _ 3).fine.safe _ _ _ _ _ _ h2 hs hN, (listK_okay itmK_okay (max := 8) (by decide)).fine.safe _ _ _ _ _ _ h3 hs hN⟩
  · obtain ⟨c0, c1, c2, c3, e, h0, h1, h2, h3⟩ := ha
    exact ⟨c0, c1, c2, c3, e, (natK_okay (kd := .u64) (size := 8) (most := 18446744073709551615) (by decide) (by decide)).fine.mono _ _ _ _ _ h0 hm, (intK_okay (size := 4) (most := 2147483647) (by decide) (by decide)).fine.mono _ _ _ _ _ h1 hm, (rowK_okay (intK_okay (size := 1) (most := 255) (by decide) (by decide)) _ _ 3).fine.mono _ _ _ _ _ h2 hm, (listK_okay itmK_okay (max := 8) (by decide)).fine.mono _ _ _ _ _ h3 hm⟩
theorem step_tx (md : Bool) (l : List Nat) (a : Txn) : step txC md l a = (step eight md l a.id).bind fun p0 => (step (whole 4 2147483647) md p0.1 a.client).bind fun p1 => (step mansC md p1.1 a.mans).bind fun p2 => (step (list 8 itmC) md p2.1 a.items).bind fun p3 => some (p3.1, ⟨p0.2, p1.2, p2.2, p3.2⟩) := by
  unfold txC
  rw [step_map _ _ _ _ _ _ (fun _ => rfl)]
  simp only [step_two, Option.map_bind, Option.bind_assoc, Option.bind_some, Option.map_some, Function.comp_def]
theorem txK_okay : txK.Okay 38960 := ⟨txK_fine, tx_good, fun a ha => enc_len (c := txC) ha fun p hp => by
  rw [step_tx] at hp
  obtain ⟨p0, e0, hp⟩ := bind_some_of hp
  have t0 := okay_stepw (natK_okay (kd := .u64) (size := 8) (most := 18446744073709551615) (by decide) (by decide)) (show step (natK .u64 8 18446744073709551615).cod false _ _ = _ from e0)
  obtain ⟨p1, e1, hp⟩ := bind_some_of hp
  have t1 := okay_stepw (intK_okay (size := 4) (most := 2147483647) (by decide) (by decide)) (show step (intK 4 2147483647).cod false _ _ = _ from e1)
  obtain ⟨p2, e2, hp⟩ := bind_some_of hp
  have t2 := okay_stepw (rowK_okay (intK_okay (size := 1) (most := 255) (by decide) (by decide)) _ _ 3) (show step mansK.cod false _ _ = _ from e2)
  obtain ⟨p3, e3, hp⟩ := bind_some_of hp
  have t3 := okay_stepw (listK_okay itmK_okay (max := 8) (by decide)) (show step (listK itmK 8).cod false _ _ = _ from e3)
  injection hp with hp
  subst hp
  simp at *
  omega⟩

set_option maxHeartbeats 8000000 in
theorem tx_codes : Codes 107 [] txK 38960 := by
  intro md P N gc sb f l g o cs a w hcd hz his hcs hN hw hr hg hne hl
  obtain ⟨c0, c1, c2, c3, rfl, h0, h1, h2, h3⟩ := his
  have s0 := (natK_okay (kd := .u64) (size := 8) (most := 18446744073709551615) (by decide) (by decide)).fine.size _ _ _ _ h0; change c0.length = 1 at s0
  have s1 := (intK_okay (size := 4) (most := 2147483647) (by decide) (by decide)).fine.size _ _ _ _ h1; change c1.length = 1 at s1
  have s2 := (rowK_okay (intK_okay (size := 1) (most := 255) (by decide) (by decide)) _ _ 3).fine.size _ _ _ _ h2; change c2.length = 3 at s2
  have s3 := (listK_okay itmK_okay (max := 8) (by decide)).fine.size _ _ _ _ h3; change c3.length = 1 at s3
  have k0 := cells_left hcs; have r0 := cells_right hcs; rw [s0] at r0
  have k1 := cells_left r0; have r1 := cells_right r0; rw [s1] at r1
  rw [Nat.add_assoc] at r1
  have k2 := cells_left r1; have r2 := cells_right r1; rw [s2] at r2
  rw [Nat.add_assoc] at r2
  have k3 := r2
  have M0 := Lib.hid (Mid.start (sz := 6) hcd (show Slots w (Grow md N w w) g o [(natK .u64 8 18446744073709551615).slot 0 a.id, (intK 4 2147483647).slot 1 a.client, mansK.slot 2 a.mans, (listK itmK 8).slot 5 a.items] from ⟨⟨c0, (natK_okay (kd := .u64) (size := 8) (most := 18446744073709551615) (by decide) (by decide)).fine.mono _ _ (Grow md N w w) _ _ h0 (fun b hb => Or.inl hb), k0⟩, ⟨⟨c1, (intK_okay (size := 4) (most := 2147483647) (by decide) (by decide)).fine.mono _ _ (Grow md N w w) _ _ h1 (fun b hb => Or.inl hb), k1⟩, ⟨⟨c2, (rowK_okay (intK_okay (size := 1) (most := 255) (by decide) (by decide)) _ _ 3).fine.mono _ _ (Grow md N w w) _ _ h2 (fun b hb => Or.inl hb), k2⟩, ⟨⟨c3, (listK_okay itmK_okay (max := 8) (by decide)).fine.mono _ _ (Grow md N w w) _ _ h3 (fun b hb => Or.inl hb), k3⟩, trivial⟩⟩⟩⟩))
  have Z0 := Lib.hid (show md = true → a.id = (natK .u64 8 18446744073709551615).zero from fun h => by rw [hz h]; rfl)
  have Z1 := Lib.hid (show md = true → a.client = (intK 4 2147483647).zero from fun h => by rw [hz h]; rfl)
  have Z2 := Lib.hid (show md = true → a.mans = mansK.zero from fun h => by rw [hz h]; rfl)
  have Z3 := Lib.hid (show md = true → a.items = (listK itmK 8).zero from fun h => by rw [hz h]; rfl)
  show Calls _ _ #[.pointer (some ⟨gc, 0, none⟩), .pointer (some ⟨g, o, none⟩)] w (Coded md P N gc sb f g o txK w (step txC md l a))
  have HR := Lib.hid (step_tx md l a)
  generalize step txC md l a = r at *
  have HN := Lib.hid hN; have HW := Lib.hid hw; have HRD := Lib.hid hr
  clear hcd hz hcs hN hw hr h0 s0 k0 h1 s1 k1 h2 s2 k2 h3 s3 k3 r0 r1 r2
  go_enter Tryz.func107, Tryz.ntmps107
  have CALL := Lib.hid (M0.out.call (natK_okay (kd := .u64) (size := 8) (most := 18446744073709551615) (by decide) (by decide)).fine long_codes Z0.out HN.out HW.out HRD.out hg hne (by omega) (Nat.le_of_ble_eq_true rfl) trivial ⟨(intK_okay (size := 4) (most := 2147483647) (by decide) (by decide)).fine.slot _ _, ⟨(rowK_okay (intK_okay (size := 1) (most := 255) (by decide) (by decide)) _ _ 3).fine.slot _ _, ⟨(listK_okay itmK_okay (max := 8) (by decide)).fine.slot _ _, trivial⟩⟩⟩ trivial ⟨.inr (Nat.le_of_ble_eq_true rfl), ⟨.inr (Nat.le_of_ble_eq_true rfl), ⟨.inr (Nat.le_of_ble_eq_true rfl), trivial⟩⟩⟩)
  rw [Nat.add_zero] at CALL
  cases e0 : step (natK .u64 8 18446744073709551615).cod md l a.id with
  | none =>
    rw [e0] at CALL
    have hr0 : r = none := by
      have h9 := HR.out
      change step eight md l a.id = _ at e0; rw [e0] at h9; exact h9
    clear e0
    subst hr0
    go_wp2_with fail
    refine CALL.out.mono ?_
    rintro e w' ⟨h8, a', h9, h10, rfl, h11⟩
    exact ⟨rfl, coded_gave ⟨a', h9, h10, rfl, h11⟩ h8⟩
  | some p0 =>
    rw [e0] at CALL
    have hlen0 := (natK_okay (kd := .u64) (size := 8) (most := 18446744073709551615) (by decide) (by decide)).step M0.out.cd.bytes_of e0
    have E0 := Lib.hid e0
    clear e0
    go_wp2_with fail
    refine CALL.out.mono ?_
    rintro e w1 ⟨rfl, hM⟩
    have M1 := Lib.hid hM
    clear hM CALL
    have CALL := Lib.hid (M1.out.call (intK_okay (size := 4) (most := 2147483647) (by decide) (by decide)).fine (show Codes _ [.int .i64 4, .int .u64 2147483647] _ _ from numint_codes 4 2147483647 (by decide) (by decide)) Z1.out HN.out HW.out HRD.out hg hne (by omega) (Nat.le_of_ble_eq_true rfl) ⟨(natK_okay (kd := .u64) (size := 8) (most := 18446744073709551615) (by decide) (by decide)).fine.slot _ _, trivial⟩ ⟨(rowK_okay (intK_okay (size := 1) (most := 255) (by decide) (by decide)) _ _ 3).fine.slot _ _, ⟨(listK_okay itmK_okay (max := 8) (by decide)).fine.slot _ _, trivial⟩⟩ ⟨.inl (Nat.le_of_ble_eq_true rfl), trivial⟩ ⟨.inr (Nat.le_of_ble_eq_true rfl), ⟨.inr (Nat.le_of_ble_eq_true rfl), trivial⟩⟩)
    cases e1 : step (intK 4 2147483647).cod md p0.1 a.client with
    | none =>
      rw [e1] at CALL
      have hr0 : r = none := by
        have h9 := HR.out
        have hh0 := E0.out; change step eight md l a.id = _ at hh0; rw [hh0] at h9; simp only [Option.bind_some] at h9
        change step (whole 4 2147483647) md p0.1 a.client = _ at e1; rw [e1] at h9; exact h9
      clear e1
      subst hr0
      go_wp2_with fail
      refine CALL.out.mono ?_
      rintro e w' ⟨h8, a', h9, h10, rfl, h11⟩
      exact ⟨rfl, coded_gave ⟨a', h9, h10, rfl, h11⟩ h8⟩
    | some p1 =>
      rw [e1] at CALL
      have hlen1 := (intK_okay (size := 4) (most := 2147483647) (by decide) (by decide)).step M1.out.cd.bytes_of e1
      have E1 := Lib.hid e1
      clear e1
      go_wp2_with fail
      refine CALL.out.mono ?_
      rintro e w2 ⟨rfl, hM⟩
      have M2 := Lib.hid hM
      clear hM CALL
      have CALL := Lib.hid (M2.out.call (rowK_okay (intK_okay (size := 1) (most := 255) (by decide) (by decide)) _ _ 3).fine mans_codes Z2.out HN.out HW.out HRD.out hg hne (by omega) (Nat.le_of_ble_eq_true rfl) ⟨(intK_okay (size := 4) (most := 2147483647) (by decide) (by decide)).fine.slot _ _, ⟨(natK_okay (kd := .u64) (size := 8) (most := 18446744073709551615) (by decide) (by decide)).fine.slot _ _, trivial⟩⟩ ⟨(listK_okay itmK_okay (max := 8) (by decide)).fine.slot _ _, trivial⟩ ⟨.inl (Nat.le_of_ble_eq_true rfl), ⟨.inl (Nat.le_of_ble_eq_true rfl), trivial⟩⟩ ⟨.inr (Nat.le_of_ble_eq_true rfl), trivial⟩)
      cases e2 : step mansK.cod md p1.1 a.mans with
      | none =>
        rw [e2] at CALL
        have hr0 : r = none := by
          have h9 := HR.out
          have hh0 := E0.out; change step eight md l a.id = _ at hh0; rw [hh0] at h9; simp only [Option.bind_some] at h9
          have hh1 := E1.out; change step (whole 4 2147483647) md p0.1 a.client = _ at hh1; rw [hh1] at h9; simp only [Option.bind_some] at h9
          change step mansC md p1.1 a.mans = _ at e2; rw [e2] at h9; exact h9
        clear e2
        subst hr0
        go_wp2_with fail
        refine CALL.out.mono ?_
        rintro e w' ⟨h8, a', h9, h10, rfl, h11⟩
        exact ⟨rfl, coded_gave ⟨a', h9, h10, rfl, h11⟩ h8⟩
      | some p2 =>
        rw [e2] at CALL
        have hlen2 := (rowK_okay (intK_okay (size := 1) (most := 255) (by decide) (by decide)) _ _ 3).step M2.out.cd.bytes_of e2
        have E2 := Lib.hid e2
        clear e2
        go_wp2_with fail
        refine CALL.out.mono ?_
        rintro e w3 ⟨rfl, hM⟩
        have M3 := Lib.hid hM
        clear hM CALL
        have CALL := Lib.hid (M3.out.call (listK_okay itmK_okay (max := 8) (by decide)).fine (show Codes _ [.int .u64 8, .func (.func 161) #[] #[]] _ _ from listitm_codes 4864 itmK_okay.len itmK_okay.good itm_codes 8 (by decide)) Z3.out HN.out HW.out HRD.out hg hne (by omega) (Nat.le_of_ble_eq_true rfl) ⟨(rowK_okay (intK_okay (size := 1) (most := 255) (by decide) (by decide)) _ _ 3).fine.slot _ _, ⟨(intK_okay (size := 4) (most := 2147483647) (by decide) (by decide)).fine.slot _ _, ⟨(natK_okay (kd := .u64) (size := 8) (most := 18446744073709551615) (by decide) (by decide)).fine.slot _ _, trivial⟩⟩⟩ trivial ⟨.inl (Nat.le_of_ble_eq_true rfl), ⟨.inl (Nat.le_of_ble_eq_true rfl), ⟨.inl (Nat.le_of_ble_eq_true rfl), trivial⟩⟩⟩ trivial)
        cases e3 : step (listK itmK 8).cod md p2.1 a.items with
        | none =>
          rw [e3] at CALL
          have hr0 : r = none := by
            have h9 := HR.out
            have hh0 := E0.out; change step eight md l a.id = _ at hh0; rw [hh0] at h9; simp only [Option.bind_some] at h9
            have hh1 := E1.out; change step (whole 4 2147483647) md p0.1 a.client = _ at hh1; rw [hh1] at h9; simp only [Option.bind_some] at h9
            have hh2 := E2.out; change step mansC md p1.1 a.mans = _ at hh2; rw [hh2] at h9; simp only [Option.bind_some] at h9
            change step (list 8 itmC) md p2.1 a.items = _ at e3; rw [e3] at h9; exact h9
          clear e3
          subst hr0
          go_wp2_with fail
          refine CALL.out.mono ?_
          rintro e w' ⟨h8, a', h9, h10, rfl, h11⟩
          exact ⟨rfl, coded_gave ⟨a', h9, h10, rfl, h11⟩ h8⟩
        | some p3 =>
          rw [e3] at CALL
          have hlen3 := (listK_okay itmK_okay (max := 8) (by decide)).step M3.out.cd.bytes_of e3
          have E3 := Lib.hid e3
          clear e3
          go_wp2_with fail
          refine CALL.out.mono ?_
          rintro e w4 ⟨rfl, hM⟩
          have M4 := Lib.hid hM
          clear hM CALL
          have hr0 : r = some (p3.1, ⟨p0.2, p1.2, p2.2, p3.2⟩) := by
            have h9 := HR.out
            have hh0 := E0.out; change step eight md l a.id = _ at hh0; rw [hh0] at h9; simp only [Option.bind_some] at h9
            have hh1 := E1.out; change step (whole 4 2147483647) md p0.1 a.client = _ at hh1; rw [hh1] at h9; simp only [Option.bind_some] at h9
            have hh2 := E2.out; change step mansC md p1.1 a.mans = _ at hh2; rw [hh2] at h9; simp only [Option.bind_some] at h9
            have hh3 := E3.out; change step (list 8 itmC) md p2.1 a.items = _ at hh3; rw [hh3] at h9; simp only [Option.bind_some] at h9
            first | exact h9 | (rw [hb]; exact h9)
          subst hr0
          go_wp2_with fail
          go_end0
          have M := M4.out
          obtain ⟨⟨d3, q3, x3⟩, ⟨d2, q2, x2⟩, ⟨d1, q1, x1⟩, ⟨d0, q0, x0⟩, _⟩ := M.dn
          change (natK .u64 8 18446744073709551615).is w4 (Grow md N w w4) d0 p0.2 at q0
          have t0 := (natK_okay (kd := .u64) (size := 8) (most := 18446744073709551615) (by decide) (by decide)).fine.size _ _ _ _ q0; change d0.length = 1 at t0; change Cells _ g (o + 0) d0 at x0
          change (intK 4 2147483647).is w4 (Grow md N w w4) d1 p1.2 at q1
          have t1 := (intK_okay (size := 4) (most := 2147483647) (by decide) (by decide)).fine.size _ _ _ _ q1; change d1.length = 1 at t1; change Cells _ g (o + 1) d1 at x1
          change mansK.is w4 (Grow md N w w4) d2 p2.2 at q2
          have t2 := (rowK_okay (intK_okay (size := 1) (most := 255) (by decide) (by decide)) _ _ 3).fine.size _ _ _ _ q2; change d2.length = 3 at t2; change Cells _ g (o + 2) d2 at x2
          change (listK itmK 8).is w4 (Grow md N w w4) d3 p3.2 at q3
          have t3 := (listK_okay itmK_okay (max := 8) (by decide)).fine.size _ _ _ _ q3; change d3.length = 1 at t3; change Cells _ g (o + 5) d3 at x3
          have y2 := cells_join x2 (show Cells _ g (o + 2 + d2.length) _ from by rw [t2, Nat.add_assoc]; exact x3)
          have y1 := cells_join x1 (show Cells _ g (o + 1 + d1.length) _ from by rw [t1, Nat.add_assoc]; exact y2)
          have y0 := cells_join x0 (show Cells _ g (o + 0 + d0.length) _ from by rw [t0, Nat.add_assoc]; exact y1)
          exact ⟨M.safe, rfl, M.cd, ⟨d0 ++ (d1 ++ (d2 ++ (d3))), ⟨d0, d1, d2, d3, rfl, q0, q1, q2, q3⟩, by rw [Nat.add_zero] at y0; exact y0⟩, M.out, M.fz⟩

end Go.Proofs.YtngcbpgafjnfaaaGreatDoor
