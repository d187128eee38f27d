/- The coder's structs and lists of them (gen_structs.py). The coder's structs and lists of them (gen_structs.py). -/
import Derived.Test.YtngcbpgafjnfaaaGreatDoorLoB11
set_option linter.unusedSimpArgs false
set_option linter.unusedVariables false

namespace Go.Proofs.YtngcbpgafjnfaaaGreatDoor
open Go.RowKit Go.Sort
set_option linter.unusedVariables false

/-- cpy -/
def cpyK : Kd Cpy := ⟨cpyC, 10, ⟨0, 0, 0, [], [], [0, 0, 0, 0], []⟩, fun w N cs a => ∃ c0 c1 c2 c3 c4 c5 c6, cs = c0 ++ (c1 ++ (c2 ++ (c3 ++ (c4 ++ (c5 ++ (c6)))))) ∧ (intK 1 2).is w N c0 a.state ∧ (natK .u32 4 4294967295).is w N c1 a.inc ∧ (natK .u32 4 4294967295).is w N c2 a.ver ∧ (listK entK 8).is w N c3 a.data ∧ (listK lckK 64).is w N c4 a.locks ∧ incsK.is w N c5 a.fences ∧ (listK vtdK 64).is w N c6 a.votes⟩
theorem cpyK_fine : cpyK.Fine := by
  refine ⟨fun w N cs a ha => ?_, fun w w' N P cs a ha hs hN => ?_, fun w N M cs a ha hm => ?_⟩
  · obtain ⟨c0, c1, c2, c3, c4, c5, c6, rfl, h0, h1, h2, h3, h4, h5, h6⟩ := ha
    have s0 := (intK_okay (size := 1) (most := 2) (by decide) (by decide)).fine.size _ _ _ _ h0; have s1 := (natK_okay (kd := .u32) (size := 4) (most := 4294967295) (by decide) (by decide)).fine.size _ _ _ _ h1; have s2 := (natK_okay (kd := .u32) (size := 4) (most := 4294967295) (by decide) (by decide)).fine.size _ _ _ _ h2; have s3 := (listK_okay entK_okay (max := 8) (by decide)).fine.size _ _ _ _ h3; have s4 := (listK_okay lckK_okay (max := 64) (by decide)).fine.size _ _ _ _ h4; have s5 := (rowK_okay (natK_okay (kd := .u32) (size := 4) (most := 4294967295) (by decide) (by decide)) _ _ 4).fine.size _ _ _ _ h5; have s6 := (listK_okay vtdK_okay (max := 64) (by decide)).fine.size _ _ _ _ h6
    change c0.length = 1 at s0; change c1.length = 1 at s1; change c2.length = 1 at s2; change c3.length = 1 at s3; change c4.length = 1 at s4; change c5.length = 4 at s5; change c6.length = 1 at s6
    show _ = 10
    simp only [List.length_append]; omega
  · obtain ⟨c0, c1, c2, c3, c4, c5, c6, e, h0, h1, h2, h3, h4, h5, h6⟩ := ha
    exact ⟨c0, c1, c2, c3, c4, c5, c6, e, (intK_okay (size := 1) (most := 2) (by decide) (by decide)).fine.safe _ _ _ _ _ _ h0 hs hN, (natK_okay (kd := .u32) (size := 4) (most := 4294967295) (by decide) (by decide)).fine.safe _ _ _ _ _ _ h1 hs hN, (natK_okay (kd := .u32) (size := 4) (most := 4294967295) (by decide) (by decide)).fine.safe _ _ _ _ _ _ h2 hs hN, (listK_okay entK_okay (max := 8) (by decide)).fine.safe _ _ _ _ _ _ h3 hs hN, (listK_okay lckK_okay (max := 64) (by decide)).fine.safe _ _ _ _ _ _ h4 hs hN, (rowK_okay (natK_okay (kd := .u32) (size := 4) (most := 4294967295) (by decide) (by decide)) _ _ 4).fine.safe _ _ _ _ _ _ h5 hs hN, (listK_okay vtdK_okay (max := 64) (by decide)).fine.safe _ _ _ _ _ _ h6 hs hN⟩
  · obtain ⟨c0, c1, c2, c3, c4, c5, c6, e, h0, h1, h2, h3, h4, h5, h6⟩ := ha
    exact ⟨c0, c1, c2, c3, c4, c5, c6, e, (intK_okay (size := 1) (most := 2) (by decide) (by decide)).fine.mono _ _ _ _ _ h0 hm, (natK_okay (kd := .u32) (size := 4) (most := 4294967295) (by decide) (by decide)).fine.mono _ _ _ _ _ h1 hm, (natK_okay (kd := .u32) (size := 4) (most := 4294967295) (by decide) (by decide)).fine.mono _ _ _ _ _ h2 hm, (listK_okay entK_okay (max := 8) (by decide)).fine.mono _ _ _ _ _ h3 hm, (listK_okay lckK_okay (max := 64) (by decide)).fine.mono _ _ _ _ _ h4 hm, (rowK_okay (natK_okay (kd := .u32) (size := 4) (most := 4294967295) (by decide) (by decide)) _ _ 4).fine.mono _ _ _ _ _ h5 hm, (listK_okay vtdK_okay (max := 64) (by decide)).fine.mono _ _ _ _ _ h6 hm⟩
theorem step_cpy (md : Bool) (l : List Nat) (a : Cpy) : step cpyC md l a = (step (whole 1 2) md l a.state).bind fun p0 => (step four_ md p0.1 a.inc).bind fun p1 => (step four_ md p1.1 a.ver).bind fun p2 => (step entsC md p2.1 a.data).bind fun p3 => (step (list 64 lckC) md p3.1 a.locks).bind fun p4 => (step (rep four_ 4) md p4.1 a.fences).bind fun p5 => (step (list 64 vtdC) md p5.1 a.votes).bind fun p6 => some (p6.1, ⟨p0.2, p1.2, p2.2, p3.2, p4.2, p5.2, p6.2⟩) := by
  unfold cpyC
  rw [step_map _ _ _ _ _ _ (fun _ => rfl)]
  simp only [step_two, Option.map_bind, Option.bind_assoc, Option.bind_some, Option.map_some, Function.comp_def]
theorem cpyK_okay : cpyK.Okay 319248 := ⟨cpyK_fine, cpy_good, fun a ha => enc_len (c := cpyC) ha fun p hp => by
  rw [step_cpy] at hp
  obtain ⟨p0, e0, hp⟩ := bind_some_of hp
  have t0 := okay_stepw (intK_okay (size := 1) (most := 2) (by decide) (by decide)) (show step (intK 1 2).cod false _ _ = _ from e0)
  obtain ⟨p1, e1, hp⟩ := bind_some_of hp
  have t1 := okay_stepw (natK_okay (kd := .u32) (size := 4) (most := 4294967295) (by decide) (by decide)) (show step (natK .u32 4 4294967295).cod false _ _ = _ from e1)
  obtain ⟨p2, e2, hp⟩ := bind_some_of hp
  have t2 := okay_stepw (natK_okay (kd := .u32) (size := 4) (most := 4294967295) (by decide) (by decide)) (show step (natK .u32 4 4294967295).cod false _ _ = _ from e2)
  obtain ⟨p3, e3, hp⟩ := bind_some_of hp
  have t3 := okay_stepw (listK_okay entK_okay (max := 8) (by decide)) (show step (listK entK 8).cod false _ _ = _ from e3)
  obtain ⟨p4, e4, hp⟩ := bind_some_of hp
  have t4 := okay_stepw (listK_okay lckK_okay (max := 64) (by decide)) (show step (listK lckK 64).cod false _ _ = _ from e4)
  obtain ⟨p5, e5, hp⟩ := bind_some_of hp
  have t5 := okay_stepw (rowK_okay (natK_okay (kd := .u32) (size := 4) (most := 4294967295) (by decide) (by decide)) _ _ 4) (show step incsK.cod false _ _ = _ from e5)
  obtain ⟨p6, e6, hp⟩ := bind_some_of hp
  have t6 := okay_stepw (listK_okay vtdK_okay (max := 64) (by decide)) (show step (listK vtdK 64).cod false _ _ = _ from e6)
  injection hp with hp
  subst hp
  simp at *
  omega⟩

set_option maxHeartbeats 8000000 in
theorem cpy_codes : Codes 123 [] cpyK 319248 := by
  intro md P N gc sb f l g o cs a w hcd hz his hcs hN hw hr hg hne hl
  obtain ⟨c0, c1, c2, c3, c4, c5, c6, rfl, h0, h1, h2, h3, h4, h5, h6⟩ := his
  have s0 := (intK_okay (size := 1) (most := 2) (by decide) (by decide)).fine.size _ _ _ _ h0; change c0.length = 1 at s0
  have s1 := (natK_okay (kd := .u32) (size := 4) (most := 4294967295) (by decide) (by decide)).fine.size _ _ _ _ h1; change c1.length = 1 at s1
  have s2 := (natK_okay (kd := .u32) (size := 4) (most := 4294967295) (by decide) (by decide)).fine.size _ _ _ _ h2; change c2.length = 1 at s2
  have s3 := (listK_okay entK_okay (max := 8) (by decide)).fine.size _ _ _ _ h3; change c3.length = 1 at s3
  have s4 := (listK_okay lckK_okay (max := 64) (by decide)).fine.size _ _ _ _ h4; change c4.length = 1 at s4
  have s5 := (rowK_okay (natK_okay (kd := .u32) (size := 4) (most := 4294967295) (by decide) (by decide)) _ _ 4).fine.size _ _ _ _ h5; change c5.length = 4 at s5
  have s6 := (listK_okay vtdK_okay (max := 64) (by decide)).fine.size _ _ _ _ h6; change c6.length = 1 at s6
  have k0 := cells_left hcs; have r0 := cells_right hcs; rw [s0] at r0
  have k1 := cells_left r0; have r1 := cells_right r0; rw [s1] at r1
  rw [Nat.add_assoc] at r1
  have k2 := cells_left r1; have r2 := cells_right r1; rw [s2] at r2
  rw [Nat.add_assoc] at r2
  have k3 := cells_left r2; have r3 := cells_right r2; rw [s3] at r3
  rw [Nat.add_assoc] at r3
  have k4 := cells_left r3; have r4 := cells_right r3; rw [s4] at r4
  rw [Nat.add_assoc] at r4
  have k5 := cells_left r4; have r5 := cells_right r4; rw [s5] at r5
  rw [Nat.add_assoc] at r5
  have k6 := r5
  have M0 := Lib.hid (Mid.start (sz := 10) hcd (show Slots w (Grow md N w w) g o [(intK 1 2).slot 0 a.state, (natK .u32 4 4294967295).slot 1 a.inc, (natK .u32 4 4294967295).slot 2 a.ver, (listK entK 8).slot 3 a.data, (listK lckK 64).slot 4 a.locks, incsK.slot 5 a.fences, (listK vtdK 64).slot 9 a.votes] from ⟨⟨c0, (intK_okay (size := 1) (most := 2) (by decide) (by decide)).fine.mono _ _ (Grow md N w w) _ _ h0 (fun b hb => Or.inl hb), k0⟩, ⟨⟨c1, (natK_okay (kd := .u32) (size := 4) (most := 4294967295) (by decide) (by decide)).fine.mono _ _ (Grow md N w w) _ _ h1 (fun b hb => Or.inl hb), k1⟩, ⟨⟨c2, (natK_okay (kd := .u32) (size := 4) (most := 4294967295) (by decide) (by decide)).fine.mono _ _ (Grow md N w w) _ _ h2 (fun b hb => Or.inl hb), k2⟩, ⟨⟨c3, (listK_okay entK_okay (max := 8) (by decide)).fine.mono _ _ (Grow md N w w) _ _ h3 (fun b hb => Or.inl hb), k3⟩, ⟨⟨c4, (listK_okay lckK_okay (max := 64) (by decide)).fine.mono _ _ (Grow md N w w) _ _ h4 (fun b hb => Or.inl hb), k4⟩, ⟨⟨c5, (rowK_okay (natK_okay (kd := .u32) (size := 4) (most := 4294967295) (by decide) (by decide)) _ _ 4).fine.mono _ _ (Grow md N w w) _ _ h5 (fun b hb => Or.inl hb), k5⟩, ⟨⟨c6, (listK_okay vtdK_okay (max := 64) (by decide)).fine.mono _ _ (Grow md N w w) _ _ h6 (fun b hb => Or.inl hb), k6⟩, trivial⟩⟩⟩⟩⟩⟩⟩))
  have Z0 := Lib.hid (show md = true → a.state = (intK 1 2).zero from fun h => by rw [hz h]; rfl)
  have Z1 := Lib.hid (show md = true → a.inc = (natK .u32 4 4294967295).zero from fun h => by rw [hz h]; rfl)
  have Z2 := Lib.hid (show md = true → a.ver = (natK .u32 4 4294967295).zero from fun h => by rw [hz h]; rfl)
  have Z3 := Lib.hid (show md = true → a.data = (listK entK 8).zero from fun h => by rw [hz h]; rfl)
  have Z4 := Lib.hid (show md = true → a.locks = (listK lckK 64).zero from fun h => by rw [hz h]; rfl)
  have Z5 := Lib.hid (show md = true → a.fences = incsK.zero from fun h => by rw [hz h]; rfl)
  have Z6 := Lib.hid (show md = true → a.votes = (listK vtdK 64).zero from fun h => by rw [hz h]; rfl)
  show Calls _ _ #[.pointer (some ⟨gc, 0, none⟩), .pointer (some ⟨g, o, none⟩)] w (Coded md P N gc sb f g o cpyK w (step cpyC md l a))
  have HR := Lib.hid (step_cpy md l a)
  generalize step cpyC md l a = r at *
  have HN := Lib.hid hN; have HW := Lib.hid hw; have HRD := Lib.hid hr
  clear hcd hz hcs hN hw hr h0 s0 k0 h1 s1 k1 h2 s2 k2 h3 s3 k3 h4 s4 k4 h5 s5 k5 h6 s6 k6 r0 r1 r2 r3 r4 r5
  go_enter Tryz.func123, Tryz.ntmps123
  have CALL := Lib.hid (M0.out.call (intK_okay (size := 1) (most := 2) (by decide) (by decide)).fine (show Codes _ [.int .i64 1, .int .u64 2] _ _ from numstate_codes 1 2 (by decide) (by decide)) Z0.out HN.out HW.out HRD.out hg hne (by omega) (Nat.le_of_ble_eq_true rfl) trivial ⟨(natK_okay (kd := .u32) (size := 4) (most := 4294967295) (by decide) (by decide)).fine.slot _ _, ⟨(natK_okay (kd := .u32) (size := 4) (most := 4294967295) (by decide) (by decide)).fine.slot _ _, ⟨(listK_okay entK_okay (max := 8) (by decide)).fine.slot _ _, ⟨(listK_okay lckK_okay (max := 64) (by decide)).fine.slot _ _, ⟨(rowK_okay (natK_okay (kd := .u32) (size := 4) (most := 4294967295) (by decide) (by decide)) _ _ 4).fine.slot _ _, ⟨(listK_okay vtdK_okay (max := 64) (by decide)).fine.slot _ _, trivial⟩⟩⟩⟩⟩⟩ trivial ⟨.inr (Nat.le_of_ble_eq_true rfl), ⟨.inr (Nat.le_of_ble_eq_true rfl), ⟨.inr (Nat.le_of_ble_eq_true rfl), ⟨.inr (Nat.le_of_ble_eq_true rfl), ⟨.inr (Nat.le_of_ble_eq_true rfl), ⟨.inr (Nat.le_of_ble_eq_true rfl), trivial⟩⟩⟩⟩⟩⟩)
  rw [Nat.add_zero] at CALL
  cases e0 : step (intK 1 2).cod md l a.state with
  | none =>
    rw [e0] at CALL
    have hr0 : r = none := by
      have h9 := HR.out
      change step (whole 1 2) md l a.state = _ at e0; rw [e0] at h9; exact h9
    clear e0
    subst hr0
    go_wp2_with fail
    refine CALL.out.mono ?_
    rintro e w' ⟨h8, a', h9, h10, rfl, h11⟩
    exact ⟨rfl, coded_gave ⟨a', h9, h10, rfl, h11⟩ h8⟩
  | some p0 =>
    rw [e0] at CALL
    have hlen0 := (intK_okay (size := 1) (most := 2) (by decide) (by decide)).step M0.out.cd.bytes_of e0
    have E0 := Lib.hid e0
    clear e0
    go_wp2_with fail
    refine CALL.out.mono ?_
    rintro e w1 ⟨rfl, hM⟩
    have M1 := Lib.hid hM
    clear hM CALL
    have CALL := Lib.hid (M1.out.call (natK_okay (kd := .u32) (size := 4) (most := 4294967295) (by decide) (by decide)).fine word_codes Z1.out HN.out HW.out HRD.out hg hne (by omega) (Nat.le_of_ble_eq_true rfl) ⟨(intK_okay (size := 1) (most := 2) (by decide) (by decide)).fine.slot _ _, trivial⟩ ⟨(natK_okay (kd := .u32) (size := 4) (most := 4294967295) (by decide) (by decide)).fine.slot _ _, ⟨(listK_okay entK_okay (max := 8) (by decide)).fine.slot _ _, ⟨(listK_okay lckK_okay (max := 64) (by decide)).fine.slot _ _, ⟨(rowK_okay (natK_okay (kd := .u32) (size := 4) (most := 4294967295) (by decide) (by decide)) _ _ 4).fine.slot _ _, ⟨(listK_okay vtdK_okay (max := 64) (by decide)).fine.slot _ _, trivial⟩⟩⟩⟩⟩ ⟨.inl (Nat.le_of_ble_eq_true rfl), trivial⟩ ⟨.inr (Nat.le_of_ble_eq_true rfl), ⟨.inr (Nat.le_of_ble_eq_true rfl), ⟨.inr (Nat.le_of_ble_eq_true rfl), ⟨.inr (Nat.le_of_ble_eq_true rfl), ⟨.inr (Nat.le_of_ble_eq_true rfl), trivial⟩⟩⟩⟩⟩)
    cases e1 : step (natK .u32 4 4294967295).cod md p0.1 a.inc with
    | none =>
      rw [e1] at CALL
      have hr0 : r = none := by
        have h9 := HR.out
        have hh0 := E0.out; change step (whole 1 2) md l a.state = _ at hh0; rw [hh0] at h9; simp only [Option.bind_some] at h9
        change step four_ md p0.1 a.inc = _ at e1; rw [e1] at h9; exact h9
      clear e1
      subst hr0
      go_wp2_with fail
      refine CALL.out.mono ?_
      rintro e w' ⟨h8, a', h9, h10, rfl, h11⟩
      exact ⟨rfl, coded_gave ⟨a', h9, h10, rfl, h11⟩ h8⟩
    | some p1 =>
      rw [e1] at CALL
      have hlen1 := (natK_okay (kd := .u32) (size := 4) (most := 4294967295) (by decide) (by decide)).step M1.out.cd.bytes_of e1
      have E1 := Lib.hid e1
      clear e1
      go_wp2_with fail
      refine CALL.out.mono ?_
      rintro e w2 ⟨rfl, hM⟩
      have M2 := Lib.hid hM
      clear hM CALL
      have CALL := Lib.hid (M2.out.call (natK_okay (kd := .u32) (size := 4) (most := 4294967295) (by decide) (by decide)).fine word_codes Z2.out HN.out HW.out HRD.out hg hne (by omega) (Nat.le_of_ble_eq_true rfl) ⟨(natK_okay (kd := .u32) (size := 4) (most := 4294967295) (by decide) (by decide)).fine.slot _ _, ⟨(intK_okay (size := 1) (most := 2) (by decide) (by decide)).fine.slot _ _, trivial⟩⟩ ⟨(listK_okay entK_okay (max := 8) (by decide)).fine.slot _ _, ⟨(listK_okay lckK_okay (max := 64) (by decide)).fine.slot _ _, ⟨(rowK_okay (natK_okay (kd := .u32) (size := 4) (most := 4294967295) (by decide) (by decide)) _ _ 4).fine.slot _ _, ⟨(listK_okay vtdK_okay (max := 64) (by decide)).fine.slot _ _, trivial⟩⟩⟩⟩ ⟨.inl (Nat.le_of_ble_eq_true rfl), ⟨.inl (Nat.le_of_ble_eq_true rfl), trivial⟩⟩ ⟨.inr (Nat.le_of_ble_eq_true rfl), ⟨.inr (Nat.le_of_ble_eq_true rfl), ⟨.inr (Nat.le_of_ble_eq_true rfl), ⟨.inr (Nat.le_of_ble_eq_true rfl), trivial⟩⟩⟩⟩)
      cases e2 : step (natK .u32 4 4294967295).cod md p1.1 a.ver with
      | none =>
        rw [e2] at CALL
        have hr0 : r = none := by
          have h9 := HR.out
          have hh0 := E0.out; change step (whole 1 2) md l a.state = _ at hh0; rw [hh0] at h9; simp only [Option.bind_some] at h9
          have hh1 := E1.out; change step four_ md p0.1 a.inc = _ at hh1; rw [hh1] at h9; simp only [Option.bind_some] at h9
          change step four_ md p1.1 a.ver = _ at e2; rw [e2] at h9; exact h9
        clear e2
        subst hr0
        go_wp2_with fail
        refine CALL.out.mono ?_
        rintro e w' ⟨h8, a', h9, h10, rfl, h11⟩
        exact ⟨rfl, coded_gave ⟨a', h9, h10, rfl, h11⟩ h8⟩
      | some p2 =>
        rw [e2] at CALL
        have hlen2 := (natK_okay (kd := .u32) (size := 4) (most := 4294967295) (by decide) (by decide)).step M2.out.cd.bytes_of e2
        have E2 := Lib.hid e2
        clear e2
        go_wp2_with fail
        refine CALL.out.mono ?_
        rintro e w3 ⟨rfl, hM⟩
        have M3 := Lib.hid hM
        clear hM CALL
        have CALL := Lib.hid (M3.out.call (listK_okay entK_okay (max := 8) (by decide)).fine entries_codes Z3.out HN.out HW.out HRD.out hg hne (by omega) (Nat.le_of_ble_eq_true rfl) ⟨(natK_okay (kd := .u32) (size := 4) (most := 4294967295) (by decide) (by decide)).fine.slot _ _, ⟨(natK_okay (kd := .u32) (size := 4) (most := 4294967295) (by decide) (by decide)).fine.slot _ _, ⟨(intK_okay (size := 1) (most := 2) (by decide) (by decide)).fine.slot _ _, trivial⟩⟩⟩ ⟨(listK_okay lckK_okay (max := 64) (by decide)).fine.slot _ _, ⟨(rowK_okay (natK_okay (kd := .u32) (size := 4) (most := 4294967295) (by decide) (by decide)) _ _ 4).fine.slot _ _, ⟨(listK_okay vtdK_okay (max := 64) (by decide)).fine.slot _ _, trivial⟩⟩⟩ ⟨.inl (Nat.le_of_ble_eq_true rfl), ⟨.inl (Nat.le_of_ble_eq_true rfl), ⟨.inl (Nat.le_of_ble_eq_true rfl), trivial⟩⟩⟩ ⟨.inr (Nat.le_of_ble_eq_true rfl), ⟨.inr (Nat.le_of_ble_eq_true rfl), ⟨.inr (Nat.le_of_ble_eq_true rfl), trivial⟩⟩⟩)
        cases e3 : step (listK entK 8).cod md p2.1 a.data with
        | none =>
          rw [e3] at CALL
          have hr0 : r = none := by
            have h9 := HR.out
            have hh0 := E0.out; change step (whole 1 2) md l a.state = _ at hh0; rw [hh0] at h9; simp only [Option.bind_some] at h9
            have hh1 := E1.out; change step four_ md p0.1 a.inc = _ at hh1; rw [hh1] at h9; simp only [Option.bind_some] at h9
            have hh2 := E2.out; change step four_ md p1.1 a.ver = _ at hh2; rw [hh2] at h9; simp only [Option.bind_some] at h9
            change step entsC md p2.1 a.data = _ at e3; rw [e3] at h9; exact h9
          clear e3
          subst hr0
          go_wp2_with fail
          refine CALL.out.mono ?_
          rintro e w' ⟨h8, a', h9, h10, rfl, h11⟩
          exact ⟨rfl, coded_gave ⟨a', h9, h10, rfl, h11⟩ h8⟩
        | some p3 =>
          rw [e3] at CALL
          have hlen3 := (listK_okay entK_okay (max := 8) (by decide)).step M3.out.cd.bytes_of e3
          have E3 := Lib.hid e3
          clear e3
          go_wp2_with fail
          refine CALL.out.mono ?_
          rintro e w4 ⟨rfl, hM⟩
          have M4 := Lib.hid hM
          clear hM CALL
          have CALL := Lib.hid (M4.out.call (listK_okay lckK_okay (max := 64) (by decide)).fine (show Codes _ [.int .u64 64, .func (.func 167) #[] #[]] _ _ from listlck_codes 4896 lckK_okay.len lckK_okay.good lck_codes 64 (by decide)) Z4.out HN.out HW.out HRD.out hg hne (by omega) (Nat.le_of_ble_eq_true rfl) ⟨(listK_okay entK_okay (max := 8) (by decide)).fine.slot _ _, ⟨(natK_okay (kd := .u32) (size := 4) (most := 4294967295) (by decide) (by decide)).fine.slot _ _, ⟨(natK_okay (kd := .u32) (size := 4) (most := 4294967295) (by decide) (by decide)).fine.slot _ _, ⟨(intK_okay (size := 1) (most := 2) (by decide) (by decide)).fine.slot _ _, trivial⟩⟩⟩⟩ ⟨(rowK_okay (natK_okay (kd := .u32) (size := 4) (most := 4294967295) (by decide) (by decide)) _ _ 4).fine.slot _ _, ⟨(listK_okay vtdK_okay (max := 64) (by decide)).fine.slot _ _, trivial⟩⟩ ⟨.inl (Nat.le_of_ble_eq_true rfl), ⟨.inl (Nat.le_of_ble_eq_true rfl), ⟨.inl (Nat.le_of_ble_eq_true rfl), ⟨.inl (Nat.le_of_ble_eq_true rfl), trivial⟩⟩⟩⟩ ⟨.inr (Nat.le_of_ble_eq_true rfl), ⟨.inr (Nat.le_of_ble_eq_true rfl), trivial⟩⟩)
          cases e4 : step (listK lckK 64).cod md p3.1 a.locks with
          | none =>
            rw [e4] at CALL
            have hr0 : r = none := by
              have h9 := HR.out
              have hh0 := E0.out; change step (whole 1 2) md l a.state = _ at hh0; rw [hh0] at h9; simp only [Option.bind_some] at h9
              have hh1 := E1.out; change step four_ md p0.1 a.inc = _ at hh1; rw [hh1] at h9; simp only [Option.bind_some] at h9
              have hh2 := E2.out; change step four_ md p1.1 a.ver = _ at hh2; rw [hh2] at h9; simp only [Option.bind_some] at h9
              have hh3 := E3.out; change step entsC md p2.1 a.data = _ at hh3; rw [hh3] at h9; simp only [Option.bind_some] at h9
              change step (list 64 lckC) md p3.1 a.locks = _ at e4; rw [e4] at h9; exact h9
            clear e4
            subst hr0
            go_wp2_with fail
            refine CALL.out.mono ?_
            rintro e w' ⟨h8, a', h9, h10, rfl, h11⟩
            exact ⟨rfl, coded_gave ⟨a', h9, h10, rfl, h11⟩ h8⟩
          | some p4 =>
            rw [e4] at CALL
            have hlen4 := (listK_okay lckK_okay (max := 64) (by decide)).step M4.out.cd.bytes_of e4
            have E4 := Lib.hid e4
            clear e4
            go_wp2_with fail
            refine CALL.out.mono ?_
            rintro e w5 ⟨rfl, hM⟩
            have M5 := Lib.hid hM
            clear hM CALL
            have CALL := Lib.hid (M5.out.call (rowK_okay (natK_okay (kd := .u32) (size := 4) (most := 4294967295) (by decide) (by decide)) _ _ 4).fine incs_codes Z5.out HN.out HW.out HRD.out hg hne (by omega) (Nat.le_of_ble_eq_true rfl) ⟨(listK_okay lckK_okay (max := 64) (by decide)).fine.slot _ _, ⟨(listK_okay entK_okay (max := 8) (by decide)).fine.slot _ _, ⟨(natK_okay (kd := .u32) (size := 4) (most := 4294967295) (by decide) (by decide)).fine.slot _ _, ⟨(natK_okay (kd := .u32) (size := 4) (most := 4294967295) (by decide) (by decide)).fine.slot _ _, ⟨(intK_okay (size := 1) (most := 2) (by decide) (by decide)).fine.slot _ _, trivial⟩⟩⟩⟩⟩ ⟨(listK_okay vtdK_okay (max := 64) (by decide)).fine.slot _ _, trivial⟩ ⟨.inl (Nat.le_of_ble_eq_true rfl), ⟨.inl (Nat.le_of_ble_eq_true rfl), ⟨.inl (Nat.le_of_ble_eq_true rfl), ⟨.inl (Nat.le_of_ble_eq_true rfl), ⟨.inl (Nat.le_of_ble_eq_true rfl), trivial⟩⟩⟩⟩⟩ ⟨.inr (Nat.le_of_ble_eq_true rfl), trivial⟩)
            cases e5 : step incsK.cod md p4.1 a.fences with
            | none =>
              rw [e5] at CALL
              have hr0 : r = none := by
                have h9 := HR.out
                have hh0 := E0.out; change step (whole 1 2) md l a.state = _ at hh0; rw [hh0] at h9; simp only [Option.bind_some] at h9
                have hh1 := E1.out; change step four_ md p0.1 a.inc = _ at hh1; rw [hh1] at h9; simp only [Option.bind_some] at h9
                have hh2 := E2.out; change step four_ md p1.1 a.ver = _ at hh2; rw [hh2] at h9; simp only [Option.bind_some] at h9
                have hh3 := E3.out; change step entsC md p2.1 a.data = _ at hh3; rw [hh3] at h9; simp only [Option.bind_some] at h9
                have hh4 := E4.out; change step (list 64 lckC) md p3.1 a.locks = _ at hh4; rw [hh4] at h9; simp only [Option.bind_some] at h9
                change step (rep four_ 4) md p4.1 a.fences = _ at e5; rw [e5] at h9; exact h9
              clear e5
              subst hr0
              go_wp2_with fail
              refine CALL.out.mono ?_
              rintro e w' ⟨h8, a', h9, h10, rfl, h11⟩
              exact ⟨rfl, coded_gave ⟨a', h9, h10, rfl, h11⟩ h8⟩
            | some p5 =>
              rw [e5] at CALL
              have hlen5 := (rowK_okay (natK_okay (kd := .u32) (size := 4) (most := 4294967295) (by decide) (by decide)) _ _ 4).step M5.out.cd.bytes_of e5
              have E5 := Lib.hid e5
              clear e5
              go_wp2_with fail
              refine CALL.out.mono ?_
              rintro e w6 ⟨rfl, hM⟩
              have M6 := Lib.hid hM
              clear hM CALL
              have CALL := Lib.hid (M6.out.call (listK_okay vtdK_okay (max := 64) (by decide)).fine (show Codes _ [.int .u64 64, .func (.func 170) #[] #[]] _ _ from listvtd_codes 16 vtdK_okay.len vtdK_okay.good vtd_codes 64 (by decide)) Z6.out HN.out HW.out HRD.out hg hne (by omega) (Nat.le_of_ble_eq_true rfl) ⟨(rowK_okay (natK_okay (kd := .u32) (size := 4) (most := 4294967295) (by decide) (by decide)) _ _ 4).fine.slot _ _, ⟨(listK_okay lckK_okay (max := 64) (by decide)).fine.slot _ _, ⟨(listK_okay entK_okay (max := 8) (by decide)).fine.slot _ _, ⟨(natK_okay (kd := .u32) (size := 4) (most := 4294967295) (by decide) (by decide)).fine.slot _ _, ⟨(natK_okay (kd := .u32) (size := 4) (most := 4294967295) (by decide) (by decide)).fine.slot _ _, ⟨(intK_okay (size := 1) (most := 2) (by decide) (by decide)).fine.slot _ _, trivial⟩⟩⟩⟩⟩⟩ trivial ⟨.inl (Nat.le_of_ble_eq_true rfl), ⟨.inl (Nat.le_of_ble_eq_true rfl), ⟨.inl (Nat.le_of_ble_eq_true rfl), ⟨.inl (Nat.le_of_ble_eq_true rfl), ⟨.inl (Nat.le_of_ble_eq_true rfl), ⟨.inl (Nat.le_of_ble_eq_true rfl), trivial⟩⟩⟩⟩⟩⟩ trivial)
              cases e6 : step (listK vtdK 64).cod md p5.1 a.votes with
              | none =>
                rw [e6] at CALL
                have hr0 : r = none := by
                  have h9 := HR.out
                  have hh0 := E0.out; change step (whole 1 2) md l a.state = _ at hh0; rw [hh0] at h9; simp only [Option.bind_some] at h9
                  have hh1 := E1.out; change step four_ md p0.1 a.inc = _ at hh1; rw [hh1] at h9; simp only [Option.bind_some] at h9
                  have hh2 := E2.out; change step four_ md p1.1 a.ver = _ at hh2; rw [hh2] at h9; simp only [Option.bind_some] at h9
                  have hh3 := E3.out; change step entsC md p2.1 a.data = _ at hh3; rw [hh3] at h9; simp only [Option.bind_some] at h9
                  have hh4 := E4.out; change step (list 64 lckC) md p3.1 a.locks = _ at hh4; rw [hh4] at h9; simp only [Option.bind_some] at h9
                  have hh5 := E5.out; change step (rep four_ 4) md p4.1 a.fences = _ at hh5; rw [hh5] at h9; simp only [Option.bind_some] at h9
                  change step (list 64 vtdC) md p5.1 a.votes = _ at e6; rw [e6] at h9; exact h9
                clear e6
                subst hr0
                go_wp2_with fail
                refine CALL.out.mono ?_
                rintro e w' ⟨h8, a', h9, h10, rfl, h11⟩
                exact ⟨rfl, coded_gave ⟨a', h9, h10, rfl, h11⟩ h8⟩
              | some p6 =>
                rw [e6] at CALL
                have hlen6 := (listK_okay vtdK_okay (max := 64) (by decide)).step M6.out.cd.bytes_of e6
                have E6 := Lib.hid e6
                clear e6
                go_wp2_with fail
                refine CALL.out.mono ?_
                rintro e w7 ⟨rfl, hM⟩
                have M7 := Lib.hid hM
                clear hM CALL
                have hr0 : r = some (p6.1, ⟨p0.2, p1.2, p2.2, p3.2, p4.2, p5.2, p6.2⟩) := by
                  have h9 := HR.out
                  have hh0 := E0.out; change step (whole 1 2) md l a.state = _ at hh0; rw [hh0] at h9; simp only [Option.bind_some] at h9
                  have hh1 := E1.out; change step four_ md p0.1 a.inc = _ at hh1; rw [hh1] at h9; simp only [Option.bind_some] at h9
                  have hh2 := E2.out; change step four_ md p1.1 a.ver = _ at hh2; rw [hh2] at h9; simp only [Option.bind_some] at h9
                  have hh3 := E3.out; change step entsC md p2.1 a.data = _ at hh3; rw [hh3] at h9; simp only [Option.bind_some] at h9
                  have hh4 := E4.out; change step (list 64 lckC) md p3.1 a.locks = _ at hh4; rw [hh4] at h9; simp only [Option.bind_some] at h9
                  have hh5 := E5.out; change step (rep four_ 4) md p4.1 a.fences = _ at hh5; rw [hh5] at h9; simp only [Option.bind_some] at h9
                  have hh6 := E6.out; change step (list 64 vtdC) md p5.1 a.votes = _ at hh6; rw [hh6] at h9; simp only [Option.bind_some] at h9
                  first | exact h9 | (rw [hb]; exact h9)
                subst hr0
                go_wp2_with fail
                go_end0
                have M := M7.out
                obtain ⟨⟨d6, q6, x6⟩, ⟨d5, q5, x5⟩, ⟨d4, q4, x4⟩, ⟨d3, q3, x3⟩, ⟨d2, q2, x2⟩, ⟨d1, q1, x1⟩, ⟨d0, q0, x0⟩, _⟩ := M.dn
                change (intK 1 2).is w7 (Grow md N w w7) d0 p0.2 at q0
                have t0 := (intK_okay (size := 1) (most := 2) (by decide) (by decide)).fine.size _ _ _ _ q0; change d0.length = 1 at t0; change Cells _ g (o + 0) d0 at x0
                change (natK .u32 4 4294967295).is w7 (Grow md N w w7) d1 p1.2 at q1
                have t1 := (natK_okay (kd := .u32) (size := 4) (most := 4294967295) (by decide) (by decide)).fine.size _ _ _ _ q1; change d1.length = 1 at t1; change Cells _ g (o + 1) d1 at x1
                change (natK .u32 4 4294967295).is w7 (Grow md N w w7) d2 p2.2 at q2
                have t2 := (natK_okay (kd := .u32) (size := 4) (most := 4294967295) (by decide) (by decide)).fine.size _ _ _ _ q2; change d2.length = 1 at t2; change Cells _ g (o + 2) d2 at x2
                change (listK entK 8).is w7 (Grow md N w w7) d3 p3.2 at q3
                have t3 := (listK_okay entK_okay (max := 8) (by decide)).fine.size _ _ _ _ q3; change d3.length = 1 at t3; change Cells _ g (o + 3) d3 at x3
                change (listK lckK 64).is w7 (Grow md N w w7) d4 p4.2 at q4
                have t4 := (listK_okay lckK_okay (max := 64) (by decide)).fine.size _ _ _ _ q4; change d4.length = 1 at t4; change Cells _ g (o + 4) d4 at x4
                change incsK.is w7 (Grow md N w w7) d5 p5.2 at q5
                have t5 := (rowK_okay (natK_okay (kd := .u32) (size := 4) (most := 4294967295) (by decide) (by decide)) _ _ 4).fine.size _ _ _ _ q5; change d5.length = 4 at t5; change Cells _ g (o + 5) d5 at x5
                change (listK vtdK 64).is w7 (Grow md N w w7) d6 p6.2 at q6
                have t6 := (listK_okay vtdK_okay (max := 64) (by decide)).fine.size _ _ _ _ q6; change d6.length = 1 at t6; change Cells _ g (o + 9) d6 at x6
                have y5 := cells_join x5 (show Cells _ g (o + 5 + d5.length) _ from by rw [t5, Nat.add_assoc]; exact x6)
                have y4 := cells_join x4 (show Cells _ g (o + 4 + d4.length) _ from by rw [t4, Nat.add_assoc]; exact y5)
                have y3 := cells_join x3 (show Cells _ g (o + 3 + d3.length) _ from by rw [t3, Nat.add_assoc]; exact y4)
                have y2 := cells_join x2 (show Cells _ g (o + 2 + d2.length) _ from by rw [t2, Nat.add_assoc]; exact y3)
                have y1 := cells_join x1 (show Cells _ g (o + 1 + d1.length) _ from by rw [t1, Nat.add_assoc]; exact y2)
                have y0 := cells_join x0 (show Cells _ g (o + 0 + d0.length) _ from by rw [t0, Nat.add_assoc]; exact y1)
                exact ⟨M.safe, rfl, M.cd, ⟨d0 ++ (d1 ++ (d2 ++ (d3 ++ (d4 ++ (d5 ++ (d6)))))), ⟨d0, d1, d2, d3, d4, d5, d6, rfl, q0, q1, q2, q3, q4, q5, q6⟩, by rw [Nat.add_zero] at y0; exact y0⟩, M.out, M.fz⟩

set_option maxHeartbeats 16000000 in
theorem listcpy_codes (mx : Nat) (hlen : ∀ a, (cpyK).cod.ok a = true → ((cpyK).cod.enc a).length ≤ mx) (hgood : Good (cpyK).cod) (hE : Codes 123 [] (cpyK) mx) (max : Nat) (hm : max ≤ 255) : Codes 126 [.int .u64 (max : Int), .func (.func 123) #[] #[]] (listK (cpyK) max) (8 + max * mx) := by
  intro md P N gc sb f l g o cs xs w hcd hz his hcs hN hw hr hg hne hl
  obtain ⟨ao0, n0, cap0, rfl, hsl⟩ := his
  have hp := hcs 0 _ rfl
  simp only [Nat.add_zero] at hp
  have hn0 : n0 ≤ 9223372036854775807 := Nat.le_trans hsl.2.1 hsl.2.2.1
  have hxs := hsl.1
  have HCAP := Lib.hid hsl.2.2.1
  have hz0 : md = true → n0 = 0 := fun h => by rw [← hxs, hz h]; rfl
  have NB := Lib.hid (boxnum hcd hg hne hw n0 hn0 hz0 max hm (by omega))
  show Calls _ _ #[.pointer (some ⟨gc, 0, none⟩), .pointer (some ⟨g, o, none⟩), .int .u64 (max : Int), .func (.func 123) #[] #[]] w (Coded md P N gc sb f g o (listK (cpyK) max) w (step (list max (cpyK).cod) md l xs))
  have HR := Lib.hid (step_list (cpyK).cod md max (cpyK).zero xs l)
  rw [hxs] at HR
  generalize hrr : step (list max (cpyK).cod) md l xs = r at *
  clear hrr
  have hgc := hcd.lt
  have HNP := Lib.hid hN
  have HPO := Lib.hid (fun b (hb : P b) => hcd.off hb)
  cases md
  · have HE := Lib.hid (fun l' w' hcd' hs' => coded_wrote (sb := sb) (f := f) (gc := gc) (l' := l') (listK_fine cpyK_okay.fine max) (w' := w') hcd' hs' (hw rfl) hN ⟨ao0, n0, cap0, rfl, hsl⟩ hcs)
    obtain ⟨g2, o2, hsn, hat⟩ := sl_at hsl
    have HAT := Lib.hid hat
    clear hat
    by_cases hok : n0 ≤ max
    · rw [num_w hok] at NB HR
      simp only [Option.bind_some, Bool.false_eq_true, if_false] at HR
      clear hz hcs hN hw hr hcd hz0 hsl
      go_enter Tryz.func126, Tryz.ntmps126
      go_wp2_with fail
      refine NB.out.mono ?_
      rintro e w1 ⟨rfl, h1, h2, h3, h4, h5⟩
      have h1 : CdIs w1 false (fun b => P b ∨ b = g ∨ b = w.heap.size) gc sb f (l ++ le 1 n0) := h1
      have h3 : w1.cell? ⟨w.heap.size, 0, none⟩ = some (.int .i64 (n0 : Int)) := h3
      have hp1 := (h2.cell (a := ⟨g, o, none⟩) (.inr rfl)).trans hp
      have H2 := Lib.hid h2
      have M0 := Lib.hid (MidL.start (k := cpyK) (N := N) (g := g2) (o := o2) (xs := xs) h1 (fun i a hi => by
        obtain ⟨cs, q1, q2⟩ := HAT.out i a hi
        have hn : 0 < n0 := by have := (List.getElem?_eq_some_iff.1 hi).1; omega
        exact ⟨cs, cpyK_okay.fine.mono _ _ _ _ _ (cpyK_okay.fine.safe _ _ _ _ _ _ q1 (h2.mono fun b hb => .inl hb) HNP.out) (fun b hb => .inl hb), q2.safe h2 (.inl (HNP.out _ (hsn hn).2))⟩))
      have HSZ := Lib.hid (show w.heap.size ≤ w1.heap.size from h2.size)
      have HPG := Lib.hid hp1
      have hcc := h1
      obtain ⟨ao, n, cap, ha, hof⟩ := h1
      have c0 := ha.c0
      have HL0 := Lib.hid (show (l ++ le 1 n0).length = l.length + 1 by simp [le_length])
      clear ha hof h2 h4 hp hp1 hcc
      generalize l ++ le 1 n0 = l1 at *
      go_wp2_with fail
      clear c0 h3
      go_loopw [30] (fun i wr => ∃ (k : Nat) (lk : List Nat), k ≤ n0 ∧ i = .int .i64 (k : Int) ∧ stepL (cpyK).cod false (xs.take k) l1 = some (lk, xs.take k) ∧ lk.length ≤ l.length + 1 + k * mx ∧ MidL false (fun b => P b ∨ b = g ∨ b = w.heap.size) N gc sb f lk g2 o2 (cpyK) xs w1 wr) (fun i _ => n0 - (intOf i).toNat)
      case atStart => exact ⟨0, l1, by omega, rfl, rfl, by rw [HL0.out]; omega, M0.out⟩
      case round =>
        obtain ⟨k, lk, hk, rfl, hst, hlk, hM⟩ := hrel
        have HM := Lib.hid hM
        have HST := Lib.hid hst
        have hp2 := (hM.safe.toSafe.cell (a := ⟨g, o, none⟩) (.inr (.inl rfl))).trans HPG.out
        clear hM hst
        by_cases hlt : k < n0
        · have hi : xs[k]? = some (xs[k]'(by omega)) := List.getElem?_eq_getElem (by omega)
          generalize xs[k]'(by omega) = a at hi
          have HI := Lib.hid hi
          obtain ⟨hao, hNg⟩ := hsn (by omega)
          have hkm : (k + 1) * mx ≤ max * mx := Nat.mul_le_mul_right _ (by omega)
          rw [Nat.succ_mul] at hkm
          have CALL := Lib.hid (HM.out.call cpyK_okay.fine hE hi (fun h => by cases h) (fun b hb => .inl (HNP.out b hb)) (fun _ => .inl (HNP.out _ hNg)) (fun h => by cases h) (Nat.lt_of_lt_of_le (HPO.out _ (HNP.out _ hNg)).1 HSZ.out) (HPO.out _ (HNP.out _ hNg)).2 (by omega))
          have HMORE := Lib.hid (stepL_more (cpyK).cod false hi l1)
          rw [HST.out] at HMORE
          subst hao
          clear hi
          cases hs : step (cpyK).cod false lk a with
          | none =>
            rw [hs] at CALL
            have hr0 : r = none := by
              rw [HR.out]
              refine stepL_none _ _ l1 (k := k + 1) ?_
              have h9 := HMORE.out
              simp only [Option.bind_some, hs, Option.map_none] at h9
              exact h9
            clear hs HMORE
            subst hr0
            go_wp2_with fail
            refine CALL.out.mono ?_
            rintro e w' ⟨h8, a', h9, h10, rfl, h11⟩
            exact ⟨rfl, coded_gave (Gave.from ⟨a', h9, h10, rfl, h11⟩ HSZ.out) ((SafeK.of H2.out).trans (SafeK.of (h8.toSafe.mono fun b hb => by
              rcases hb with hb | hb
              · exact .inl hb
              · exact .inr (.inl hb))))⟩
          | some p =>
            rw [hs] at CALL
            have HS := Lib.hid hs
            clear hs
            go_wp2_with fail
            refine CALL.out.mono ?_
            rintro e w' ⟨rfl, hM2⟩
            have HM2 := Lib.hid (midl_wrote HI.out HS.out hM2)
            clear hM2
            go_wp2_with fail
            go_roundw
            case rel =>
              refine ⟨k + 1, p.1, by omega, by go_num, ?_, ?_, HM2.out⟩
              · have h9 := HMORE.out
                have h10 := HS.out
                rw [step_w] at h10
                split at h10
                · injection h10 with h10
                  subst h10
                  rename_i hk2
                  simp only [Option.bind_some, step_w, hk2, if_true, Option.map_some] at h9
                  rw [h9, List.take_add_one, HI.out]; rfl
                · cases h10
              · have h10 := HS.out
                rw [step_w] at h10
                split at h10
                · injection h10 with h10
                  subst h10
                  rename_i hk2
                  have := hlen a hk2
                  simp only [List.length_append, Nat.succ_mul]
                  omega
                · cases h10
            case measure => simp [intOf]; omega
        · obtain rfl : n0 = k := by omega
          have hr0 : r = some (lk, xs) := by
            rw [HR.out]
            have h9 := HST.out
            rwa [List.take_of_length_le (by omega)] at h9
          subst hr0
          go_wp2_with fail
          go_end0
          exact HE.out _ _ (HM.out.cd.reP (fun hm => by cases hm) fun b hb => .inl (.inl (.inl hb))) ((H2.out.mono fun b hb => .inl hb).trans (HM.out.safe.toSafe.mono fun b hb => .inl hb))
    · rw [num_w_no (by omega)] at NB HR
      simp only [Option.bind_none] at HR
      have hr0 : r = none := HR.out
      subst hr0
      clear hz hcs hN hw hr hcd hz0 hsl
      go_enter Tryz.func126, Tryz.ntmps126
      go_wp2_with fail
      refine NB.out.mono ?_
      rintro e w1 ⟨hs, a, h1, h2, rfl, h3⟩
      exact ⟨rfl, coded_gave ⟨a, h1, h2, rfl, h3⟩ hs⟩
  · have hf0 := (hr rfl).2 o
    have hsrc := hcd.src
    have hnP := (hr rfl).1
    have hl0 := hcd.bytes
    obtain rfl : xs = [] := hz rfl
    obtain rfl : n0 = 0 := hz0 rfl
    clear hz hcs hN hw hr hcd hz0 hsl
    cases hst : step (num' 1 max) true l 0 with
    | none =>
      rw [hst] at NB HR
      simp only [Option.bind_none] at HR
      have hr0 : r = none := HR.out
      subst hr0
      clear hst
      go_enter Tryz.func126, Tryz.ntmps126
      go_wp2_with fail
      refine NB.out.mono ?_
      rintro e w1 ⟨hs, a, h1, h2, rfl, h3⟩
      exact ⟨rfl, coded_gave ⟨a, h1, h2, rfl, h3⟩ hs⟩
    | some p =>
      obtain ⟨l', n⟩ := p
      obtain ⟨hnm, hll⟩ := num_r_le hst
      rw [hst] at NB HR
      simp only [Option.bind_some, if_true] at HR
      clear hst
      by_cases hn : n = 0
      · subst hn
        have hr0 : r = some (l', []) := HR.out
        subst hr0
        go_enter Tryz.func126, Tryz.ntmps126
        go_wp2_with fail
        refine NB.out.mono ?_
        rintro e w1 ⟨rfl, h1, h2, h3, h4, h5⟩
        have h1 : CdIs w1 true (fun b => P b ∨ b = g ∨ b = w.heap.size) gc sb f l' := h1
        have h3 : w1.cell? ⟨w.heap.size, 0, none⟩ = some (.int .i64 0) := h3
        have hp1 := (h2.cell (a := ⟨g, o, none⟩) (.inr rfl)).trans hp
        have HE := Lib.hid (Coded.from (N := N) (listK_fine cpyK_okay.fine max) (coded_keep (N := N) (k := listK (cpyK) max) (g := g) (o := o) (a := []) (cs := [.slice ao0 0 cap0]) (listK_fine cpyK_okay.fine max) h1 (fun b hb => .inl hb) hsrc ⟨ao0, 0, cap0, rfl, rfl, Nat.zero_le _, HCAP.out, fun i a hi => by simp at hi⟩ (fun j u hu => by
          obtain rfl : j = 0 := by
            have := (List.getElem?_eq_some_iff.1 hu).1
            simp at this; exact this
          obtain rfl : Value.slice ao0 0 cap0 = u := by simpa using hu
          exact hp1)) h2 hgc)
        obtain ⟨ao, nn, cap, ha, hof⟩ := h1
        have c0 := ha.c0
        clear ha hof h2 h4 hp hp1
        go_wp2_with fail
        go_loopw [30] (fun i wr => i = .int .i64 0 ∧ wr = w1) (fun _ _ => 0)
        case atStart => exact ⟨rfl, rfl⟩
        case round =>
          obtain ⟨rfl, rfl⟩ := hrel
          go_wp2_with fail
          go_end0
          exact HE.out
      · have hn1 : 1 ≤ n := by omega
        clear hn
        have HMM := Lib.hid (show mx ≤ max * mx from Nat.le_mul_of_pos_left _ (by omega))
        have HLL := Lib.hid hll
        clear hll
        go_enter Tryz.func126, Tryz.ntmps126
        go_wp2_with fail
        refine NB.out.mono ?_
        rintro e w1 ⟨rfl, h1, h2, h3, h4, h5⟩
        have h1 : CdIs w1 true (fun b => P b ∨ b = g ∨ b = w.heap.size) gc sb f l' := h1
        have h3 : w1.cell? ⟨w.heap.size, 0, none⟩ = some (.int .i64 (n : Int)) := h3
        have hp1 := (h2.cell (a := ⟨g, o, none⟩) (.inr rfl)).trans hp
        have hf1 : w1.frozen? ⟨g, o, none⟩ = false := (World.frozen?_of_block (w := w) (a := ⟨g, o, none⟩) (h2.block g (.inr rfl))).trans hf0
        have HLD := Lib.hid (laid_of (o := o) (n := n) (k := cpyK) h1 hsrc hnP hne hg hgc h5 (Value.agg #[.int .i64 0, .int .u32 0, .int .u32 0, .slice none 0 0, .slice none 0 0, .int .u32 0, .int .u32 0, .int .u32 0, .int .u32 0, .slice none 0 0]) 44 _ rfl rfl (fun w N => ⟨[.int .i64 0], [.int .u32 0], [.int .u32 0], [.slice none 0 0], [.slice none 0 0], [.int .u32 0, .int .u32 0, .int .u32 0, .int .u32 0], [.slice none 0 0], rfl, ⟨rfl, by unfold I64; decide⟩, ⟨rfl, by decide⟩, ⟨rfl, by decide⟩, ⟨none, 0, 0, rfl, rfl, Nat.le_refl _, by decide, fun i a h => by change none = some a at h; cases h⟩, ⟨none, 0, 0, rfl, rfl, Nat.le_refl _, by decide, fun i a h => by change none = some a at h; cases h⟩, ⟨rfl, rfl, fun x hx => by change x ∈ ([0, 0, 0, 0] : List Nat) at hx; have hx : x = 0 := (by simpa using hx); subst hx; decide⟩, ⟨none, 0, 0, rfl, rfl, Nat.le_refl _, by decide, fun i a h => by change none = some a at h; cases h⟩⟩) (by rw [hp1]; rfl) hf1)
        have RM := Lib.hid (run_mk w1 47 44 (Value.agg #[.int .i64 0, .int .u32 0, .int .u32 0, .slice none 0 0, .slice none 0 0, .int .u32 0, .int .u32 0, .int .u32 0, .int .u32 0, .slice none 0 0]) (cpyK).sz 104 (by kernel_rfl) (by kernel_rfl) n (by omega) (by decide))
        have H2 := Lib.hid h2
        obtain ⟨ao, nn, cap, ha, hof⟩ := h1
        have c0 := ha.c0
        clear ha hof h2 h4 hp
        generalize w1.alloc (.cells (madeCells (Value.agg #[.int .i64 0, .int .u32 0, .int .u32 0, .slice none 0 0, .slice none 0 0, .int .u32 0, .int .u32 0, .int .u32 0, .int .u32 0, .slice none 0 0]).cells (n * (cpyK).sz)) 44) = w2 at *
        obtain ⟨xv, c2⟩ := Option.isSome_iff_exists.1 HLD.out.c2
        have f2 := HLD.out.f2
        have c3 := HLD.out.c3
        have b3 := HLD.out.b3.trans h3
        have hd : decide (0 < n) = true := decide_eq_true (by omega)
        go_wp2_with (at_make; refine wpList_runs rfl _ _ (exec_make (vl := .int .i64 (n : Int)) (vc := .int .i64 (n : Int)) 47 (.tmp 26) (.tmp 26) rfl rfl rfl RM.out) ?_)
        generalize w2.setCell ⟨g, o, none⟩ _ = w3 at *
        clear c0 h3 hp1 hf1 c2 f2 hd RM b3
        have HC3 := Lib.hid c3
        clear c3
        go_loopw [30] (fun i wr => ∃ (k : Nat) (lk : List Nat) (ys : List _), k ≤ n ∧ i = .int .i64 (k : Int) ∧ stepL (cpyK).cod true ((List.replicate n (cpyK).zero).take k) l' = some (lk, ys) ∧ lk.length ≤ l.length ∧ MidL true (fun b => P b ∨ b = g ∨ b = w.heap.size) (fun _ => False) gc sb f lk w1.heap.size 0 (cpyK) (ys ++ List.replicate (n - k) (cpyK).zero) w3 wr) (fun i _ => n - (intOf i).toNat)
        case atStart => exact ⟨0, l', [], by omega, rfl, rfl, HLL.out, HLD.out.mid⟩
        case round =>
          obtain ⟨k, lk, ys, hk, rfl, hst, hlk, hM⟩ := hrel
          have HM := Lib.hid hM
          have HST := Lib.hid hst
          have hp2 := (hM.safe.toSafe.cell (a := ⟨g, o, none⟩) (.inr (.inl rfl))).trans HC3.out
          have hyl : ys.length = k := by rw [stepL_len _ _ _ _ _ _ hst]; simp; omega
          have HYL := Lib.hid hyl
          have HSR := Lib.hid HLD.out.sz
          clear hM hst
          by_cases hlt : k < n
          · have hi : (ys ++ List.replicate (n - k) (cpyK).zero)[k]? = some (cpyK).zero := by
              rw [List.getElem?_append_right (by omega), hyl, Nat.sub_self, List.getElem?_replicate, if_pos (by omega)]
            have CALL := Lib.hid (HM.out.call cpyK_okay.fine hE hi (fun _ => rfl) (fun b hb => hb.elim) (fun h => by cases h) (fun _ => ⟨(fun hb => by
              rcases hb with hb | hb | hb
              · have := HPO.out _ hb; have := H2.out.size; omega
              · have := H2.out.size; omega
              · omega), HLD.out.f3⟩) (by rw [HSR.out]; omega) (by have := H2.out.size; omega) (by have := HMM.out; omega))
            have HMORE := Lib.hid (stepL_more (cpyK).cod true (x := List.replicate n (cpyK).zero) (k := k) (a := (cpyK).zero) (by rw [List.getElem?_replicate, if_pos hlt]) l')
            rw [HST.out] at HMORE
            rw [Nat.zero_add] at CALL
            clear hi hyl
            cases hs : step (cpyK).cod true lk (cpyK).zero with
            | none =>
              rw [hs] at CALL
              have hr0 : r = none := by
                rw [HR.out]
                refine stepL_none _ _ l' (k := k + 1) ?_
                have h9 := HMORE.out
                simp only [Option.bind_some, hs, Option.map_none] at h9
                exact h9
              clear hs HMORE
              subst hr0
              go_wp2_with fail
              refine CALL.out.mono ?_
              rintro e w' ⟨h8, a', h9, h10, rfl, h11⟩
              exact ⟨rfl, coded_gave (Gave.from ⟨a', h9, h10, rfl, h11⟩ (by have := H2.out.size; have := HSR.out; omega)) (((SafeK.of H2.out).trans ⟨HLD.out.s3, fun j hj => (by
                by_cases e : j = o
                · subst e; rw [HC3.out]; rfl
                · rw [HLD.out.ot j e]; exact hj), HLD.out.fz⟩).trans (SafeK.of (h8.toSafe.mono fun b hb => by
                rcases hb with hb | hb
                · exact .inl hb
                · exact .inr (.inl hb))))⟩
            | some p =>
              rw [hs] at CALL
              have HSH := Lib.hid (step_short hgood HM.out.cd.bytes hs)
              have HMORE2 : Hid (stepL (cpyK).cod true ((List.replicate n (cpyK).zero).take (k + 1)) l' = some (p.1, ys ++ [p.2])) := Lib.hid (by
                have h9 := HMORE.out
                simp only [Option.bind_some, hs, Option.map_some] at h9
                exact h9)
              clear hs HMORE
              go_wp2_with fail
              refine CALL.out.mono ?_
              rintro e w' ⟨rfl, hM2⟩
              have hM3 := hM2
              rw [set_mid _ _ _ _ _ HYL.out hlt] at hM3
              have HM2 := Lib.hid hM3
              clear hM2 hM3
              go_wp2_with fail
              go_roundw
              case rel => exact ⟨k + 1, p.1, ys ++ [p.2], by omega, by go_num, HMORE2.out, by have := HSH.out; omega, HM2.out⟩
              case measure => simp [intOf]; omega
          · obtain rfl : n = k := by omega
            have hr0 : r = some (lk, ys) := by
              rw [HR.out]
              have h9 := HST.out
              rwa [List.take_of_length_le (by simp)] at h9
            subst hr0
            clear hyl
            go_wp2_with fail
            go_end0
            have M := HM.out
            rw [Nat.sub_self, List.replicate_zero, List.append_nil] at M
            exact coded_listread cpyK_okay.fine H2.out HLD.out.s3 hsrc hgc (Nat.le_refl _) (by rw [HSR.out]; omega) HC3.out HLD.out.ot HLD.out.fz HYL.out (by omega) M

end Go.Proofs.YtngcbpgafjnfaaaGreatDoor


namespace Go.Proofs.YtngcbpgafjnfaaaGreatDoor
open Go.RowKit Go.Sort
set_option linter.unusedVariables false

/-- acc -/
def accK : Kd Acc := ⟨accC, 4, ⟨false, ⟨0, 0⟩, ByteArray.empty⟩, fun w N cs a => ∃ c0 c1 c2, cs = c0 ++ (c1 ++ (c2)) ∧ flagK.is w N c0 a.is ∧ balK.is w N c1 a.b ∧ (textK 64).is w N c2 a.value⟩
theorem accK_fine : accK.Fine := by
  refine ⟨fun w N cs a ha => ?_, fun w w' N P cs a ha hs hN => ?_, fun w N M cs a ha hm => ?_⟩
  · obtain ⟨c0, c1, c2, rfl, h0, h1, h2⟩ := ha
    have s0 := flagK_okay.fine.size _ _ _ _ h0; have s1 := balK_okay.fine.size _ _ _ _ h1; have s2 := (textK_okay (max := 64) (by decide)).fine.size _ _ _ _ h2
    change c0.length = 1 at s0; change c1.length = 2 at s1; change c2.length = 1 at s2
    show _ = 4
    simp only [List.length_append]; omega
  · obtain ⟨c0, c1, c2, e, h0, h1, h2⟩ := ha
    exact ⟨c0, c1, c2, e, flagK_okay.fine.safe _ _ _ _ _ _ h0 hs hN, balK_okay.fine.safe _ _ _ _ _ _ h1 hs hN, (textK_okay (max := 64) (by decide)).fine.safe _ _ _ _ _ _ h2 hs hN⟩
  · obtain ⟨c0, c1, c2, e, h0, h1, h2⟩ := ha
    exact ⟨c0, c1, c2, e, flagK_okay.fine.mono _ _ _ _ _ h0 hm, balK_okay.fine.mono _ _ _ _ _ h1 hm, (textK_okay (max := 64) (by decide)).fine.mono _ _ _ _ _ h2 hm⟩
theorem step_acc (md : Bool) (l : List Nat) (a : Acc) : step accC md l a = (step flag md l a.is).bind fun p0 => (step (heldC p0.2) md p0.1 (a.b, a.value)).bind fun q => some (q.1, ⟨p0.2, q.2.1, q.2.2⟩) := by
  unfold accC
  rw [step_map _ _ _ _ _ _ (fun _ => rfl)]
  simp only [step_dep, Option.map_bind, Option.bind_assoc, Option.bind_some, Option.map_some, Function.comp_def]
theorem step_held (md : Bool) (l : List Nat) (a : Bal × ByteArray) (h : md = true → a = (⟨0, 0⟩, ByteArray.empty)) : step (heldC false) md l a = if decide (a = (⟨0, 0⟩, ByteArray.empty)) then some (l, a) else none :=
  step_skip ((⟨0, 0⟩ : Bal), ByteArray.empty) (fun x => decide (x = ((⟨0, 0⟩ : Bal), ByteArray.empty))) l a md (fun h => by simpa using h) (fun h' => by rw [h h']; simp)
theorem step_held2 (md : Bool) (l : List Nat) (b : Bal) (v : ByteArray) {β : Type} (k : List Nat × (Bal × ByteArray) → Option β) : (step (heldC true) md l (b, v)).bind k = (step balC md l b).bind fun p1 => (step (text 64) md p1.1 v).bind fun p2 => k (p2.1, (p1.2, p2.2)) := by
  show (step (balC.two (text 64)) md l (b, v)).bind k = _
  rw [step_two]
  simp only [Option.bind_assoc, Option.bind_some]
theorem byte_nil {s : ByteArray} (h : s.toList = []) : s = ByteArray.empty := by
  apply ByteArray.ext
  apply Array.toList_inj.1
  rw [← Go.Lib.toList_data, h]; rfl
theorem accK_okay : accK.Okay 324 := ⟨accK_fine, acc_good, fun a ha => enc_len (c := accC) ha fun p hp => by
  rw [step_acc] at hp
  obtain ⟨p0, e0, hp⟩ := bind_some_of hp
  have t0 := okay_stepw flagK_okay (show step flagK.cod false _ _ = _ from e0)
  cases hb : p0.2
  · rw [hb, step_held _ _ _ (fun h => by cases h)] at hp
    obtain ⟨q, e1, hp⟩ := bind_some_of hp
    split at e1
    · injection e1 with e1
      injection hp with hp
      subst hp
      rw [← e1]
      simp at *
      omega
    · cases e1
  · rw [hb, step_held2] at hp
    obtain ⟨p1, e1, hp⟩ := bind_some_of hp
    have t1 := okay_stepw balK_okay (show step balK.cod false _ _ = _ from e1)
    obtain ⟨p2, e2, hp⟩ := bind_some_of hp
    have t2 := okay_stepw (textK_okay (max := 64) (by decide)) (show step (textK 64).cod false _ _ = _ from e2)
    injection hp with hp
    subst hp
    simp at *
    omega⟩

set_option maxHeartbeats 8000000 in
theorem acc_codes : Codes 103 [] accK 324 := by
  intro md P N gc sb f l g o cs a w hcd hz his hcs hN hw hr hg hne hl
  obtain ⟨c0, c1, c2, rfl, h0, h1, h2⟩ := his
  have s0 := flagK_okay.fine.size _ _ _ _ h0; change c0.length = 1 at s0
  have s1 := balK_okay.fine.size _ _ _ _ h1; change c1.length = 2 at s1
  have s2 := (textK_okay (max := 64) (by decide)).fine.size _ _ _ _ h2; change c2.length = 1 at s2
  have k0 := cells_left hcs; have r0 := cells_right hcs; rw [s0] at r0
  have k1 := cells_left r0; have r1 := cells_right r0; rw [s1] at r1
  rw [Nat.add_assoc] at r1
  have k2 := r1
  have M0 := Lib.hid (Mid.start (sz := 4) hcd (show Slots w (Grow md N w w) g o [flagK.slot 0 a.is, balK.slot 1 a.b, (textK 64).slot 3 a.value] from ⟨⟨c0, flagK_okay.fine.mono _ _ (Grow md N w w) _ _ h0 (fun b hb => Or.inl hb), k0⟩, ⟨⟨c1, balK_okay.fine.mono _ _ (Grow md N w w) _ _ h1 (fun b hb => Or.inl hb), k1⟩, ⟨⟨c2, (textK_okay (max := 64) (by decide)).fine.mono _ _ (Grow md N w w) _ _ h2 (fun b hb => Or.inl hb), k2⟩, trivial⟩⟩⟩))
  have Z0 := Lib.hid (show md = true → a.is = flagK.zero from fun h => by rw [hz h]; rfl)
  have Z1 := Lib.hid (show md = true → a.b = balK.zero from fun h => by rw [hz h]; rfl)
  have Z2 := Lib.hid (show md = true → a.value = (textK 64).zero from fun h => by rw [hz h]; rfl)
  show Calls _ _ #[.pointer (some ⟨gc, 0, none⟩), .pointer (some ⟨g, o, none⟩)] w (Coded md P N gc sb f g o accK w (step accC md l a))
  have HR := Lib.hid (step_acc md l a)
  generalize step accC md l a = r at *
  have HN := Lib.hid hN; have HW := Lib.hid hw; have HRD := Lib.hid hr
  clear hcd hz hcs hN hw hr h0 s0 k0 h1 s1 k1 h2 s2 k2 r0 r1
  go_enter Tryz.func103, Tryz.ntmps103
  have CALL := Lib.hid (M0.out.call flagK_okay.fine flag_codes Z0.out HN.out HW.out HRD.out hg hne (by omega) (Nat.le_of_ble_eq_true rfl) trivial ⟨balK_okay.fine.slot _ _, ⟨(textK_okay (max := 64) (by decide)).fine.slot _ _, trivial⟩⟩ trivial ⟨.inr (Nat.le_of_ble_eq_true rfl), ⟨.inr (Nat.le_of_ble_eq_true rfl), trivial⟩⟩)
  rw [Nat.add_zero] at CALL
  cases e0 : step flagK.cod md l a.is with
  | none =>
    rw [e0] at CALL
    have hr0 : r = none := by
      have h9 := HR.out
      change step flag md l a.is = _ at e0; rw [e0] at h9; exact h9
    clear e0
    subst hr0
    go_wp2_with fail
    refine CALL.out.mono ?_
    rintro e w' ⟨h8, a', h9, h10, rfl, h11⟩
    exact ⟨rfl, coded_gave ⟨a', h9, h10, rfl, h11⟩ h8⟩
  | some p0 =>
    rw [e0] at CALL
    have hlen0 := flagK_okay.step M0.out.cd.bytes_of e0
    have E0 := Lib.hid e0
    clear e0
    go_wp2_with fail
    refine CALL.out.mono ?_
    rintro e w1 ⟨rfl, hM⟩
    have M1 := Lib.hid hM
    clear hM CALL
    have M := M1.out
    obtain ⟨⟨d0, q0, x0⟩, _⟩ := M.dn
    obtain ⟨⟨d1, q1, x1⟩, ⟨d2, q2, x2⟩, _⟩ := M.to
    change d0 = [.bool p0.2] at q0
    change Cells _ g (o + 0) d0 at x0; rw [Nat.add_zero] at x0; change Cells _ g (o + 1) d1 at x1; change Cells _ g (o + 3) d2 at x2
    have hw2 : w1.cell? ⟨g, o, none⟩ = some (.bool p0.2) := x0 0 _ (by rw [q0]; rfl)
    cases hb : p0.2 with
    | false =>
      rw [hb] at hw2
      have q1o := q1
      have q2o := q2
      obtain ⟨e1, e2, rfl, ⟨rfl, hrb⟩, ⟨rfl, hnb⟩⟩ := q1
      obtain ⟨rfl, hsv⟩ := q2
      have k1 : w1.cell? ⟨g, o + 1, none⟩ = some (.int .u32 (a.b.round : Int)) := x1 0 _ rfl
      have k2 : w1.cell? ⟨g, o + 2, none⟩ = some (.int .u8 (a.b.node : Int)) := x1 1 _ rfl
      have k3 : w1.cell? ⟨g, o + 3, none⟩ = some (.string a.value) := x2 0 _ rfl
      have HST := Lib.hid (step_held md p0.1 (a.b, a.value) (fun h => by rw [Z1.out h, Z2.out h]; rfl))
      have H9 := Lib.hid (show r = (step (heldC false) md p0.1 (a.b, a.value)).bind fun q => some (q.1, ⟨false, q.2.1, q.2.2⟩) from by
        have h9 := HR.out
        have hh0 := E0.out; change step flag md l a.is = _ at hh0; rw [hh0] at h9; simp only [Option.bind_some] at h9
        rw [hb] at h9; exact h9)
      have HY : Hid (Cells w1 g o (d0 ++ (([.int .u32 (a.b.round : Int)] ++ [.int .u8 (a.b.node : Int)]) ++ [.string a.value]))) := Lib.hid (by
        have y1 := cells_join x1 (show Cells _ g (o + 1 + 2) _ from x2)
        exact cells_join x0 (by rw [q0]; exact y1))
      obtain ⟨ao9, n9, cap9, ha9, hof9⟩ := M.cd
      have NO := Lib.hid (need_no gc md f w1 ha9.c0 ha9.c2)
      have YES := Lib.hid (need_yes gc w1)
      have HP := Lib.hid (fun b (hb : P b) => (hof9.2 b (.inl hb)).1)
      have HM := Lib.hid M
      have HQ0 := Lib.hid q0; have HQ1 := Lib.hid q1o; have HQ2 := Lib.hid q2o
      clear M q0 q1o q2o x0 x1 x2 ha9 hof9
      obtain ⟨ai, ⟨ar, an⟩, av⟩ := a
      simp only at *
      by_cases hall : ar = 0 ∧ an = 0 ∧ av = ByteArray.empty
      · obtain ⟨rfl, rfl, rfl⟩ := hall
        have hr0 : r = some (p0.1, ⟨false, ⟨0, 0⟩, ByteArray.empty⟩) := by rw [H9.out, HST.out]; rfl
        subst hr0
        go_wp2_with fail
        refine YES.out.mono ?_
        rintro e w' ⟨rfl, rfl⟩
        go_wp2_with fail
        refine bodyPost_ret (results_none rfl _ _ _) rfl ?_
        exact ⟨HM.out.safe, rfl, HM.out.cd, ⟨_, ⟨d0, _, _, rfl, by rw [HQ0.out, hb]; rfl, HQ1.out, HQ2.out⟩, HY.out⟩, HM.out.out, HM.out.fz⟩
      · have hr0 : r = none := by
          rw [H9.out, HST.out, if_neg (by simp only [decide_eq_true_eq, Prod.mk.injEq, Bal.mk.injEq]; intro h; exact hall ⟨h.1.1, h.1.2, h.2⟩)]; rfl
        subst hr0
        go_wp2_with fail
        all_goals first
          | (exfalso; exact hall ⟨by assumption, by assumption, byte_nil (by assumption)⟩)
          | (refine NO.out.mono ?_; intro e w' h; cases e <;> first | (exact ⟨rfl, coded_gave (h.gave.from HM.out.safe.size) (HM.out.safe.trans (h.safeK HP.out (Nat.lt_of_lt_of_le hg HM.out.safe.size)))⟩) | (cases h.1))
    | true =>
      rw [hb] at hw2
      clear M q0 q1 q2 x0 x1 x2
      have CALL := Lib.hid (M1.out.call balK_okay.fine bal_codes Z1.out HN.out HW.out HRD.out hg hne (by omega) (Nat.le_of_ble_eq_true rfl) ⟨flagK_okay.fine.slot _ _, trivial⟩ ⟨(textK_okay (max := 64) (by decide)).fine.slot _ _, trivial⟩ ⟨.inl (Nat.le_of_ble_eq_true rfl), trivial⟩ ⟨.inr (Nat.le_of_ble_eq_true rfl), trivial⟩)
      cases e1 : step balK.cod md p0.1 a.b with
      | none =>
        rw [e1] at CALL
        have hr0 : r = none := by
          have h9 := HR.out
          have hh0 := E0.out; change step flag md l a.is = _ at hh0; rw [hh0] at h9; simp only [Option.bind_some] at h9
          rw [hb, step_held2] at h9
          change step balC md p0.1 a.b = _ at e1; rw [e1] at h9; exact h9
        clear e1
        subst hr0
        go_wp2_with fail
        refine CALL.out.mono ?_
        rintro e w' ⟨h8, a', h9, h10, rfl, h11⟩
        exact ⟨rfl, coded_gave ⟨a', h9, h10, rfl, h11⟩ h8⟩
      | some p1 =>
        rw [e1] at CALL
        have hlen1 := balK_okay.step M1.out.cd.bytes_of e1
        have E1 := Lib.hid e1
        clear e1
        go_wp2_with fail
        refine CALL.out.mono ?_
        rintro e w2 ⟨rfl, hM⟩
        have M2 := Lib.hid hM
        clear hM CALL
        have CALL := Lib.hid (M2.out.call (textK_okay (max := 64) (by decide)).fine (show Codes _ [.int .u64 64] _ _ from text_codes 64 (by decide)) Z2.out HN.out HW.out HRD.out hg hne (by omega) (Nat.le_of_ble_eq_true rfl) ⟨balK_okay.fine.slot _ _, ⟨flagK_okay.fine.slot _ _, trivial⟩⟩ trivial ⟨.inl (Nat.le_of_ble_eq_true rfl), ⟨.inl (Nat.le_of_ble_eq_true rfl), trivial⟩⟩ trivial)
        cases e2 : step (textK 64).cod md p1.1 a.value with
        | none =>
          rw [e2] at CALL
          have hr0 : r = none := by
            have h9 := HR.out
            have hh0 := E0.out; change step flag md l a.is = _ at hh0; rw [hh0] at h9; simp only [Option.bind_some] at h9
            rw [hb, step_held2] at h9
            have hh1 := E1.out; change step balC md p0.1 a.b = _ at hh1; rw [hh1] at h9; simp only [Option.bind_some] at h9
            change step (text 64) md p1.1 a.value = _ at e2; rw [e2] at h9; exact h9
          clear e2
          subst hr0
          go_wp2_with fail
          refine CALL.out.mono ?_
          rintro e w' ⟨h8, a', h9, h10, rfl, h11⟩
          exact ⟨rfl, coded_gave ⟨a', h9, h10, rfl, h11⟩ h8⟩
        | some p2 =>
          rw [e2] at CALL
          have hlen2 := (textK_okay (max := 64) (by decide)).step M2.out.cd.bytes_of e2
          have E2 := Lib.hid e2
          clear e2
          go_wp2_with fail
          refine CALL.out.mono ?_
          rintro e w3 ⟨rfl, hM⟩
          have M3 := Lib.hid hM
          clear hM CALL
          have hr0 : r = some (p2.1, ⟨p0.2, p1.2, p2.2⟩) := by
            have h9 := HR.out
            have hh0 := E0.out; change step flag md l a.is = _ at hh0; rw [hh0] at h9; simp only [Option.bind_some] at h9
            rw [hb, step_held2] at h9
            have hh1 := E1.out; change step balC md p0.1 a.b = _ at hh1; rw [hh1] at h9; simp only [Option.bind_some] at h9
            have hh2 := E2.out; change step (text 64) md p1.1 a.value = _ at hh2; rw [hh2] at h9; simp only [Option.bind_some] at h9
            first | exact h9 | (rw [hb]; exact h9)
          subst hr0
          go_wp2_with fail
          go_end0
          have M := M3.out
          obtain ⟨⟨d2, q2, x2⟩, ⟨d1, q1, x1⟩, ⟨d0, q0, x0⟩, _⟩ := M.dn
          change flagK.is w3 (Grow md N w w3) d0 p0.2 at q0
          have t0 := flagK_okay.fine.size _ _ _ _ q0; change d0.length = 1 at t0; change Cells _ g (o + 0) d0 at x0
          change balK.is w3 (Grow md N w w3) d1 p1.2 at q1
          have t1 := balK_okay.fine.size _ _ _ _ q1; change d1.length = 2 at t1; change Cells _ g (o + 1) d1 at x1
          change (textK 64).is w3 (Grow md N w w3) d2 p2.2 at q2
          have t2 := (textK_okay (max := 64) (by decide)).fine.size _ _ _ _ q2; change d2.length = 1 at t2; change Cells _ g (o + 3) d2 at x2
          have y1 := cells_join x1 (show Cells _ g (o + 1 + d1.length) _ from by rw [t1, Nat.add_assoc]; exact x2)
          have y0 := cells_join x0 (show Cells _ g (o + 0 + d0.length) _ from by rw [t0, Nat.add_assoc]; exact y1)
          exact ⟨M.safe, rfl, M.cd, ⟨d0 ++ (d1 ++ (d2)), ⟨d0, d1, d2, rfl, q0, q1, q2⟩, by rw [Nat.add_zero] at y0; exact y0⟩, M.out, M.fz⟩

end Go.Proofs.YtngcbpgafjnfaaaGreatDoor
